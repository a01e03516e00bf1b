/- PvA PvG PvH PvI PvJ -/
import Derived.Test.YtpecobmfabmpkaaGreatDoorM20
import Derived.Test.YtpecobmfabmpkaaGreatDoorM17
set_option maxRecDepth 20000
set_option maxHeartbeats 6000000
namespace Go.Proofs.YtpecobmfabmpkaaGreatDoor
section
open Go.RowKit
theorem del_leaf {l:List Et}(h:LfOk l)(k:List UInt8)(hne:delE13 l k≠[]):LfOk (delE13 l k):=
 ⟨hne,fun e he=>h.ok e ((del_sub l k).subset he),h.srt.del k,Nat.le_trans (szL_del l k) h.sz⟩
def WoPost (t:Tl)(j:Jl)(m:Nat)(A B:Ps)(X:List Int)(s:Nat)(l':List Et)(t':Tl):Prop :=
 t'.l.length≤t.l.length+1∧SameX t t' j X∧((l'=[]∧FR t' j m (A++B) X)∨(l'≠[]∧LfOk l'∧FR t' j m (A++(s,l'):: B) X))
theorem FR.drop_same {t:Tl}{j:Jl}{m:Nat}{A B:Ps}{p:Nat × List Et}{X:List Int}(h:FR t j m (A++p::B) X)(hr:t.l.length<48):SameX t (gvT t j (p.1:Int)) j X:=by
 have hp:Tk t j m ((p.1:Int):: (X++secsP (A++B))):=h.tk.perm (by
  rw[secsP_append,secsP_append,secsP_cons,←List.append_assoc,←List.append_assoc]
  exact List.perm_middle)
 obtain⟨_,_,_,h4⟩:=hp.gv hr
 intro k hk
 have hz:=h.tk.rng _ (List.mem_append_left _ hk)
 exact h4 k (by omega) (by omega)
def WoRes (w w' w0:World)(S J P base m:Nat)(t:Tl)(j:Jl)(A B:Ps)(X:List Int)(s Bp:Nat)(l:List Et)(vk:Value)(key:List UInt8)(hh:Bool):Prop :=
 (hh=false∧Below w.heap.size w w')∨(hh=true∧∃t' ve' L',SpAx w' S J P base t' j∧WoPost t j m A B X s (delE13 l key) t'∧Blk w' Bp 133 [.int .i64 (s:Int),.int .i64 0,ve',vk]∧OwnN w' w0.heap.size ve' L'∧L'.map Prod.fst=delE13 l key∧∀x∈L',EtP w' x.1 x.2)
theorem codWoLeaf (w w0:World)(S J P base m:Nat)(t:Tl)(j:Jl)(A B:Ps)(X:List Int)(s Bp:Nat)(l:List Et)(ve vk:Value)(L:List Eq3)(ka0:Option Addr)(kn0 kc0:Nat)(key:List UInt8)(h:SpAx w S J P base t j)(hF:FR t j m (A++(s,l):: B) X)(hK:KS base w0 w)
  (hB:Blk w Bp 133 [.int .i64 (s:Int),.int .i64 0,ve,vk]) (hO:OwnN w w0.heap.size ve L) (hx:∀x∈L,EtP w x.1 x.2) (hL:L.map Prod.fst=l) (hvk:∃a c,vk=.slice a 0 c) (hkey:IsB w ka0 kn0 kc0 key) (hBp:w0.heap.size≤Bp) (hroom:t.l.length+2≤48) (hlo0:base≤w0.heap.size):
  Calls Tryz.prog 69 #[gT S,.pointer (some ⟨Bp,0,none⟩),.slice ka0 kn0 kc0] w fun r w'=>r=.returned (.bool (hasE13 l key))∧KS base w0 w'∧(∀B cs,B≠Bp→Blk w B 133 cs→Blk w' B 133 cs)∧KeepO [3] w w' ∧
   WoRes w w' w0 S J P base m t j A B X s Bp l vk key (hasE13 l key):=by
 have hlo:=spcOK.lo h
 have hf:=hF.tk.fit
 have hn2:=hf.few.n
 have hsr:=hF.rng (List.mem_append_right A List.mem_cons_self)
 have hle:LfOk l:=(hF.lf (s,l) (List.mem_append_right A List.mem_cons_self)).ok
 obtain⟨ka,kc,rfl⟩:=hvk
 have hLl:=hle.len
 have hLn:L.length=l.length:=by rw[←hL,List.length_map]
 obtain⟨g,ec,rfl,hec,hg0,hg1⟩:∃g ec,ve=.slice (some ⟨g,0,none⟩) L.length ec∧L.length≤ec∧w0.heap.size≤g∧g<w.heap.size:=by
  obtain⟨a,ec,h1,h2,_,h3⟩:=hO.form
  have hne:0<L.length:=by rw[hLn];exact List.length_pos_iff.2 hle.ne
  obtain⟨g,rfl,h4,h5,_⟩:=h3 hne
  exact⟨g,ec,h1,h2,h4,h5⟩
 have hgp:g≠Bp:=fun e2=>by
  subst e2
  rcases hO.2 with⟨h1,_⟩|⟨g2,_,cur,h3,_,h5,_⟩
  ·injection h1 with h1 _ _;cases h1
  ·injection h3 with h3 _ _
   have h4:=Option.some.inj h3
   injection h4 with h4 _ _
   subst h4
   have h6:w.heap[g]?=some (.cells _ 133 (0,0)):=hB
   rw[h5] at h6
   injection h6 with h6
   injection h6 with _ h6 _
   exact absurd h6 (by decide)
 have hsz0:w0.heap.size≤w.heap.size:=hK.o.size
 have hBl:=hB.lt
 unfold gT
 have W1:Below w.heap.size w (w.alloc (.cells #[.pointer (some ⟨S,0,none⟩)] 87)):=(Below.refl _ w).alloc (Nat.le_refl _) _
 have k0:Blk (w.alloc (.cells #[.pointer (some ⟨S,0,none⟩)] 87)) w.heap.size 87 [.pointer (some ⟨S,0,none⟩)]:=Blk.newAt w w.heap.size 87 #[.pointer (some ⟨S,0,none⟩)] [.pointer (some ⟨S,0,none⟩)] rfl rfl
 have hP0:=hB.on W1
 have hO0:=hO.on W1
 have HPK:Hid (∀B cs,Blk w B 133 cs→Blk (w.alloc (.cells #[.pointer (some ⟨S,0,none⟩)] 87)) B 133 cs):=fun B cs hB=>hB.on W1
 generalize hW:w.alloc (.cells #[.pointer (some ⟨S,0,none⟩)] 87)=Y0 at *
 have hx0:∀x∈L,EtP Y0 x.1 x.2:=fun x hxm=>(hx x hxm).below W1
 have HFd:=codFind13 (s:Int) 0 (.slice (some ⟨g,0,none⟩) L.length ec) (.slice ka 0 kc) L ka0 kn0 kc0 key Y0 (hO0.rd hx0) (by rw[hL];exact hle.srt) (hkey.below W1 rfl) (by rw[hLn];omega)
 rw[hL] at HFd
 unfold pgc at HFd
 have hA0:=SpAx.keep h (KeepT.of_below W1)
 have hK0:=hK.trans (KS.of_below W1 hlo)
 have hal:=atE_le l key
 have HDel:Hid (delE13 l key=if hasE13 l key=true then l.take (atE l key)++l.drop (atE l key+1) else l):=rfl
 have HHas:Hid (hasE13 l key=true→atE l key<L.length):=fun h=>by
  have h2:isE l (atE l key) key=true:=h
  unfold isE at h2
  rw[Bool.and_eq_true] at h2
  have:=of_decide_eq_true h2.1
  rw[hLn]
  exact this
 have HA0:=mkHid hA0
 have HK0:=mkHid hK0
 have HB0:=mkHid k0
 have HP0:=mkHid hP0
 have HO0:=mkHid hO0
 have HX0:=mkHid hx0
 have HF:=mkHid hF
 have HLe:=mkHid hle
 have HL:=mkHid hL
 have HW1:=mkHid W1
 have c0:=k0.cell 0
 have d0:=hP0.cell 0
 have d1:=hP0.cell 1
 have d2:=hP0.cell 2
 have d3:=hP0.cell 3
 simp only[gZ0,gZ1] at c0 d0 d1 d2 d3
 obtain⟨k,hk⟩:∃k,k=atE l key:=⟨_,rfl⟩
 obtain⟨hh,hhh⟩:∃b,b=hasE13 l key:=⟨_,rfl⟩
 rw[←hk,←hhh] at HDel HHas HFd
 rw[←hhh]
 obtain⟨n,hn⟩:∃n,n=L.length:=⟨_,rfl⟩
 rw[←hn] at hec HHas HFd d2 HP0 HO0
 have HN:=mkHid hn
 have hn169:n≤169:=by omega
 clear h hF hB hO hx hL hkey hle k0 hP0 hO0 hx0 hA0 hK0 hK W1 hk hhh hn hLn hLl hal hsr
 go_enter Tryz.func69,Tryz.ntmps69
 go_upto_region 1 with fail
 (try rw[hW])
 clear hW
 go_upto_region 8 with fail
 cases hh with
 | false =>
  go_wp2_with (go_at_call 74;refine HFd.mono ?_;rintro r1 y1 ⟨rfl,hb1⟩;have HB1:=mkHid hb1;clear hb1)
  go_ret
  have hb2:=HW1.out.trans (HB1.out.mono HW1.out.size)
  exact⟨rfl,HK0.out.trans (KS.of_below HB1.out (spcOK.lo HA0.out)),fun B cs _ hB=>(HPK.out B cs hB).on HB1.out,KeepO.of_below hb2,.inl ⟨rfl,hb2⟩⟩
 | true =>
  have hkn:=HHas.out rfl
  go_upto_region 11 with(go_at_call 74;refine HFd.mono ?_;rintro r1 y1 ⟨rfl,hb1⟩)
  have HB1:=mkHid hb1
  have hO1:OwnN y1 w0.heap.size (.slice (some ⟨g,0,none⟩) n ec) L:=HO0.out.on hb1
  have HDl:=codDeleteN y1 w0.heap.size g ec n k (k+1) rfl L HN.out.symm hO1 hkn hec (by omega)
  have hP1:=HP0.out.on hb1
  have hw1:IntKind.i64.wrap ((k:Int)+1)=(k:Int)+1:=wrapi64_in _ (by omega) (by omega)
  have HDl:Calls Tryz.prog 107 #[.slice (some ⟨g,0,none⟩) n ec,.int .i64 (k:Int),.int .i64 ((k:Int)+1)] y1 fun e w'=>e=.returned (.slice (some ⟨g,0,none⟩) (n-1) ec)∧OwnN w' w0.heap.size (.slice (some ⟨g,0,none⟩) (n-1) ec) (L.take k++L.drop (k+1))∧y1.grownBy w' (some g):=HDl
  obtain⟨n1,hn1⟩:∃n1,n1=n-1:=⟨_,rfl⟩
  rw[←hn1] at HDl
  have c0:=(HB0.out.on hb1).cell 0
  have d0:=hP1.cell 0
  have d1:=hP1.cell 1
  have d2:=hP1.cell 2
  have d3:=hP1.cell 3
  simp only[gZ0,gZ1] at c0 d0 d1 d2 d3
  have HP1:=mkHid hP1
  have HO1:=mkHid hO1
  have HN1:=mkHid hn1
  clear hb1 HFd hP1 hO1 hn1
  go_upto_region 12 with(go_at_call 107;refine HDl.mono ?_;rintro r2 y2 ⟨rfl,hO2,hg2⟩;have hP2:=(KeepT.grownN HO1.out hg2).blk HP1.out (by decide);have q2:=hP2.cell 2;have qf:=hP2.frozen 2;simp only[gZ0,gZ1] at q2)
  have hP3:=hP2.set 2 (.slice (some ⟨g,0,none⟩) n1 ec)
  have hT1:KeepT [133] y2 (y2.setCell ⟨Bp,2,none⟩ (.slice (some ⟨g,0,none⟩) n1 ec)):=(KeepT.refl _ y2).set hP2 (by decide) 2 _
  have hT0:=KeepT.grownN HO1.out hg2
  have hT:KeepT [133,64] y1 (y2.setCell ⟨Bp,2,none⟩ (.slice (some ⟨g,0,none⟩) n1 ec)):=(hT0.more (by decide)).trans (hT1.more (by decide))
  have hO3:OwnN (y2.setCell ⟨Bp,2,none⟩ (.slice (some ⟨g,0,none⟩) n1 ec)) w0.heap.size (.slice (some ⟨g,0,none⟩) n1 ec) (L.take k++L.drop (k+1)):=own_keepO (us:=[64]) (KeepO.ofT hT1 (by decide)) hO2 (by decide)
  have hb01:=HB1.out
  have hs01:w0.heap.size≤y1.heap.size:=Nat.le_trans hsz0 (Nat.le_trans HW1.out.size hb01.size)
  have hB13:Below w0.heap.size y1 (y2.setCell ⟨Bp,2,none⟩ (.slice (some ⟨g,0,none⟩) n1 ec)):=((Below.refl w0.heap.size y1).grown hg2 hs01 (fun b e=>by cases e;exact hg0)).setCell (p:=⟨Bp,2,none⟩) hBp _
  have hA3:=(SpAx.keep HA0.out (KeepT.of_below hb01)).keep13 (hT.more (us:=T13) (by decide))
  have hk3:=(HK0.out.trans (KS.of_below hb01 (spcOK.lo HA0.out))).over hB13 hlo0
  have hx3:∀x∈L.take k++L.drop (k+1),EtP (y2.setCell ⟨Bp,2,none⟩ (.slice (some ⟨g,0,none⟩) n1 ec)) x.1 x.2:=fun x hxm=>by
   have hxl:x∈L:=by
    rcases List.mem_append.1 hxm with h1|h1
    ·exact List.mem_of_mem_take h1
    ·exact List.mem_of_mem_drop h1
   exact((HX0.out x hxl).below hb01).keep (KeepO.ofT hT (by decide))
  have hki3:KeepO [3] w (y2.setCell ⟨Bp,2,none⟩ (.slice (some ⟨g,0,none⟩) n1 ec)):=(KeepO.of_below (HW1.out.trans (hb01.mono HW1.out.size))).trans (KeepO.ofT hT (by decide))
  have hpk3:∀B cs,B≠Bp→Blk w B 133 cs→Blk (y2.setCell ⟨Bp,2,none⟩ (.slice (some ⟨g,0,none⟩) n1 ec)) B 133 cs:=fun B cs hne hB=>(hT0.blk ((HPK.out B cs hB).on hb01) (by decide)).other _ _ hne
  have hb3:=(hT0.blk (HB0.out.on hb01) (by decide)).other ⟨Bp,2,none⟩ (.slice (some ⟨g,0,none⟩) n1 ec) (by show w.heap.size≠Bp;omega)
  have hm3:(L.take k++L.drop (k+1)).map Prod.fst=delE13 l key:=by
   rw[HDel.out,if_pos trivial,←HL.out]
   simp only[List.map_append,List.map_take,List.map_drop]
  have hln3:(L.take k++L.drop (k+1)).length=n1:=by
   rw[List.length_append,List.length_take,List.length_drop,HN1.out,←HN.out]
   omega
  have hdl:(delE13 l key).length=n1:=by rw[←hm3,List.length_map,hln3]
  generalize hY3:y2.setCell ⟨Bp,2,none⟩ (.slice (some ⟨g,0,none⟩) n1 ec)=y3 at *
  have HB3:=mkHid hb3
  have HKi:=mkHid hki3
  have HP3:Hid (Blk y3 Bp 133 [.int .i64 (s:Int),.int .i64 0,.slice (some ⟨g,0,none⟩) n1 ec,.slice ka 0 kc]):=hP3
  have HR3:=mkHid (And.intro hA3 (And.intro hk3 (And.intro hO3 (And.intro hx3 (And.intro hpk3 (And.intro hm3 hln3))))))
  have HLn:=fun W=>codLen13 (s:Int) 0 (some ⟨g,0,none⟩) ka n1 ec 0 kc W (by have:=HN1.out;omega)
  unfold pgc at HLn
  have HLn:∀W,Calls Tryz.prog 70 #[.agg #[.int .i64 (s:Int),.int .i64 0,.slice (some ⟨g,0,none⟩) n1 ec,.slice ka 0 kc]] W fun e w'=>e=.returned (.int .i64 (n1:Int))∧Below W.heap.size W w':=HLn
  have c0:=hb3.cell 0
  have d0:=HP3.out.cell 0
  have d1:=HP3.out.cell 1
  have d2:=HP3.out.cell 2
  have d3:=HP3.out.cell 3
  simp only[gZ0,gZ1] at c0 d0 d1 d2 d3
  clear hP2 hP3 hT1 hT0 hT hO3 hO2 hg2 hB13 hA3 hk3 hx3 hpk3 hki3 hb3 hm3 hln3 hs01 hb01 q2 qf HDl HDel HX0 HPK
  have hsn:s≤4096:=by
   have:=HF.out.rng (List.mem_append_right A List.mem_cons_self)
   omega
  have hn1k:n1=0∨n1≠0:=by omega
  rcases hn1k with hz|hz
  ·have HLn0:∀W,Calls Tryz.prog 70 #[.agg #[.int .i64 (s:Int),.int .i64 0,.slice (some ⟨g,0,none⟩) n1 ec,.slice ka 0 kc]] W fun e w'=>e=.returned (.int .i64 0)∧Below W.heap.size W w':=fun W=>by
    have:=HLn W
    rw[show ((n1:Nat):Int)=0 by omega] at this
    exact this
   clear HLn
   have HZ:=mkHid hz
   clear hz
   go_upto_region 13 with(go_at_call 70;refine(HLn0 _).mono ?_;rintro r5 y5 ⟨rfl,hb5⟩)
   obtain⟨z1,z2,z3⟩:=HF.out.drop (by omega)
   have z4:=HF.out.drop_same (by omega)
   have hdn:delE13 l key=[]:=List.length_eq_zero_iff.1 (by rw[hdl];exact HZ.out)
   have hb6:Below y3.heap.size y3 y5.drew:=hb5.trans ((Below.refl _ y5).drew.mono hb5.size)
   have hGv:=pgGive y5.drew S J P base m t j s 0 (.slice (some ⟨g,0,none⟩) n1 ec) (.slice ka 0 kc) (SpAx.keep HR3.out.1 (KeepT.of_below hb6)) hf hsn z1 ⟨_,_,_,rfl⟩ ⟨_,_,_,rfl⟩
   unfold gT pgc at hGv
   have HY:=mkHid (And.intro (HB3.out.on hb6) (HP3.out.on hb6))
   have HKy:=mkHid (HR3.out.2.1.trans (KS.of_below hb6 (spcOK.lo HR3.out.1)))
   have HWo:Hid (WoPost t j m A B X s (delE13 l key) (gvT t j (s:Int))):=⟨z3,z4,.inl ⟨hdn,z2⟩⟩
   have HB6:=mkHid hb6
   clear z1 z2 z3 z4 HLn0 hb5 hb6 hdn
   have HSt:Hid (∀W,W=y5.drew→W.cell? ⟨w.heap.size,0,none⟩=some (.pointer (some ⟨S,0,none⟩))∧W.cell? ⟨Bp,0,none⟩=some (.int .i64 (s:Int))∧W.cell? ⟨Bp,1,none⟩=some (.int .i64 0)∧W.cell? ⟨Bp,2,none⟩=some (.slice (some ⟨g,0,none⟩) n1 ec)∧W.cell? ⟨Bp,3,none⟩=some (.slice ka 0 kc)):=fun W hW=>by rw[hW];exact⟨HY.out.1.cell 0,HY.out.2.cell 0,HY.out.2.cell 1,HY.out.2.cell 2,HY.out.2.cell 3⟩
   refine lk0 (fun W=>W.cell? ⟨w.heap.size,0,none⟩=some (.pointer (some ⟨S,0,none⟩))∧W.cell? ⟨Bp,0,none⟩=some (.int .i64 (s:Int))∧W.cell? ⟨Bp,1,none⟩=some (.int .i64 0)∧W.cell? ⟨Bp,2,none⟩=some (.slice (some ⟨g,0,none⟩) n1 ec)∧W.cell? ⟨Bp,3,none⟩=some (.slice ka 0 kc)) 4 (HSt.out _ rfl) (fun hHeld=>?_)
   refine lkC [] 65 0 (.agg #[.pointer (some ⟨S,0,none⟩)]) rfl (Or.inl ⟨by rfl,?_⟩) hHeld ?_
   ·intro w hSw;obtain⟨s0,s1,s2,s3,s4⟩:=hSw;go_simp
   (try simp only[Act.put,sIx,sZ0,sZ1])
   refine lkC [2,3] 66 1 (.pointer (some ⟨Bp,0,none⟩)) rfl (Or.inl ⟨by rfl,?_⟩) hHeld ?_
   ·intro w hSw;go_simp
   (try simp only[Act.put,sIx,sZ0,sZ1])
   refine lkC [3] 67 2 (.pointer (some ⟨Bp,0,none⟩)) rfl (Or.inl ⟨by rfl,?_⟩) hHeld ?_
   ·intro w hSw;go_simp
   (try simp only[Act.put,sIx,sZ0,sZ1])
   refine lkC [] 68 3 (.agg #[.int .i64 (s:Int),.int .i64 0,.slice (some ⟨g,0,none⟩) n1 ec,.slice ka 0 kc]) rfl (Or.inl ⟨by rfl,?_⟩) hHeld ?_
   ·intro w hSw;obtain⟨s0,s1,s2,s3,s4⟩:=hSw;go_simp
   (try simp only[Act.put,sIx,sZ0,sZ1])
   refine lkZ rfl (fun K hK=>?_)
   go_simp
   refine(hGv).mono ?_
   rintro r4 y4 ⟨rfl,hA4,hk4⟩
   go_simp
   refine hK.out _ _ ?_
   simp only[Exit.then]
   (try simp only[Act.put,sIx,sZ0,sZ1])
   clear hK K hHeld
   have HK4:=mkHid hk4
   have HA4:=mkHid hA4
   clear hGv hk4 hA4
   go_wp2_with fail
   go_ret
   have hku:=HK4.out.o
   refine⟨rfl,HKy.out.trans HK4.out,fun B cs hne hB=>hku.blk ((HR3.out.2.2.2.2.1 B cs hne hB).on HB6.out) (by decide),(HKi.out.trans (KeepO.of_below HB6.out)).trans (hku.less (by decide)),?_⟩
   have hfin:∃t' ve' L',SpAx y4 S J P base t' j∧WoPost t j m A B X s (delE13 l key) t'∧Blk y4 Bp 133 [.int .i64 (s:Int),.int .i64 0,ve',.slice ka 0 kc]∧OwnN y4 w0.heap.size ve' L'∧L'.map Prod.fst=delE13 l key∧∀x∈L',EtP y4 x.1 x.2 :=
    ⟨_,_,_,HA4.out,HWo.out,hku.blk HY.out.2 (by decide),own_keepO (us:=[64]) (hku.less (by decide)) (HR3.out.2.2.1.on HB6.out) (by decide),HR3.out.2.2.2.2.2.1,fun x hx=>((HR3.out.2.2.2.1 x hx).below HB6.out).keep (hku.less (by decide))⟩
   exact .inr ⟨rfl,hfin⟩
  ·have hzi:((n1:Int)==0)=false:=by rw[beq_eq_false_iff_ne];omega
   go_upto_region 14 with(go_at_call 70;refine(HLn _).mono ?_;rintro r5 y5 ⟨rfl,hb5⟩)
   have hdn:delE13 l key≠[]:=fun e=>hz (by rw[←hdl,e];rfl)
   have hdo:=del_leaf HLe.out key hdn
   obtain⟨z1,z2,z3⟩:=HF.out.set (l':=delE13 l key) (by omega) hdo
   have z4:=HF.out.set_same (by omega) (delE13 l key)
   have hb6:Below y3.heap.size y3 y5.drew:=hb5.trans ((Below.refl _ y5).drew.mono hb5.size)
   have hGv:=pgWrite (fl:=0) y5.drew S J P base m t j s ⟨0,delE13 l key,[]⟩ (.slice (some ⟨g,0,none⟩) n1 ec) (.slice ka 0 kc) (L.take k++L.drop (k+1)) (SpAx.keep HR3.out.1 (KeepT.of_below hb6)) hf ⟨((HR3.out.2.2.1.rd HR3.out.2.2.2.1).keep (KeepU.of_below hb6)),⟨ka,kc,rfl,Nat.zero_le _,fun hp=>absurd hp (Nat.lt_irrefl 0)⟩,HR3.out.2.2.2.2.2.1⟩ (pgS_leaf13 hdo) hsn (by rw[pgB_leaf];exact z1)
   rw[pgB_leaf] at hGv
   unfold gT pgc at hGv
   have HY:=mkHid (And.intro (HB3.out.on hb6) (HP3.out.on hb6))
   have HKy:=mkHid (HR3.out.2.1.trans (KS.of_below hb6 (spcOK.lo HR3.out.1)))
   have HWo:Hid (WoPost t j m A B X s (delE13 l key) (spWr t j (s:Int) (leafB (delE13 l key)))):=⟨z3,z4,.inr ⟨hdn,hdo,z2⟩⟩
   have HB6:=mkHid hb6
   clear z1 z2 z3 z4 HLn hb5 hb6 hdn hdo
   have HSt:Hid (∀W,W=y5.drew→W.cell? ⟨w.heap.size,0,none⟩=some (.pointer (some ⟨S,0,none⟩))∧W.cell? ⟨Bp,0,none⟩=some (.int .i64 (s:Int))∧W.cell? ⟨Bp,1,none⟩=some (.int .i64 0)∧W.cell? ⟨Bp,2,none⟩=some (.slice (some ⟨g,0,none⟩) n1 ec)∧W.cell? ⟨Bp,3,none⟩=some (.slice ka 0 kc)):=fun W hW=>by rw[hW];exact⟨HY.out.1.cell 0,HY.out.2.cell 0,HY.out.2.cell 1,HY.out.2.cell 2,HY.out.2.cell 3⟩
   refine lk0 (fun W=>W.cell? ⟨w.heap.size,0,none⟩=some (.pointer (some ⟨S,0,none⟩))∧W.cell? ⟨Bp,0,none⟩=some (.int .i64 (s:Int))∧W.cell? ⟨Bp,1,none⟩=some (.int .i64 0)∧W.cell? ⟨Bp,2,none⟩=some (.slice (some ⟨g,0,none⟩) n1 ec)∧W.cell? ⟨Bp,3,none⟩=some (.slice ka 0 kc)) 4 (HSt.out _ rfl) (fun hHeld=>?_)
   refine lkC [] 70 0 (.agg #[.pointer (some ⟨S,0,none⟩)]) rfl (Or.inl ⟨by rfl,?_⟩) hHeld ?_
   ·intro w hSw;obtain⟨s0,s1,s2,s3,s4⟩:=hSw;go_simp
   (try simp only[Act.put,sIx,sZ0,sZ1])
   refine lkC [2,3] 71 1 (.pointer (some ⟨Bp,0,none⟩)) rfl (Or.inl ⟨by rfl,?_⟩) hHeld ?_
   ·intro w hSw;go_simp
   (try simp only[Act.put,sIx,sZ0,sZ1])
   refine lkC [3] 72 2 (.pointer (some ⟨Bp,0,none⟩)) rfl (Or.inl ⟨by rfl,?_⟩) hHeld ?_
   ·intro w hSw;go_simp
   (try simp only[Act.put,sIx,sZ0,sZ1])
   refine lkC [] 73 3 (.agg #[.int .i64 (s:Int),.int .i64 0,.slice (some ⟨g,0,none⟩) n1 ec,.slice ka 0 kc]) rfl (Or.inl ⟨by rfl,?_⟩) hHeld ?_
   ·intro w hSw;obtain⟨s0,s1,s2,s3,s4⟩:=hSw;go_simp
   (try simp only[Act.put,sIx,sZ0,sZ1])
   refine lkZ rfl (fun K hK=>?_)
   go_simp
   refine(hGv).mono ?_
   rintro r4 y4 ⟨rfl,hA4,hk4⟩
   go_simp
   refine hK.out _ _ ?_
   simp only[Exit.then]
   (try simp only[Act.put,sIx,sZ0,sZ1])
   clear hK K hHeld
   have HK4:=mkHid hk4
   have HA4:=mkHid hA4
   clear hGv hk4 hA4
   go_wp2_with fail
   go_ret
   have hku:=HK4.out.o
   refine⟨rfl,HKy.out.trans HK4.out,fun B cs hne hB=>hku.blk ((HR3.out.2.2.2.2.1 B cs hne hB).on HB6.out) (by decide),(HKi.out.trans (KeepO.of_below HB6.out)).trans (hku.less (by decide)),?_⟩
   have hfin:∃t' ve' L',SpAx y4 S J P base t' j∧WoPost t j m A B X s (delE13 l key) t'∧Blk y4 Bp 133 [.int .i64 (s:Int),.int .i64 0,ve',.slice ka 0 kc]∧OwnN y4 w0.heap.size ve' L'∧L'.map Prod.fst=delE13 l key∧∀x∈L',EtP y4 x.1 x.2 :=
    ⟨_,_,_,HA4.out,HWo.out,hku.blk HY.out.2 (by decide),own_keepO (us:=[64]) (hku.less (by decide)) (HR3.out.2.2.1.on HB6.out) (by decide),HR3.out.2.2.2.2.2.1,fun x hx=>((HR3.out.2.2.2.1 x hx).below HB6.out).keep (hku.less (by decide))⟩
   exact .inr ⟨rfl,hfin⟩
def WonRes (w w' w0:World)(S J P base m:Nat)(t:Tl)(j:Jl)(Bp rt:Nat)(Q:Ps)(key:List UInt8)(pa:Option Addr)(pc:Nat)(hh:Bool):Prop :=
 (hh=false∧Below w.heap.size w w')∨(hh=true∧∃t' Q' va vn vc,SpAx w' S J P base t' j∧FR t' j m Q' [(rt:Int)]∧spRdB t' j (rt:Int)=nodeB (Q'.map (·.1))∧entsP Q'=delE13 (entsP Q) key∧Q'≠[]∧Q'.length≤Q.length∧t'.l.length≤t.l.length+4 ∧
  Blk w' Bp 133 [.int .i64 (rt:Int),.int .i64 1,.slice pa 0 pc,.slice va vn vc]∧OwnZ w' w0.heap.size (.slice va vn vc) ((Q'.map (·.1)).map Int.ofNat))
theorem codWoNode (w w0:World)(S J P base m:Nat)(t:Tl)(j:Jl)(Bp rt n cap g:Nat)(Q:Ps)(pa ka0:Option Addr)(pc kn0 kc0:Nat)(key:List UInt8)(h:SpAx w S J P base t j)(hN:NdAt t j rt Q)(hk:Tk t j m ((rt:Int):: secsP Q))(hso:SrtE (entsP Q))(hK:KS base w0 w)
  (hB:Blk w Bp 133 [.int .i64 (rt:Int),.int .i64 1,.slice pa 0 pc,.slice (some ⟨g,0,none⟩) n cap]) (hBp:w0.heap.size≤Bp) (hO:OwnZ w w0.heap.size (.slice (some ⟨g,0,none⟩) n cap) ((Q.map (·.1)).map Int.ofNat)) (hkey:IsB w ka0 kn0 kc0 key) (hroom:t.l.length+5≤48) (hlo0:base≤w0.heap.size):
  Calls Tryz.prog 69 #[gT S,.pointer (some ⟨Bp,0,none⟩),.slice ka0 kn0 kc0] w fun r w'=>r=.returned (.bool (hasE13 (entsP Q) key))∧KS base w0 w'∧WonRes w w' w0 S J P base m t j Bp rt Q key pa pc (hasE13 (entsP Q) key):=by
 have hlo:=spcOK.lo h
 have hsz0:w0.heap.size≤w.heap.size:=hK.o.size
 have hBl:=hB.lt
 have hf:=hk.fit
 have hn2:=hf.few.n
 have hNd:=node_kids hN hk
 have hnl:n=Q.length:=by obtain⟨_,_,_,hn',_⟩:=(OwnZ.c hO).cur;rw[hn',List.length_map,List.length_map]
 have hq2:=hN.n
 have hq254:=hN.n2
 unfold gT
 have W1:Below w.heap.size w (w.alloc (.cells #[.pointer (some ⟨S,0,none⟩)] 87)):=(Below.refl _ w).alloc (Nat.le_refl _) _
 have k0:Blk (w.alloc (.cells #[.pointer (some ⟨S,0,none⟩)] 87)) w.heap.size 87 [.pointer (some ⟨S,0,none⟩)]:=Blk.newAt w w.heap.size 87 #[.pointer (some ⟨S,0,none⟩)] [.pointer (some ⟨S,0,none⟩)] rfl rfl
 generalize hW:w.alloc (.cells #[.pointer (some ⟨S,0,none⟩)] 87)=Y0 at *
 have hA0:=SpAx.keep h (KeepT.of_below W1)
 have hK0:=hK.trans (KS.of_below W1 hlo)
 have hP0:=hB.on W1
 have hO0:OwnZ Y0 w0.heap.size (.slice (some ⟨g,0,none⟩) n cap) ((Q.map (·.1)).map Int.ofNat):=own_keepO (us:=[3]) (KeepO.of_below W1) hO (by decide)
 have HKey:Hid (∀W,Below Y0.heap.size Y0 W→IsB W ka0 kn0 kc0 key):=fun W hW=>(hkey.below W1 rfl).below hW rfl
 have HCt:Hid (∀W,Below Y0.heap.size Y0 W→W.cell? ⟨w.heap.size,0,none⟩=some (.pointer (some ⟨S,0,none⟩))∧W.cell? ⟨Bp,0,none⟩=some (.int .i64 (rt:Int))∧W.cell? ⟨Bp,1,none⟩=some (.int .i64 1)∧W.cell? ⟨Bp,2,none⟩=some (.slice pa 0 pc)∧W.cell? ⟨Bp,3,none⟩=some (.slice (some ⟨g,0,none⟩) n cap)):=fun W hW=>⟨(k0.on hW).cell 0,(hP0.on hW).cell 0,(hP0.on hW).cell 1,(hP0.on hW).cell 2,(hP0.on hW).cell 3⟩
 have HRz:Hid (∀W,Below Y0.heap.size Y0 W→RdZ W (.slice (some ⟨g,0,none⟩) n cap) (Q.map (·.1))):=fun W hW=>by
  have hz:OwnZ W w0.heap.size (.slice (some ⟨g,0,none⟩) n cap) ((Q.map (·.1)).map Int.ofNat):=own_keepO (us:=[3]) (KeepO.of_below hW) hO0 (by decide)
  exact hz.rd
 have hD:Below Y0.heap.size Y0 Y0.drew:=(Below.refl _ Y0).drew
 have HFd:=pgFind Y0.drew S J P base m t j (rt:Int) (.slice pa 0 pc) (.slice (some ⟨g,0,none⟩) n cap) (Q.map (·.1)) _ ka0 kn0 kc0 key (SpAx.keep hA0 (KeepT.of_below hD)) hf (HRz.out _ hD) ⟨pa,0,pc,rfl⟩ (HKey.out _ hD) hNd (by simp;omega) (by simp;omega)
 unfold gT pgc at HFd
 have HA0:=mkHid hA0
 have HK0:=mkHid hK0
 have HB0:=mkHid k0
 have HP0:=mkHid hP0
 have HO0:=mkHid hO0
 have HW1:=mkHid W1
 have HN:=mkHid (And.intro hN (And.intro hk hso))
 have HNd:=mkHid hNd
 have HLo:Hid (base≤Y0.heap.size):=spcOK.lo hA0
 have HNl:=mkHid hnl
 obtain⟨c0,d0,d1,d2,d3⟩:=HCt.out Y0 (Below.refl _ Y0)
 clear h hN hk hso hK hB hO hkey hA0 hK0 hP0 hO0 k0 W1 hnl hNd
 go_enter Tryz.func69,Tryz.ntmps69
 go_upto_region 1 with fail
 (try rw[hW])
 clear hW
 go_upto_region 2 with fail
 refine lk0 (fun W=>W.cell? ⟨w.heap.size,0,none⟩=some (.pointer (some ⟨S,0,none⟩))∧W.cell? ⟨Bp,0,none⟩=some (.int .i64 (rt:Int))∧W.cell? ⟨Bp,1,none⟩=some (.int .i64 1)∧W.cell? ⟨Bp,2,none⟩=some (.slice pa 0 pc)∧W.cell? ⟨Bp,3,none⟩=some (.slice (some ⟨g,0,none⟩) n cap)) 6 (HCt.out _ hD) (fun hHeld=>?_)
 refine lkT 17 0 (.agg #[.pointer (some ⟨S,0,none⟩)]) rfl (Or.inl ⟨by rfl,?_⟩) hHeld ?_
 ·intro w hSw;obtain⟨s0,s1,s2,s3,s4⟩:=hSw;go_simp
 (try simp only[Act.put,sIx,sZ0,sZ1])
 refine lkT 18 1 (.pointer (some ⟨Bp,0,none⟩)) rfl (Or.inl ⟨by rfl,?_⟩) hHeld ?_
 ·intro w hSw;go_simp
 (try simp only[Act.put,sIx,sZ0,sZ1])
 refine lkT 19 2 (.pointer (some ⟨Bp,0,none⟩)) rfl (Or.inl ⟨by rfl,?_⟩) hHeld ?_
 ·intro w hSw;go_simp
 (try simp only[Act.put,sIx,sZ0,sZ1])
 refine lkT 20 3 (.agg #[.int .i64 (rt:Int),.int .i64 1,.slice pa 0 pc,.slice (some ⟨g,0,none⟩) n cap]) rfl (Or.inl ⟨by rfl,?_⟩) hHeld ?_
 ·intro w hSw;obtain⟨s0,s1,s2,s3,s4⟩:=hSw;go_simp
 (try simp only[Act.put,sIx,sZ0,sZ1])
 refine lkT 21 4 (.slice ka0 kn0 kc0) rfl (Or.inl ⟨by rfl,?_⟩) hHeld ?_
 ·intro w hSw;go_simp
 (try simp only[Act.put,sIx,sZ0,sZ1])
 refine lk1 5 rfl (fun K hK=>?_)
 go_simp
 refine HFd.mono ?_
 rintro r1 y1 ⟨⟨i,rfl,hil,hi1,hi2⟩,hb1⟩
 go_simp
 have hB1:=hD.trans (hb1.mono hD.size)
 refine hK.out _ _ (HCt.out _ hB1) (fun hHeld=>?_)
 (try simp only[Act.put,sIx,sZ0,sZ1])
 clear hK K HFd
 refine lkZ rfl (fun K hK=>?_)
 go_simp
 refine hK.out _ _ ?_
 (try simp only[Exit.then])
 (try simp only[Act.put,sIx,sZ0,sZ1])
 clear hK K hHeld
 rw[List.length_map] at hil hi2
 obtain⟨A,p,B,hQ,hAi,hgi,hpm,hAl,hAg⟩:=node_cut HN.out.1 HN.out.2.2 hil hi1 hi2
 obtain⟨s1,l1⟩:=p
 have hks1:(Q.map (·.1))[i]?=some s1:=by rw[List.getElem?_map,hQ,←hAi];simp
 have hlf:=HNd.out i s1 hks1
 simp only[hgi] at hlf
 obtain⟨f1,f2,f3,f4⟩:=hlf
 have hBD:Below Y0.heap.size Y0 y1.drew:=hB1.trans ((Below.refl _ y1).drew.mono hB1.size)
 have hFR:FR t j m (A++(s1,l1):: B) [(rt:Int)]:=by rw[←hQ];exact FR.ofNode HN.out.1 HN.out.2.1
 have hhas:hasE13 (entsP Q) key=hasE13 l1 key:=by
  rw[hQ,entsP_append,entsP]
  exact mid_has hAl hAg
 have hdel:delE13 (entsP Q) key=entsP A++(delE13 l1 key++entsP B):=by
  rw[hQ,entsP_append,entsP]
  exact mid_del hAl hAg
 have hrdX:spRdB t j (rt:Int)=nodeB ((A++(s1,l1):: B).map (·.1)):=by rw[←hQ];exact HN.out.1.rd
 have HKd:Hid (∀W,Below Y0.heap.size Y0 W→Calls Tryz.prog 72 #[.agg #[.pointer (some ⟨S,0,none⟩)],.agg #[.int .i64 (rt:Int),.int .i64 1,.slice pa 0 pc,.slice (some ⟨g,0,none⟩) n cap],.int .i64 (i:Int)] W fun e w'=>(∃v ve vk L,e=.returned v∧PgO w' W.heap.size (s1:Int) ⟨0,l1,[]⟩ v ve vk L)∧Below W.heap.size W w'):=fun W hW =>
  pgKid W S J P base m t j (rt:Int) 1 (.slice pa 0 pc) (.slice (some ⟨g,0,none⟩) n cap) (Q.map (·.1)) i s1 ⟨0,l1,[]⟩ (SpAx.keep HA0.out (KeepT.of_below hW)) hf (HRz.out W hW) hks1 f1 f2 f3 rfl (by omega)
 have HFR:=mkHid (And.intro hFR (And.intro hhas (And.intro hdel hrdX)))
 have HQ:=mkHid (And.intro hQ hAi)
 have HBD:=mkHid hBD
 clear hB1 hb1 hQ hAi hgi hpm hAl hAg hks1 f1 f2 f3 f4 hFR hhas hdel hrdX hD hi1 hi2 hil HNd
 go_upto_region 3 with fail
 refine lk0 (fun W=>W.cell? ⟨w.heap.size,0,none⟩=some (.pointer (some ⟨S,0,none⟩))∧W.cell? ⟨Bp,0,none⟩=some (.int .i64 (rt:Int))∧W.cell? ⟨Bp,1,none⟩=some (.int .i64 1)∧W.cell? ⟨Bp,2,none⟩=some (.slice pa 0 pc)∧W.cell? ⟨Bp,3,none⟩=some (.slice (some ⟨g,0,none⟩) n cap)) 7 (HCt.out _ hBD) (fun hHeld=>?_)
 refine lkT 23 0 (.agg #[.pointer (some ⟨S,0,none⟩)]) rfl (Or.inl ⟨by rfl,?_⟩) hHeld ?_
 ·intro w hSw;obtain⟨s0,s1,s2,s3,s4⟩:=hSw;go_simp
 (try simp only[Act.put,sIx,sZ0,sZ1])
 refine lkT 24 1 (.pointer (some ⟨Bp,0,none⟩)) rfl (Or.inl ⟨by rfl,?_⟩) hHeld ?_
 ·intro w hSw;go_simp
 (try simp only[Act.put,sIx,sZ0,sZ1])
 refine lkT 25 2 (.pointer (some ⟨Bp,0,none⟩)) rfl (Or.inl ⟨by rfl,?_⟩) hHeld ?_
 ·intro w hSw;go_simp
 (try simp only[Act.put,sIx,sZ0,sZ1])
 refine lkT 26 3 (.agg #[.int .i64 (rt:Int),.int .i64 1,.slice pa 0 pc,.slice (some ⟨g,0,none⟩) n cap]) rfl (Or.inl ⟨by rfl,?_⟩) hHeld ?_
 ·intro w hSw;obtain⟨s0,s1,s2,s3,s4⟩:=hSw;go_simp
 (try simp only[Act.put,sIx,sZ0,sZ1])
 refine lkT 27 4 (.int .i64 (i:Int)) rfl (Or.inl ⟨by rfl,?_⟩) hHeld ?_
 ·intro w hSw;go_simp
 (try simp only[Act.put,sIx,sZ0,sZ1])
 refine lkR (rs:=[5,6]) (by kernel_rfl) (by simp) (NextL.cons rfl (fun K hK=>?_) (NextL.cons rfl (fun K hK=>?_) NextL.nil))
 ·go_simp
  refine(HKd.out _ hBD).mono ?_
  rintro r2 y2 ⟨⟨v2,ve2,vk2,L2,rfl,hp2⟩,hb2⟩
  obtain⟨ea,ec,xa,xc,hve,hvk⟩:=hp2.r.forms
  subst hve hvk
  have hvv:=hp2.v
  subst hvv
  unfold pgc
  go_simp
  have hB2:=hBD.trans (hb2.mono hBD.size)
  refine hK.out _ _ (HCt.out _ hB2) (fun hHeld=>?_)
  (try simp only[Act.put,sIx,sZ0,sZ1])
  clear hK K
  refine lk1 6 rfl (fun K hK=>?_)
  go_simp
  have hA3:=(Below.refl y2.heap.size y2).alloc (Nat.le_refl _) (.cells #[.int .i64 0,.int .i64 0,.slice none 0 0,.slice none 0 0] 133)
  have hB3:=hB2.trans (hA3.mono hB2.size)
  have kz:Blk (y2.alloc (.cells #[.int .i64 0,.int .i64 0,.slice none 0 0,.slice none 0 0] 133)) y2.heap.size 133 [.int .i64 0,.int .i64 0,.slice none 0 0,.slice none 0 0]:=Blk.newAt y2 y2.heap.size 133 _ _ rfl rfl
  refine hK.out _ _ (HCt.out _ hB3) (fun hHeld=>?_)
  (try simp only[Act.put,sIx,sZ0,sZ1])
  clear hK K
  have hpz:=hp2.below hA3
  have hKbD:y1.drew.heap.size≤y2.heap.size:=hb2.size
  have hbDz:=hb2.trans (hA3.mono hb2.size)
  generalize y2.alloc (.cells #[.int .i64 0,.int .i64 0,.slice none 0 0,.slice none 0 0] 133)=Z at *
  generalize y2.heap.size=Kb at *
  clear hp2 hb2 hA3 hB2
  have x0:=kz.cell 0
  have f0:=kz.frozen 0
  have x1:=kz.cell 1
  have f1:=kz.frozen 1
  have x2:=kz.cell 2
  have f2:=kz.frozen 2
  have x3:=kz.cell 3
  have f3:=kz.frozen 3
  simp only[gZ0,gZ1] at x0 x1 x2 x3
  have kz9:=store_pg (d0:=.int .i64 (s1:Int)) (d1:=.int .i64 0) (d2:=.slice ea l1.length ec) (d3:=.slice xa 0 xc) kz
  have hbD9:=((((hbDz).setCell (p:=⟨Kb,0,none⟩) hKbD (.int .i64 (s1:Int))).setCell (p:=⟨Kb,1,none⟩) hKbD (.int .i64 0)).setCell (p:=⟨Kb,2,none⟩) hKbD (.slice ea l1.length ec)).setCell (p:=⟨Kb,3,none⟩) hKbD (.slice xa 0 xc)
  have hT9:KeepT [133] Z ((((Z.setCell ⟨Kb,0,none⟩ (.int .i64 (s1:Int))).setCell ⟨Kb,1,none⟩ (.int .i64 0)).setCell ⟨Kb,2,none⟩ (.slice ea l1.length ec)).setCell ⟨Kb,3,none⟩ (.slice xa 0 xc)):=((((KeepT.refl _ Z).set kz (by decide) 0 _).set (kz.set 0 _) (by decide) 1 _).set ((kz.set 0 _).set 1 _) (by decide) 2 _).set (((kz.set 0 _).set 1 _).set 2 _) (by decide) 3 _
  have hp9:=hpz.keep (KeepO.ofT hT9 (by decide))
  clear hT9 hpz hbDz
  refine lkZ rfl (fun K hK=>?_)
  go_simp
  refine hK.out _ _ ?_
  (try simp only[Exit.then])
  (try simp only[Act.put,sIx,sZ0,sZ1])
  clear hK K hHeld x0 x1 x2 x3 f0 f1 f2 f3 kz
  generalize ((((Z.setCell ⟨Kb,0,none⟩ (.int .i64 (s1:Int))).setCell ⟨Kb,1,none⟩ (.int .i64 0)).setCell ⟨Kb,2,none⟩ (.slice ea l1.length ec)).setCell ⟨Kb,3,none⟩ (.slice xa 0 xc))=Z9 at *
  have hB9:Below Y0.heap.size Y0 Z9:=hBD.trans (hbD9.mono hBD.size)
  clear hB3 Z
  go_upto_region 4 with fail
  obtain⟨c0,d0,d1,d2,d3⟩:=HCt.out Z9 hB9
  have hA9:=SpAx.keep HA0.out (KeepT.of_below hB9)
  have hloD:base≤y1.drew.heap.size:=Nat.le_trans HLo.out HBD.out.size
  have hWo:=codWoLeaf Z9 y1.drew S J P base m t j A B [(rt:Int)] s1 Kb l1 (.slice ea l1.length ec) (.slice xa 0 xc) L2 ka0 kn0 kc0 key hA9 HFR.out.1 (KS.of_below hbD9 hloD) kz9 hp9.e hp9.x hp9.es ⟨xa,xc,rfl⟩ (HKey.out Z9 hB9) hKbD (by omega) hloD
  unfold gT at hWo
  have HP9:=mkHid hp9
  have HB9:=mkHid hB9
  have HD9:=mkHid hbD9
  have HKbD:=mkHid hKbD
  clear hp9 hB9 hbD9 kz9 hA9
  cases hhk:hasE13 l1 key with
  | false =>
   rw[hhk] at hWo
   go_wp2_with (go_at_call 69;refine hWo.mono ?_;rintro r5 y5 ⟨rfl,hk5,hpk5,hki5,hres5⟩;have HR5:=mkHid (And.intro hk5 hres5);clear hk5 hpk5 hki5 hres5)
   go_ret
   rcases HR5.out.2 with⟨_,hb5⟩|⟨h5,_⟩
   ·have hb:=HB9.out.trans (hb5.mono HB9.out.size)
    exact⟨by rw[HFR.out.2.1,hhk];rfl,HK0.out.trans (KS.of_below hb HLo.out),.inl ⟨by rw[HFR.out.2.1,hhk],HW1.out.trans (hb.mono HW1.out.size)⟩⟩
   ·cases h5
  | true =>
   rw[hhk] at hWo
   go_upto_region 6 with(go_at_call 69;refine hWo.mono ?_;rintro r5 y5 ⟨rfl,hk5,hpk5,hki5,hres5⟩)
   rcases hres5 with⟨h5,_⟩|⟨_,t5,ve5,L5,hA5,hwp5,hB5,hO5,hm5,hx5⟩
   ·cases h5
   have hkD5:=hk5.o
   have KG5:Blk y5 w.heap.size 87 [.pointer (some ⟨S,0,none⟩)]:=hkD5.blk (HB0.out.on HBD.out) (by decide)
   have KP5:Blk y5 Bp 133 [.int .i64 (rt:Int),.int .i64 1,.slice pa 0 pc,.slice (some ⟨g,0,none⟩) n cap]:=hkD5.blk (HP0.out.on HBD.out) (by decide)
   have hO5r:OwnZ y5 w0.heap.size (.slice (some ⟨g,0,none⟩) n cap) ((Q.map (·.1)).map Int.ofNat):=own_keepO (us:=[3]) (hkD5.less (by decide)) (own_keepO (us:=[3]) (KeepO.of_below HBD.out) HO0.out (by decide)) (by decide)
   have hkk5:OwnZ y5 y1.drew.heap.size (slv13 (xa,0,xc)) (([]:List Nat).map Int.ofNat):=own_keepO (us:=[3]) hki5 HP9.out.k (by decide)
   have hK05:KS base w0 y5:=(HK0.out.trans (KS.of_below HBD.out HLo.out)).trans hk5
   obtain⟨va5,vc5,hve5,-⟩:=hO5.form
   subst hve5
   rw[HQ.out.1] at hO5r
   have c0:=KG5.cell 0
   have d0:=KP5.cell 0
   have d1:=KP5.cell 1
   have d2:=KP5.cell 2
   have d3:=KP5.cell 3
   have e0:=hB5.cell 0
   have e1:=hB5.cell 1
   have e2:=hB5.cell 2
   have e3:=hB5.cell 3
   simp only[gZ0,gZ1] at c0 d0 d1 d2 d3 e0 e1 e2 e3
   obtain⟨hr5,hX5,hw5⟩:=hwp5
   have hnn:n≤254:=by have:=HNl.out;omega
   have HMend:Calls Tryz.prog 106 #[.agg #[.pointer (some ⟨S,0,none⟩)],.pointer (some ⟨Bp,0,none⟩),.int .i64 (i:Int),.agg #[.int .i64 (s1:Int),.int .i64 0,.slice va5 L5.length vc5,.slice xa 0 xc]] y5 (MendPost w0 S J P base m t5 j Bp rt A B (delE13 l1 key) pa pc):=by
    rcases hw5 with⟨hd5,hF5⟩|⟨hd5,hl5,hF5⟩
    ·have hL5:L5=[]:=List.map_eq_nil_iff.1 (hm5.trans hd5)
     rw[hL5,hd5]
     exact codMend0 y5 w0 S J P base m t5 j Bp rt s1 n cap g i A B l1 pa va5 xa pc vc5 xc hA5 hF5 (fun e=>by have h2:=HN.out.1.n;have hA:=List.append_eq_nil_iff.1 e;rw[HQ.out.1,hA.1,hA.2] at h2;simp at h2) hK05 KP5 hBp hO5r HQ.out.2 hnn (by omega) hlo0
    ·have hso5:SrtE (entsP (A++(s1,delE13 l1 key):: B)):=by
      rw[ents_mid,←HFR.out.2.2.1]
      exact HN.out.2.2.del key
     have hrd5:spRdB t5 j (rt:Int)=nodeB ((A++(s1,delE13 l1 key):: B).map (·.1)):=by
      rw[hX5 rt List.mem_cons_self,HFR.out.2.2.2]
      simp only[List.map_append,List.map_cons]
     have hOr:OwnZ y5 w0.heap.size (.slice (some ⟨g,0,none⟩) n cap) (((A++(s1,delE13 l1 key):: B).map (·.1)).map Int.ofNat):=by
      have:=hO5r
      simp only[List.map_append,List.map_cons] at this ⊢
      exact this
     exact codMend1 y5 w0 S J P base m t5 j Bp rt s1 n cap g i y1.drew.heap.size A B (delE13 l1 key) (va5,L5.length,vc5) (xa,0,xc) L5 pa pc hA5 hF5 hrd5 hso5 hK05 KP5 hBp hOr hO5 hx5 hm5 hkk5 HQ.out.2 hnn (by omega) hlo0
   unfold gT at HMend
   have HT5:=mkHid hr5
   clear hkD5 KG5 KP5 hO5r hkk5 hK05 hw5 hX5 hr5 hA5 hB5 hO5 hm5 hx5 hk5 hpk5 hki5 hWo
   generalize L5.length=n5 at *
   go_wp2_with (go_at_call 106;refine HMend.mono ?_;rintro r6 y6 ⟨rfl,hex6,hk6⟩;have HR6:=mkHid (And.intro hex6 hk6);clear hex6 hk6)
   go_ret
   obtain⟨t6,Q6,va6,vn6,vc6,hA6,⟨m1,m2,m3,m4,m5,m6⟩,hB6,hO6⟩:=HR6.out.1
   refine⟨by rw[HFR.out.2.1,hhk];rfl,HR6.out.2,.inr ⟨by rw[HFR.out.2.1,hhk],t6,Q6,va6,vn6,vc6,hA6,m1,m2,by rw[m3,HFR.out.2.2.1],m5,?_,by have:=HT5.out;omega,hB6,hO6⟩⟩
   rw[HQ.out.1]
   simp only[List.length_append,List.length_cons]
   omega
 ·go_simp
  have hA2:=hBD.alloc hBD.size (.cells #[.int .i64 0,.int .i64 0,.slice none 0 0,.slice none 0 0] 133)
  have kz0:Blk (y1.drew.alloc (.cells #[.int .i64 0,.int .i64 0,.slice none 0 0,.slice none 0 0] 133)) y1.heap.size 133 [.int .i64 0,.int .i64 0,.slice none 0 0,.slice none 0 0]:=Blk.newAt y1.drew y1.heap.size 133 _ _ rfl rfl
  refine hK.out _ _ (HCt.out _ hA2) (fun hHeld=>?_)
  (try simp only[Act.put,sIx,sZ0,sZ1])
  clear hK K
  have hAD:Below y1.drew.heap.size y1.drew (y1.drew.alloc (.cells #[.int .i64 0,.int .i64 0,.slice none 0 0,.slice none 0 0] 133)):=(Below.refl _ _).alloc (Nat.le_refl _) _
  refine lk1 5 rfl (fun K hK=>?_)
  go_simp
  refine(HKd.out _ hA2).mono ?_
  rintro r2 y2 ⟨⟨v2,ve2,vk2,L2,rfl,hp2⟩,hb2⟩
  obtain⟨ea,ec,xa,xc,hve,hvk⟩:=hp2.r.forms
  subst hve hvk
  have hvv:=hp2.v
  subst hvv
  unfold pgc
  go_simp
  have hB3:=hA2.trans (hb2.mono hA2.size)
  refine hK.out _ _ (HCt.out _ hB3) (fun hHeld=>?_)
  (try simp only[Act.put,sIx,sZ0,sZ1])
  clear hK K
  have kz:=kz0.on hb2
  have hpz:=own_low13 hp2 hAD.size
  have hKbD:y1.drew.heap.size≤y1.heap.size:=Nat.le_refl _
  have hbDz:=hAD.trans (hb2.mono hAD.size)
  clear hp2 hb2 hA2 kz0 hAD
  generalize y1.heap.size=Kb at *
  generalize y2=Z at *
  have x0:=kz.cell 0
  have f0:=kz.frozen 0
  have x1:=kz.cell 1
  have f1:=kz.frozen 1
  have x2:=kz.cell 2
  have f2:=kz.frozen 2
  have x3:=kz.cell 3
  have f3:=kz.frozen 3
  simp only[gZ0,gZ1] at x0 x1 x2 x3
  have kz9:=store_pg (d0:=.int .i64 (s1:Int)) (d1:=.int .i64 0) (d2:=.slice ea l1.length ec) (d3:=.slice xa 0 xc) kz
  have hbD9:=((((hbDz).setCell (p:=⟨Kb,0,none⟩) hKbD (.int .i64 (s1:Int))).setCell (p:=⟨Kb,1,none⟩) hKbD (.int .i64 0)).setCell (p:=⟨Kb,2,none⟩) hKbD (.slice ea l1.length ec)).setCell (p:=⟨Kb,3,none⟩) hKbD (.slice xa 0 xc)
  have hT9:KeepT [133] Z ((((Z.setCell ⟨Kb,0,none⟩ (.int .i64 (s1:Int))).setCell ⟨Kb,1,none⟩ (.int .i64 0)).setCell ⟨Kb,2,none⟩ (.slice ea l1.length ec)).setCell ⟨Kb,3,none⟩ (.slice xa 0 xc)):=((((KeepT.refl _ Z).set kz (by decide) 0 _).set (kz.set 0 _) (by decide) 1 _).set ((kz.set 0 _).set 1 _) (by decide) 2 _).set (((kz.set 0 _).set 1 _).set 2 _) (by decide) 3 _
  have hp9:=hpz.keep (KeepO.ofT hT9 (by decide))
  clear hT9 hpz hbDz
  refine lkZ rfl (fun K hK=>?_)
  go_simp
  refine hK.out _ _ ?_
  (try simp only[Exit.then])
  (try simp only[Act.put,sIx,sZ0,sZ1])
  clear hK K hHeld x0 x1 x2 x3 f0 f1 f2 f3 kz
  generalize ((((Z.setCell ⟨Kb,0,none⟩ (.int .i64 (s1:Int))).setCell ⟨Kb,1,none⟩ (.int .i64 0)).setCell ⟨Kb,2,none⟩ (.slice ea l1.length ec)).setCell ⟨Kb,3,none⟩ (.slice xa 0 xc))=Z9 at *
  have hB9:Below Y0.heap.size Y0 Z9:=hBD.trans (hbD9.mono hBD.size)
  clear hB3 Z
  go_upto_region 4 with fail
  obtain⟨c0,d0,d1,d2,d3⟩:=HCt.out Z9 hB9
  have hA9:=SpAx.keep HA0.out (KeepT.of_below hB9)
  have hloD:base≤y1.drew.heap.size:=Nat.le_trans HLo.out HBD.out.size
  have hWo:=codWoLeaf Z9 y1.drew S J P base m t j A B [(rt:Int)] s1 Kb l1 (.slice ea l1.length ec) (.slice xa 0 xc) L2 ka0 kn0 kc0 key hA9 HFR.out.1 (KS.of_below hbD9 hloD) kz9 hp9.e hp9.x hp9.es ⟨xa,xc,rfl⟩ (HKey.out Z9 hB9) hKbD (by omega) hloD
  unfold gT at hWo
  have HP9:=mkHid hp9
  have HB9:=mkHid hB9
  have HD9:=mkHid hbD9
  have HKbD:=mkHid hKbD
  clear hp9 hB9 hbD9 kz9 hA9
  cases hhk:hasE13 l1 key with
  | false =>
   rw[hhk] at hWo
   go_wp2_with (go_at_call 69;refine hWo.mono ?_;rintro r5 y5 ⟨rfl,hk5,hpk5,hki5,hres5⟩;have HR5:=mkHid (And.intro hk5 hres5);clear hk5 hpk5 hki5 hres5)
   go_ret
   rcases HR5.out.2 with⟨_,hb5⟩|⟨h5,_⟩
   ·have hb:=HB9.out.trans (hb5.mono HB9.out.size)
    exact⟨by rw[HFR.out.2.1,hhk];rfl,HK0.out.trans (KS.of_below hb HLo.out),.inl ⟨by rw[HFR.out.2.1,hhk],HW1.out.trans (hb.mono HW1.out.size)⟩⟩
   ·cases h5
  | true =>
   rw[hhk] at hWo
   go_upto_region 6 with(go_at_call 69;refine hWo.mono ?_;rintro r5 y5 ⟨rfl,hk5,hpk5,hki5,hres5⟩)
   rcases hres5 with⟨h5,_⟩|⟨_,t5,ve5,L5,hA5,hwp5,hB5,hO5,hm5,hx5⟩
   ·cases h5
   have hkD5:=hk5.o
   have KG5:Blk y5 w.heap.size 87 [.pointer (some ⟨S,0,none⟩)]:=hkD5.blk (HB0.out.on HBD.out) (by decide)
   have KP5:Blk y5 Bp 133 [.int .i64 (rt:Int),.int .i64 1,.slice pa 0 pc,.slice (some ⟨g,0,none⟩) n cap]:=hkD5.blk (HP0.out.on HBD.out) (by decide)
   have hO5r:OwnZ y5 w0.heap.size (.slice (some ⟨g,0,none⟩) n cap) ((Q.map (·.1)).map Int.ofNat):=own_keepO (us:=[3]) (hkD5.less (by decide)) (own_keepO (us:=[3]) (KeepO.of_below HBD.out) HO0.out (by decide)) (by decide)
   have hkk5:OwnZ y5 y1.drew.heap.size (slv13 (xa,0,xc)) (([]:List Nat).map Int.ofNat):=own_keepO (us:=[3]) hki5 HP9.out.k (by decide)
   have hK05:KS base w0 y5:=(HK0.out.trans (KS.of_below HBD.out HLo.out)).trans hk5
   obtain⟨va5,vc5,hve5,-⟩:=hO5.form
   subst hve5
   rw[HQ.out.1] at hO5r
   have c0:=KG5.cell 0
   have d0:=KP5.cell 0
   have d1:=KP5.cell 1
   have d2:=KP5.cell 2
   have d3:=KP5.cell 3
   have e0:=hB5.cell 0
   have e1:=hB5.cell 1
   have e2:=hB5.cell 2
   have e3:=hB5.cell 3
   simp only[gZ0,gZ1] at c0 d0 d1 d2 d3 e0 e1 e2 e3
   obtain⟨hr5,hX5,hw5⟩:=hwp5
   have hnn:n≤254:=by have:=HNl.out;omega
   have HMend:Calls Tryz.prog 106 #[.agg #[.pointer (some ⟨S,0,none⟩)],.pointer (some ⟨Bp,0,none⟩),.int .i64 (i:Int),.agg #[.int .i64 (s1:Int),.int .i64 0,.slice va5 L5.length vc5,.slice xa 0 xc]] y5 (MendPost w0 S J P base m t5 j Bp rt A B (delE13 l1 key) pa pc):=by
    rcases hw5 with⟨hd5,hF5⟩|⟨hd5,hl5,hF5⟩
    ·have hL5:L5=[]:=List.map_eq_nil_iff.1 (hm5.trans hd5)
     rw[hL5,hd5]
     exact codMend0 y5 w0 S J P base m t5 j Bp rt s1 n cap g i A B l1 pa va5 xa pc vc5 xc hA5 hF5 (fun e=>by have h2:=HN.out.1.n;have hA:=List.append_eq_nil_iff.1 e;rw[HQ.out.1,hA.1,hA.2] at h2;simp at h2) hK05 KP5 hBp hO5r HQ.out.2 hnn (by omega) hlo0
    ·have hso5:SrtE (entsP (A++(s1,delE13 l1 key):: B)):=by
      rw[ents_mid,←HFR.out.2.2.1]
      exact HN.out.2.2.del key
     have hrd5:spRdB t5 j (rt:Int)=nodeB ((A++(s1,delE13 l1 key):: B).map (·.1)):=by
      rw[hX5 rt List.mem_cons_self,HFR.out.2.2.2]
      simp only[List.map_append,List.map_cons]
     have hOr:OwnZ y5 w0.heap.size (.slice (some ⟨g,0,none⟩) n cap) (((A++(s1,delE13 l1 key):: B).map (·.1)).map Int.ofNat):=by
      have:=hO5r
      simp only[List.map_append,List.map_cons] at this ⊢
      exact this
     exact codMend1 y5 w0 S J P base m t5 j Bp rt s1 n cap g i y1.drew.heap.size A B (delE13 l1 key) (va5,L5.length,vc5) (xa,0,xc) L5 pa pc hA5 hF5 hrd5 hso5 hK05 KP5 hBp hOr hO5 hx5 hm5 hkk5 HQ.out.2 hnn (by omega) hlo0
   unfold gT at HMend
   have HT5:=mkHid hr5
   clear hkD5 KG5 KP5 hO5r hkk5 hK05 hw5 hX5 hr5 hA5 hB5 hO5 hm5 hx5 hk5 hpk5 hki5 hWo
   generalize L5.length=n5 at *
   go_wp2_with (go_at_call 106;refine HMend.mono ?_;rintro r6 y6 ⟨rfl,hex6,hk6⟩;have HR6:=mkHid (And.intro hex6 hk6);clear hex6 hk6)
   go_ret
   obtain⟨t6,Q6,va6,vn6,vc6,hA6,⟨m1,m2,m3,m4,m5,m6⟩,hB6,hO6⟩:=HR6.out.1
   refine⟨by rw[HFR.out.2.1,hhk];rfl,HR6.out.2,.inr ⟨by rw[HFR.out.2.1,hhk],t6,Q6,va6,vn6,vc6,hA6,m1,m2,by rw[m3,HFR.out.2.2.1],m5,?_,by have:=HT5.out;omega,hB6,hO6⟩⟩
   rw[HQ.out.1]
   simp only[List.length_append,List.length_cons]
   omega
def RemT (w:World)(S J P base m:Nat)(t:Tl)(j:Jl)(l:List Et)(key:List UInt8)(r:Ending)(w':World):Prop :=
 (∃t' root' S',r=.returned (.tuple #[.int .i64 ((root':Nat):Int),.bool (hasE13 l key)])∧SpAx w' S J P base t' j∧Tk t' j m S'∧TR t' j root' (delE13 l key) S'∧t'.l.length≤t.l.length+5)∧KS base w w'
theorem pgRemove0 (w:World)(S J P base m:Nat)(t:Tl)(j:Jl)(ka:Option Addr)(kn kc:Nat)(key:List UInt8)(h:SpAx w S J P base t j)(hk:Tk t j m []):
  Calls Tryz.prog 47 #[gT S,.int .i64 0,.slice ka kn kc] w (RemT w S J P base m t j [] key):=by
 have hlo:=spcOK.lo h
 unfold gT
 have W1:Below w.heap.size w (w.alloc (.cells #[.pointer (some ⟨S,0,none⟩)] 87)):=(Below.refl _ w).alloc (Nat.le_refl _) _
 have HF:=mkHid (And.intro (SpAx.keep h (KeepT.of_below W1)) (KS.of_below (base:=base) W1 hlo))
 have HT:Hid (TR t j 0 [] []):=⟨List.Pairwise.nil,.inl ⟨rfl,rfl,rfl⟩⟩
 clear h W1
 go_enter Tryz.func47,Tryz.ntmps47
 go_wp2_with fail
 refine bodyPost_ret (results_tmp2 rfl _ _ _) rfl ?_
 exact⟨⟨t,0,[],rfl,HF.out.1,hk,HT.out,by omega⟩,HF.out.2⟩
theorem pgRemoveL (w:World)(S J P base m:Nat)(t:Tl)(j:Jl)(s:Nat)(l:List Et)(ka:Option Addr)(kn kc:Nat)(key:List UInt8)(h:SpAx w S J P base t j)(hk:Tk t j m [(s:Int)])(hl:LfAt t j s l)(hkey:IsB w ka kn kc key)(hroom:t.l.length+6≤48):
  Calls Tryz.prog 47 #[gT S,.int .i64 (s:Int),.slice ka kn kc] w (RemT w S J P base m t j l key):=by
 have hlo:=spcOK.lo h
 have hf:=hk.fit
 have hn2:=hf.few.n
 have hsr:=hk.rng (s:Int) List.mem_cons_self
 have hll:=hl.ok.len
 have hFR:FR t j m ([]++(s,l):: []) []:=FR.ofLeaf hl hk
 unfold gT
 have W1:Below w.heap.size w (w.alloc (.cells #[.pointer (some ⟨S,0,none⟩)] 87)):=(Below.refl _ w).alloc (Nat.le_refl _) _
 have k0:Blk (w.alloc (.cells #[.pointer (some ⟨S,0,none⟩)] 87)) w.heap.size 87 [.pointer (some ⟨S,0,none⟩)]:=Blk.newAt w w.heap.size 87 #[.pointer (some ⟨S,0,none⟩)] [.pointer (some ⟨S,0,none⟩)] rfl rfl
 generalize hW:w.alloc (.cells #[.pointer (some ⟨S,0,none⟩)] 87)=Y0 at *
 have hA0:=SpAx.keep h (KeepT.of_below W1)
 have hkey0:=hkey.below W1 rfl
 have HRd:=pgRead Y0 S J P base m t j s ⟨0,l,[]⟩ hA0 hf (by omega) (by omega) (by rw[hl.rd];exact pg_leaf hl.ok)
 have HWo:Hid (∀Y2 Kb ve vk L,Below Y0.heap.size Y0 Y2→Y0.heap.size≤Kb→Blk Y2 Kb 133 [.int .i64 (s:Int),.int .i64 0,ve,vk]→OwnN Y2 Y0.heap.size ve L→(∀x∈L,EtP Y2 x.1 x.2)→L.map Prod.fst=l→(∃a c,vk=.slice a 0 c) →
   Calls Tryz.prog 69 #[gT S,.pointer (some ⟨Kb,0,none⟩),.slice ka kn kc] Y2 fun r w'=>r=.returned (.bool (hasE13 l key))∧KS base Y0 w'∧(∀B cs,B≠Kb→Blk Y2 B 133 cs→Blk w' B 133 cs)∧KeepO [3] Y2 w'∧WoRes Y2 w' Y0 S J P base m t j [] [] [] s Kb l vk key (hasE13 l key)):=fun Y2 Kb ve vk L hb hKb hB hO hx hL hvk =>
  codWoLeaf Y2 Y0 S J P base m t j [] [] [] s Kb l ve vk L ka kn kc key (SpAx.keep hA0 (KeepT.of_below hb)) hFR (KS.of_below hb (spcOK.lo hA0)) hB hO hx hL hvk (hkey0.below hb rfl) hKb (by omega) (spcOK.lo hA0)
 have HK0:=mkHid (KS.of_below (base:=base) W1 hlo)
 have HA0:=mkHid hA0
 have HLo:Hid (base≤Y0.heap.size):=spcOK.lo hA0
 have HTk:=mkHid (And.intro hk hl)
 unfold gT at *
 have HB0:=mkHid k0
 have c0:=k0.cell 0
 simp only[List.getElem?_cons_zero] at c0
 have hs0:((s:Int)==0)=false:=by rw[beq_eq_false_iff_ne];omega
 have hs1:¬s=0:=by omega
 have hno:=del_no l key
 clear h hk hFR W1 k0 hA0 hl hsr hkey hkey0
 unfold RemT
 go_enter Tryz.func47,Tryz.ntmps47
 go_upto_region 1 with fail
 (try rw[hW])
 clear hW
 go_upto_region 3 with fail
 go_upto_region 4 with(go_at_call 67;refine HRd.mono ?_;rintro r1 y1 ⟨⟨v,ve,vk,L,rfl,hp1⟩,hb1⟩;obtain⟨ea,ec,xa,xc,hve,hvk⟩:=hp1.r.forms;subst hve hvk;obtain rfl:=hp1.v;unfold pgc)
 have W2:Below y1.heap.size y1 (y1.alloc (.cells #[.int .i64 (s:Int),.int .i64 0,.slice ea l.length ec,.slice xa 0 xc] 133)):=(Below.refl _ y1).alloc (Nat.le_refl _) _
 have kp:Blk (y1.alloc (.cells #[.int .i64 (s:Int),.int .i64 0,.slice ea l.length ec,.slice xa 0 xc] 133)) y1.heap.size 133 [.int .i64 (s:Int),.int .i64 0,.slice ea l.length ec,.slice xa 0 xc]:=Blk.new y1 133 [.int .i64 (s:Int),.int .i64 0,.slice ea l.length ec,.slice xa 0 xc]
 have hb2:=hb1.trans (W2.mono hb1.size)
 have hp2:=hp1.below W2
 have hWo:=HWo.out _ y1.heap.size _ _ L hb2 hb1.size kp hp2.e hp2.x hp2.es ⟨xa,xc,rfl⟩
 have kb0:=HB0.out.on hb2
 generalize y1.alloc (.cells #[.int .i64 (s:Int),.int .i64 0,.slice ea l.length ec,.slice xa 0 xc] 133)=Y2 at *
 have c0:=kb0.cell 0
 simp only[List.getElem?_cons_zero] at c0
 have HB2:=mkHid hb2
 clear hp1 hp2 HWo HRd hb1 kb0 kp W2 hb2
 cases hh:hasE13 l key with
 | false =>
  rw[hh] at hWo
  go_wp2_with (go_at_call 69;refine hWo.mono ?_;rintro r3 y3 ⟨rfl,hk3,hpk3,hki3,hres3⟩;have HR3:=mkHid (And.intro hk3 hres3);clear hk3 hpk3 hki3 hres3)
  refine bodyPost_ret (results_tmp2 rfl _ _ _) rfl ?_
  rcases HR3.out.2 with⟨_,hb3⟩|⟨h3,_⟩
  ·have hb:=HB2.out.trans (hb3.mono HB2.out.size)
   refine⟨⟨t,s,[(s:Int)],by rw[hh];rfl,SpAx.keep HA0.out (KeepT.of_below hb),HTk.out.1,?_,by omega⟩,HK0.out.trans (KS.of_below hb HLo.out)⟩
   rw[hno hh]
   exact(FR.leaf (FR.ofLeaf HTk.out.2 HTk.out.1)).1
  ·cases h3
 | true =>
  rw[hh] at hWo
  go_upto_region 6 with(go_at_call 69;refine hWo.mono ?_;rintro r3 y3 ⟨rfl,hk3,hpk3,hki3,hres3⟩)
  rcases hres3 with⟨h3,_⟩|⟨_,t3,ve3,L3,hA3,hwp3,hB3,hO3,hm3,hx3⟩
  ·cases h3
  obtain⟨va,vc,hve3,-⟩:=hO3.form
  subst hve3
  have hln3:L3.length=(delE13 l key).length:=by rw[←hm3,List.length_map]
  have hle3:=del_len l key hh
  have d0:=hB3.cell 0
  have d1:=hB3.cell 1
  have d2:=hB3.cell 2
  have d3:=hB3.cell 3
  simp only[gZ0,gZ1] at d0 d1 d2 d3
  have HK3:=mkHid (HK0.out.trans hk3)
  have HA3:=mkHid hA3
  have HB3:=mkHid hB3
  obtain⟨hr3,_,hw3⟩:=hwp3
  have hLn:=fun W=>codLen13 (s:Int) 0 va xa L3.length vc 0 xc W (by omega)
  unfold pgc at hLn
  have hLn:∀W,Calls Tryz.prog 70 #[.agg #[.int .i64 (s:Int),.int .i64 0,.slice va L3.length vc,.slice xa 0 xc]] W fun e w'=>e=.returned (.int .i64 (L3.length:Int))∧Below W.heap.size W w':=hLn
  obtain⟨n3,hn3⟩:∃n3,n3=L3.length:=⟨_,rfl⟩
  rw[←hn3] at hLn d2 hln3
  clear hB3 hO3 hm3 hx3 hk3 hpk3 hki3 hWo hA3 hn3
  rcases hw3 with⟨hd3,hF3⟩|⟨hd3,hl3,hF3⟩
  ·have hz:n3=0:=by rw[hln3,hd3];rfl
   have hLn0:∀W,Calls Tryz.prog 70 #[.agg #[.int .i64 (s:Int),.int .i64 0,.slice va n3 vc,.slice xa 0 xc]] W fun e w'=>e=.returned (.int .i64 0)∧Below W.heap.size W w':=fun W=>by
    have:=hLn W
    rw[show ((n3:Nat):Int)=0 by omega] at this
    exact this
   have HF3:=mkHid (And.intro hd3 hF3)
   clear hz hLn hln3 hle3 hd3 hF3
   go_wp2_with (go_at_call 70;refine(hLn0 _).mono ?_;rintro r5 y5 ⟨rfl,hb5⟩;have HB5:=mkHid hb5;clear hb5)
   refine bodyPost_ret (results_tmp2 rfl _ _ _) rfl ?_
   refine⟨⟨t3,0,[],by rw[hh];rfl,SpAx.keep HA3.out (KeepT.of_below HB5.out),HF3.out.2.tk,⟨?_,.inl ⟨rfl,HF3.out.1,rfl⟩⟩,by omega⟩,HK3.out.trans (KS.of_below HB5.out (spcOK.lo HA3.out))⟩
   rw[HF3.out.1]
   exact List.Pairwise.nil
  ·have hz:((n3:Int)==0)=false:=by
    rw[beq_eq_false_iff_ne]
    have:=List.length_pos_iff.2 hd3
    omega
   have hz2:¬n3=0:=by
    have:=List.length_pos_iff.2 hd3
    omega
   have HF3:=mkHid (FR.leaf (show FR t3 j m [(s,delE13 l key)] [] from hF3))
   clear hln3 hle3 hd3 hF3 hl3
   go_upto_region 8 with(go_at_call 70;refine(hLn _).mono ?_;rintro r5 y5 ⟨rfl,hb5⟩)
   have hk5:=HK3.out.trans (KS.of_below hb5 (spcOK.lo HA3.out))
   have d1:=(HB3.out.on hb5).cell 1
   simp only[gZ0,gZ1] at d1
   have HF5:=mkHid (And.intro (SpAx.keep HA3.out (KeepT.of_below hb5)) hk5)
   clear hb5 hk5 hLn
   go_wp2_with fail
   refine bodyPost_ret (results_tmp2 rfl _ _ _) rfl ?_
   exact⟨⟨t3,s,_,by rw[hh];rfl,HF5.out.1,HF3.out.2,HF3.out.1,by omega⟩,HF5.out.2⟩
theorem pgRemoveN (w:World)(S J P base m:Nat)(t:Tl)(j:Jl)(s:Nat)(Q:Ps)(ka:Option Addr)(kn kc:Nat)(key:List UInt8)(h:SpAx w S J P base t j)(hk:Tk t j m ((s:Int):: secsP Q))(hN:NdAt t j s Q)(hso:SrtE (entsP Q))(hkey:IsB w ka kn kc key)(hroom:t.l.length+6≤48):
  Calls Tryz.prog 47 #[gT S,.int .i64 (s:Int),.slice ka kn kc] w (RemT w S J P base m t j (entsP Q) key):=by
 have hlo:=spcOK.lo h
 have hf:=hk.fit
 have hn2:=hf.few.n
 have hsr:=hk.rng (s:Int) List.mem_cons_self
 unfold gT
 have W1:Below w.heap.size w (w.alloc (.cells #[.pointer (some ⟨S,0,none⟩)] 87)):=(Below.refl _ w).alloc (Nat.le_refl _) _
 have k0:Blk (w.alloc (.cells #[.pointer (some ⟨S,0,none⟩)] 87)) w.heap.size 87 [.pointer (some ⟨S,0,none⟩)]:=Blk.newAt w w.heap.size 87 #[.pointer (some ⟨S,0,none⟩)] [.pointer (some ⟨S,0,none⟩)] rfl rfl
 generalize hW:w.alloc (.cells #[.pointer (some ⟨S,0,none⟩)] 87)=Y0 at *
 have hA0:=SpAx.keep h (KeepT.of_below W1)
 have hkey0:=hkey.below W1 rfl
 have HRd:=pgRead Y0 S J P base m t j s _ hA0 hf (by omega) (by omega) (nd_pg13 hN hk)
 have HWo:Hid (∀Y2 Kb pa pc g n cap,Below Y0.heap.size Y0 Y2→Y0.heap.size≤Kb→Blk Y2 Kb 133 [.int .i64 (s:Int),.int .i64 1,.slice pa 0 pc,.slice (some ⟨g,0,none⟩) n cap]→OwnZ Y2 Y0.heap.size (.slice (some ⟨g,0,none⟩) n cap) ((Q.map (·.1)).map Int.ofNat) →
   Calls Tryz.prog 69 #[gT S,.pointer (some ⟨Kb,0,none⟩),.slice ka kn kc] Y2 fun r w'=>r=.returned (.bool (hasE13 (entsP Q) key))∧KS base Y0 w'∧WonRes Y2 w' Y0 S J P base m t j Kb s Q key pa pc (hasE13 (entsP Q) key)):=fun Y2 Kb pa pc g n cap hb hKb hB hO =>
  codWoNode Y2 Y0 S J P base m t j Kb s n cap g Q pa ka pc kn kc key (SpAx.keep hA0 (KeepT.of_below hb)) hN hk hso (KS.of_below hb (spcOK.lo hA0)) hB hKb hO (hkey0.below hb rfl) (by omega) (spcOK.lo hA0)
 have HK0:=mkHid (KS.of_below (base:=base) W1 hlo)
 have HA0:=mkHid hA0
 have HLo:Hid (base≤Y0.heap.size):=spcOK.lo hA0
 have HTk:=mkHid (And.intro hk (And.intro hN hso))
 unfold gT at *
 have HB0:=mkHid k0
 have c0:=k0.cell 0
 simp only[List.getElem?_cons_zero] at c0
 have hs0:((s:Int)==0)=false:=by rw[beq_eq_false_iff_ne];omega
 have hs1:¬s=0:=by omega
 have hq2:=hN.n
 have hq254:=hN.n2
 clear h hk W1 k0 hA0 hN hkey hkey0 hso
 unfold RemT
 generalize hks:Q.map (·.1)=ks at *
 have HKl:Hid (ks.length=Q.length):=by unfold Hid;rw[←hks,List.length_map]
 go_enter Tryz.func47,Tryz.ntmps47
 go_upto_region 1 with fail
 (try rw[hW])
 clear hW
 go_upto_region 3 with fail
 go_upto_region 4 with(go_at_call 67;refine HRd.mono ?_;rintro r1 y1 ⟨⟨v,ve,vk,L,rfl,hp1⟩,hb1⟩;obtain⟨ea,ec,xa,xc,hve,hvk⟩:=hp1.r.forms;subst hve hvk;obtain rfl:=hp1.v;unfold pgc)
 obtain⟨g,hxg⟩:∃g,xa=some ⟨g,0,none⟩:=by
  obtain⟨a',c',e1,_,_,h3⟩:=OwnRw.form okI13 hp1.k.c
  injection e1 with e1 _ _
  obtain⟨g,h4,_⟩:=h3 (by show 0<(ks.map Int.ofNat).length;rw[List.length_map];have:=HKl.out;omega)
  exact⟨g,e1.trans h4⟩
 subst hxg
 have W2:Below y1.heap.size y1 (y1.alloc (.cells #[.int .i64 (s:Int),.int .i64 1,.slice ea 0 ec,.slice (some ⟨g,0,none⟩) ks.length xc] 133)):=(Below.refl _ y1).alloc (Nat.le_refl _) _
 have kp:Blk (y1.alloc (.cells #[.int .i64 (s:Int),.int .i64 1,.slice ea 0 ec,.slice (some ⟨g,0,none⟩) ks.length xc] 133)) y1.heap.size 133 [.int .i64 (s:Int),.int .i64 1,.slice ea 0 ec,.slice (some ⟨g,0,none⟩) ks.length xc]:=Blk.new y1 133 [.int .i64 (s:Int),.int .i64 1,.slice ea 0 ec,.slice (some ⟨g,0,none⟩) ks.length xc]
 have hb2:=hb1.trans (W2.mono hb1.size)
 have hp2:=hp1.below W2
 have hWo:=HWo.out _ y1.heap.size _ _ _ _ _ hb2 hb1.size kp hp2.k
 have kb0:=HB0.out.on hb2
 have HKy:Hid (Y0.heap.size≤y1.heap.size):=hb1.size
 generalize y1.alloc (.cells #[.int .i64 (s:Int),.int .i64 1,.slice ea 0 ec,.slice (some ⟨g,0,none⟩) ks.length xc] 133)=Y2 at *
 have c0:=kb0.cell 0
 simp only[List.getElem?_cons_zero] at c0
 have HB2:=mkHid hb2
 clear hp1 hp2 HWo HRd hb1 kb0 kp W2 hb2
 cases hh:hasE13 (entsP Q) key with
 | false =>
  rw[hh] at hWo
  go_wp2_with (go_at_call 69;refine hWo.mono ?_;rintro r3 y3 ⟨rfl,hk3,hres3⟩;have HR3:=mkHid (And.intro hk3 hres3);clear hk3 hres3)
  refine bodyPost_ret (results_tmp2 rfl _ _ _) rfl ?_
  rcases HR3.out.2 with⟨_,hb3⟩|⟨h3,_⟩
  ·have hb:=HB2.out.trans (hb3.mono HB2.out.size)
   refine⟨⟨t,s,(s:Int):: secsP Q,by rw[hh];rfl,SpAx.keep HA0.out (KeepT.of_below hb),HTk.out.1,?_,by omega⟩,HK0.out.trans (KS.of_below hb HLo.out)⟩
   rw[del_no _ _ hh]
   exact⟨HTk.out.2.2,.inr (.inr ⟨Q,HTk.out.2.1,rfl,rfl⟩)⟩
  ·cases h3
 | true =>
  rw[hh] at hWo
  go_upto_region 6 with(go_at_call 69;refine hWo.mono ?_;rintro r3 y3 ⟨rfl,hk3,hres3⟩)
  rcases hres3 with⟨h3,_⟩|⟨_,t3,Q3,va,vn,vc,hA3,hF3,hrd3,hen3,hne3,hql3,hr3,hB3,hO3⟩
  ·cases h3
  have hvn:vn=Q3.length:=by
   obtain⟨_,_,e1,_⟩:=OwnRw.form okI13 hO3.c
   injection e1 with _ e2 _
   rw[e2,List.length_map,List.length_map]
  have hq3:0<Q3.length:=List.length_pos_iff.2 hne3
  have c0':Blk y3 w.heap.size 87 [.pointer (some ⟨S,0,none⟩)]:=hk3.o.blk HB0.out (by decide)
  have d0:=hB3.cell 0
  have d1:=hB3.cell 1
  have d2:=hB3.cell 2
  have d3:=hB3.cell 3
  simp only[gZ0,gZ1] at d0 d1 d2 d3
  have HK3:=mkHid (HK0.out.trans hk3)
  have HA3:=mkHid hA3
  have HB3:=mkHid (And.intro hB3 c0')
  have HO3:=mkHid hO3
  have HF3:=mkHid (And.intro hF3 (And.intro hrd3 hen3))
  have hLn:∀W,Calls Tryz.prog 70 #[.agg #[.int .i64 (s:Int),.int .i64 1,.slice ea 0 ec,.slice va vn vc]] W fun e w'=>e=.returned (.int .i64 (vn:Int))∧Below W.heap.size W w':=fun W=>by
   have:=codLen13 (s:Int) 1 ea va 0 ec vn vc W (by omega)
   rw[Nat.zero_add] at this
   exact this
  have hz:((vn:Int)==0)=false:=by rw[beq_eq_false_iff_ne];omega
  have hz2:¬vn=0:=by omega
  have HVn:=mkHid hvn
  clear hB3 hO3 hk3 hWo hA3 hF3 hrd3 hen3 hne3 c0' hvn
  go_upto_region 8 with(go_at_call 70;refine(hLn _).mono ?_;rintro r5 y5 ⟨rfl,hb5⟩)
  have kp5:=HB3.out.1.on hb5
  have kg5:=HB3.out.2.on hb5
  have c0:=kg5.cell 0
  have d0:=kp5.cell 0
  have d1:=kp5.cell 1
  have d2:=kp5.cell 2
  have d3:=kp5.cell 3
  simp only[gZ0,gZ1] at c0 d0 d1 d2 d3
  have HB5:=mkHid hb5
  clear kp5 kg5 hb5
  by_cases h1:vn=1
  ·have h1':((vn:Int)==1)=true:=by rw[beq_iff_eq];omega
   have HV1:=mkHid h1
   clear h1
   go_upto_region 9 with(go_at_call 70;refine(hLn _).mono ?_;rintro r6 y6 ⟨rfl,hb6⟩)
   obtain⟨z1,z2,z3⟩:=HF3.out.1.untop (by omega)
   have hB36:=HB5.out.trans (hb6.mono HB5.out.size)
   have kp6:=HB3.out.1.on hB36
   have kg6:=HB3.out.2.on hB36
   have c0:=kg6.cell 0
   have d0:=kp6.cell 0
   have d1:=kp6.cell 1
   have d2:=kp6.cell 2
   have d3:=kp6.cell 3
   simp only[gZ0,gZ1] at c0 d0 d1 d2 d3
   have hA6:=SpAx.keep HA3.out (KeepT.of_below hB36)
   have hGv:=pgGive y6 S J P base m t3 j s 1 (.slice ea 0 ec) (.slice va vn vc) hA6 HF3.out.1.tk.fit (by omega) z1 ⟨_,_,_,rfl⟩ ⟨_,_,_,rfl⟩
   unfold gT pgc at hGv
   have hGv:Calls Tryz.prog 71 #[.agg #[.pointer (some ⟨S,0,none⟩)],.agg #[.int .i64 (s:Int),.int .i64 1,.slice ea 0 ec,.slice va vn vc]] y6 fun e w'=>e=.returned (.tuple #[])∧SpAx w' S J P base (gvT t3 j (s:Int)) j∧KS base y6 w':=hGv
   have HZ:=mkHid (And.intro z2 z3)
   have HK6:=mkHid (HK3.out.trans (KS.of_below hB36 (spcOK.lo HA3.out)))
   have HP6:=mkHid kp6
   have HO6:=mkHid (own_keepO (us:=[3]) (KeepO.of_below hB36) HO3.out (by decide))
   clear kp6 kg6 hb6 hB36 z1 z2 z3 hA6 hLn
   obtain⟨p1,hQ1⟩:∃p1,Q3=[p1]:=by
    have:=HV1.out
    have h2:=HVn.out
    exact List.length_eq_one_iff.1 (by omega)
   go_upto_region 10 with(go_at_call 71;refine hGv.mono ?_;rintro r7 y7 ⟨rfl,hA7,hk7⟩)
   have kp7:=hk7.o.blk HP6.out (by decide)
   have hO7:OwnZ y7 Y0.heap.size (.slice va vn vc) ((Q3.map (·.1)).map Int.ofNat):=own_keepO (us:=[3]) (hk7.o.less (by decide)) HO6.out (by decide)
   obtain⟨gg,hvg,hcell⟩:∃gg,va=some ⟨gg,0,none⟩∧y7.cell? ⟨gg,0,none⟩=some (.int .i64 (p1.1:Int)):=by
    rw[hQ1] at hO7
    obtain⟨a',c',e1,_,_,h3⟩:=OwnRw.form okI13 hO7.c
    injection e1 with e1 _ _
    obtain⟨gg,h4,_,_,h5⟩:=h3 (by simp)
    refine⟨gg,e1.trans h4,?_⟩
    have:=h5 0 (by simp) 0 (by decide)
    simpa using this
   subst hvg
   have d3:=kp7.cell 3
   simp only[gZ0,gZ1] at d3
   have hv1:(0:Int)<(vn:Int):=by omega
   have hv2:0<vn:=by omega
   have HR7:=mkHid (And.intro hA7 (HK6.out.trans hk7))
   clear hGv hO7 kp7 hA7 hk7
   go_wp2_with fail
   refine bodyPost_ret (results_tmp2 rfl _ _ _) rfl ?_
   have hFl:FR (gvT t3 j (s:Int)) j m [(p1.1,p1.2)] []:=by have:=HZ.out.1;rw[hQ1] at this;exact this
   have hlf:=hFl.leaf
   have hen:delE13 (entsP Q) key=p1.2:=by rw[←HF3.out.2.2,hQ1,entsP,entsP,List.append_nil]
   rw[←hen] at hlf
   exact⟨⟨_,p1.1,_,by rw[hh];rfl,HR7.out.1,hlf.2,hlf.1,by have:=HZ.out.2;omega⟩,HR7.out.2⟩
  ·have h1':((vn:Int)==1)=false:=by rw[beq_eq_false_iff_ne];omega
   have HV1:=mkHid h1
   clear h1
   go_wp2_with (go_at_call 70;refine(hLn _).mono ?_;rintro r6 y6 ⟨rfl,hb6⟩;have HB6:=mkHid hb6;clear hb6)
   refine bodyPost_ret (results_tmp2 rfl _ _ _) rfl ?_
   have hB36:=HB5.out.trans (HB6.out.mono HB5.out.size)
   have hso3:SrtE (entsP Q3):=by rw[HF3.out.2.2];exact HTk.out.2.2.del key
   have hn:=HF3.out.1.node hso3 (by have:=HV1.out;have:=HVn.out;omega) (by omega) HF3.out.2.1
   rw[HF3.out.2.2] at hn
   exact⟨⟨t3,s,_,by rw[hh];rfl,SpAx.keep HA3.out (KeepT.of_below hB36),hn.2,hn.1,by omega⟩,HK3.out.trans (KS.of_below hB36 (spcOK.lo HA3.out))⟩
theorem pgRemove (w:World)(S J P base m:Nat)(t:Tl)(j:Jl)(root:Nat)(l:List Et)(SS:List Int)(ka:Option Addr)(kn kc:Nat)(key:List UInt8)(h:SpAx w S J P base t j)(hk:Tk t j m SS)(ht:TR t j root l SS)(hkey:IsB w ka kn kc key)(hroom:t.l.length+6≤48):
  Calls Tryz.prog 47 #[gT S,.int .i64 (root:Int),.slice ka kn kc] w (RemT w S J P base m t j l key):=by
 rcases ht.2 with⟨rfl,rfl,rfl⟩|⟨rfl,hL⟩|⟨Q,hN,rfl,rfl⟩
 ·exact pgRemove0 w S J P base m t j ka kn kc key h hk
 ·exact pgRemoveL w S J P base m t j root l ka kn kc key h hk hL hkey hroom
 ·exact pgRemoveN w S J P base m t j root Q ka kn kc key h hk hN ht.1 hkey hroom
structure DvAt (W:World)(N S:Nat)(root:Int)(kv x y:Value):Prop where
 t:Blk W N 26 [.pointer (some ⟨S,0,none⟩)]
 r:Blk W (N+1) 3 [.int .i64 root]
 k:Blk W (N+2) 33 [kv]
 n:Blk W (N+3) 3 [x]
 h:Blk W (N+4) 4 [y]
theorem DvAt.on {W W':World}{N S:Nat}{root:Int}{kv x y:Value}(g:DvAt W N S root kv x y)(hb:Below W.heap.size W W'):DvAt W' N S root kv x y:=⟨g.t.on hb,g.r.on hb,g.k.on hb,g.n.on hb,g.h.on hb⟩
theorem DvAt.ks {W W':World}{N S base:Nat}{root:Int}{kv x y:Value}(g:DvAt W N S root kv x y)(hk:KS base W W'):DvAt W' N S root kv x y:=⟨hk.o.blk g.t (by decide),hk.o.blk g.r (by decide),hk.o.blk g.k (by decide),hk.o.blk g.n (by decide),hk.o.blk g.h (by decide)⟩
def DelR (w0:World)(S J P base m N:Nat)(t:Tl)(j:Jl)(l:List Et)(key:List UInt8)(root:Int)(kv:Value)(w':World):Prop :=
 ∃t' root' S',SpAx w' S J P base t' j∧Tk t' j m S'∧TR t' j root' (delE13 l key) S'∧t'.l.length≤t.l.length+5∧DvAt w' N S root kv (.int .i64 ((root':Nat):Int)) (.bool (hasE13 l key))∧Blk w' (N+5) 30 [.int .i64 0]∧KS base w0 w'
theorem codDel1 (w w0:World)(S J P base m N:Nat)(t:Tl)(j:Jl)(root:Nat)(l:List Et)(SS:List Int)(ka:Option Addr)(kn kc:Nat)(key:List UInt8)(h:SpAx w S J P base t j)(hk:Tk t j m SS)(ht:TR t j root l SS)(hkey:IsB w ka kn kc key)(hroom:t.l.length+6≤48)(hK:KS base w0 w)(hN:w0.heap.size≤N)(hlo0:base≤w0.heap.size)
  (hg:DvAt w N S (root:Int) (.slice ka kn kc) (.int .i64 0) (.bool false)) (hE:Blk w (N+5) 30 [.int .i64 0]):
  Calls Tryz.prog 46 #[.pointer (some ⟨N,0,none⟩),.pointer (some ⟨N+1,0,none⟩),.pointer (some ⟨N+2,0,none⟩),.pointer (some ⟨N+3,0,none⟩),.pointer (some ⟨N+4,0,none⟩)] w fun r w'=>r=.returned (.tuple #[])∧DelR w0 S J P base m N t j l key (root:Int) (.slice ka kn kc) w':=by
 have HG:=pgRemove w S J P base m t j root l SS ka kn kc key h hk ht hkey hroom
 unfold gT RemT at HG
 have c0:w.cell? ⟨N,0,none⟩=some (.pointer (some ⟨S,0,none⟩)):=hg.t.cell 0
 have c1:w.cell? ⟨N+1,0,none⟩=some (.int .i64 (root:Int)):=hg.r.cell 0
 have c2:w.cell? ⟨N+2,0,none⟩=some (.slice ka kn kc):=hg.k.cell 0
 have HGv:=mkHid hg
 have HE:=mkHid hE
 have HK:=mkHid hK
 clear h hk ht hkey hg hE hK
 unfold DelR
 generalize hasE13 l key=hh at *
 go_enter Tryz.func46,Tryz.ntmps46
 go_wp2_with fail
 refine HG.mono ?_
 rintro r y1 ⟨⟨t',root',S',rfl,hA1,hk1,ht1,hr1⟩,hks1⟩
 have g1:=HGv.out.ks hks1
 have e1:=hks1.o.blk HE.out (by decide)
 have a3:=g1.n.cell 0
 have a4:=g1.h.cell 0
 simp only[List.getElem?_cons_zero] at a3 a4
 have f3:=g1.n.frozen 0
 have f4:=g1.h.frozen 0
 have HG1:=mkHid g1
 have HE1:=mkHid e1
 have HA1:=mkHid (And.intro hA1 (And.intro hk1 ht1))
 have HK1:=mkHid (HK.out.trans hks1)
 clear HG hks1 g1 e1 hA1 hk1 ht1 HK
 go_wp2_with fail
 go_end0
 have h4:Blk (y1.setCell ⟨N+3,0,none⟩ (.int .i64 ((root':Nat):Int))) (N+4) 4 [.bool false]:=HG1.out.h.other _ _ (by show N+4≠N+3;omega)
 refine⟨rfl,t',root',S',HA1.out.1.keep13 (((KeepT.refl _ y1).set HG1.out.n (by decide) 0 _).set h4 (by decide) 0 _),HA1.out.2.1,HA1.out.2.2,hr1,⟨(HG1.out.t.other _ _ (by show N≠N+3;omega)).other _ _ (by show N≠N+4;omega),(HG1.out.r.other _ _ (by show N+1≠N+3;omega)).other _ _ (by show N+1≠N+4;omega),(HG1.out.k.other _ _ (by show N+2≠N+3;omega)).other _ _ (by show N+2≠N+4;omega),(HG1.out.n.set 0 _).other _ _ (by show N+3≠N+4;omega),h4.set 0 _⟩,(HE1.out.other _ _ (by show N+5≠N+3;omega)).other _ _ (by show N+5≠N+4;omega),?_⟩
 exact HK1.out.over ((((Below.refl _ y1).mono HK1.out.o.size).setCell (p:=⟨N+3,0,none⟩) (by show w0.heap.size≤N+3;omega) _).setCell (p:=⟨N+4,0,none⟩) (by show w0.heap.size≤N+4;omega) _) hlo0
theorem del_begin (w:World)(S root:Nat)(kv:Value):∃Y0,Y0=((((w.alloc (.cells #[.pointer (some ⟨S,0,none⟩)] 26)).alloc (.cells #[.int .i64 (root:Int)] 3)).alloc (.cells #[kv] 33)).alloc (.cells #[.int .i64 0] 3)).alloc (.cells #[.bool false] 4)∧Below w.heap.size w Y0∧DvAt Y0 w.heap.size S (root:Int) kv (.int .i64 0) (.bool false)∧Y0.heap.size=w.heap.size+5:=by
 refine⟨_,rfl,(((((Below.refl _ w).alloc (Nat.le_refl _) _).alloc (by simp) _).alloc (by simp;omega) _).alloc (by simp;omega) _).alloc (by simp;omega) _,?_,by simp⟩
 exact⟨((((Blk.newAt w w.heap.size 26 _ [.pointer (some ⟨S,0,none⟩)] rfl rfl).alloc _).alloc _).alloc _).alloc _,(((Blk.newAt _ (w.heap.size+1) 3 _ [.int .i64 (root:Int)] (by simp) rfl).alloc _).alloc _).alloc _,((Blk.newAt _ (w.heap.size+2) 33 _ [kv] (by simp) rfl).alloc _).alloc _,(Blk.newAt _ (w.heap.size+3) 3 _ [.int .i64 0] (by simp) rfl).alloc _,Blk.newAt _ (w.heap.size+4) 4 _ [.bool false] (by simp) rfl⟩
theorem codDelNo (w:World)(S root:Nat)(ka:Option Addr)(kn kc:Nat)(hno:decide (1≤kn∧kn≤100)=false):
  Calls Tryz.prog 16 #[.pointer (some ⟨S,0,none⟩),.int .i64 (root:Int),.slice ka kn kc] w fun e w'=>e=.returned (.tuple #[.int .i64 0,.bool false,.int .i64 1])∧Below w.heap.size w w':=by
 have HIK:=codIsKey ka kn kc
 have hmf:=mkF0
 obtain⟨Y0,hY0,hB0,hG0,hs0⟩:=del_begin w S root (.slice ka kn kc)
 have HB0:=mkHid hB0
 have HG0:=mkHid hG0
 have c0:=hG0.t.cell 0
 have c2:=hG0.k.cell 0
 have c3:=hG0.n.cell 0
 have c4:=hG0.h.cell 0
 simp only[List.getElem?_cons_zero] at c0 c2 c3 c4
 have f3:=hG0.n.frozen 0
 have f4:=hG0.h.frozen 0
 have hY0':=hY0.symm
 rw[hno] at HIK
 have hn34:w.heap.size+3≠w.heap.size+4:=by omega
 clear hB0 hG0 hY0 hs0 hno
 go_enter Tryz.func16,Tryz.ntmps16
 go_wp2_with (go_at_call 39;refine(HIK _).mono ?_;rintro e w8 ⟨rfl,hw8⟩;rw[hw8];clear hw8)
 have kV:Blk ((Y0.setCell ⟨w.heap.size+3,0,none⟩ (.int .i64 0)).setCell ⟨w.heap.size+4,0,none⟩ (.bool false)) (w.heap.size+3) 3 [.int .i64 0]:=(HG0.out.n.set 0 _).other _ _ hn34
 have kH:Blk ((Y0.setCell ⟨w.heap.size+3,0,none⟩ (.int .i64 0)).setCell ⟨w.heap.size+4,0,none⟩ (.bool false)) (w.heap.size+4) 4 [.bool false]:=(HG0.out.h.other _ _ (Ne.symm hn34)).set 0 _
 refine bodyPost_ret (results_cct (P:=Tryz.prog) rfl _ _ (w.heap.size+3) (w.heap.size+4) _ _ rfl (load_in13 _ _ _ kV) rfl (load_bo13 _ _ _ kH)) rfl ?_
 exact⟨rfl,(HB0.out.setCell (p:=⟨w.heap.size+3,0,none⟩) (by show w.heap.size≤w.heap.size+3;omega) _).setCell (p:=⟨w.heap.size+4,0,none⟩) (by show w.heap.size≤w.heap.size+4;omega) _⟩
theorem codDel13 (w:World)(S J P base m:Nat)(t:Tl)(j:Jl)(root:Nat)(l:List Et)(SS:List Int)(ka:Option Addr)(kn kc:Nat)(key:List UInt8)(h:SpAx w S J P base t j)(hk:Tk t j m SS)(ht:TR t j root l SS)(hkey:IsB w ka kn kc key)(hok:keyOk key=true)(hroom:t.l.length+6≤48):
  Calls Tryz.prog 16 #[.pointer (some ⟨S,0,none⟩),.int .i64 (root:Int),.slice ka kn kc] w fun r w'=>(∃t' root' S',r=.returned (.tuple #[.int .i64 ((root':Nat):Int),.bool (hasE13 l key),.int .i64 0])∧SpAx w' S J P base t' j∧Tk t' j m S'∧TR t' j root' (delE13 l key) S'∧t'.l.length≤t.l.length+5)∧KS base w w':=by
 have hlo:=spcOK.lo h
 have hkn:=hkey.len_eq
 have HIK:=codIsKey ka kn kc
 have hko:decide (1≤kn∧kn≤100)=true:=by unfold keyOk at hok;rw[hkn] at hok;exact hok
 rw[hko] at HIK
 have hmf:=mkF0
 obtain⟨Y0,hY0,hB0,hG0,hs0⟩:=del_begin w S root (.slice ka kn kc)
 have hA:=(Below.refl _ Y0).alloc (Nat.le_refl _) (.cells #[.int .i64 0] 30)
 have hBA:=hB0.trans (hA.mono hB0.size)
 have hEA:Blk (Y0.alloc (.cells #[.int .i64 0] 30)) (w.heap.size+5) 30 [.int .i64 0]:=Blk.newAt Y0 (w.heap.size+5) 30 _ [.int .i64 0] hs0 rfl
 have HGd:=guardYes 46 #[.pointer (some ⟨w.heap.size,0,none⟩),.pointer (some ⟨w.heap.size+1,0,none⟩),.pointer (some ⟨w.heap.size+2,0,none⟩),.pointer (some ⟨w.heap.size+3,0,none⟩),.pointer (some ⟨w.heap.size+4,0,none⟩)] Y0
  (DelR w S J P base m w.heap.size t j l key (root:Int) (.slice ka kn kc))
  (fun W ⟨_,_,_,_,_,_,_,_,hE,_⟩=>by rw[hs0];exact hE) (fun args W=>by simp[callFunc,Tryz.func46];rfl)
  (codDel1 _ w S J P base m w.heap.size t j root l SS ka kn kc key (SpAx.keep h (KeepT.of_below hBA)) hk ht (hkey.below hBA rfl) hroom (KS.of_below hBA hlo) (Nat.le_refl _) hlo (hG0.on hA) hEA)
 have c0:=hG0.t.cell 0
 have c2:=hG0.k.cell 0
 have c3:=hG0.n.cell 0
 have c4:=hG0.h.cell 0
 simp only[List.getElem?_cons_zero] at c0 c2 c3 c4
 have f3:=hG0.n.frozen 0
 have f4:=hG0.h.frozen 0
 have hn34:w.heap.size+3≠w.heap.size+4:=by omega
 have hY0':=hY0.symm
 clear h hk ht hkey hB0 hG0 hY0 hA hBA hEA hok hkn hko
 go_enter Tryz.func16,Tryz.ntmps16
 go_wp2_with (go_at_call 39;refine(HIK _).mono ?_;rintro e w8 ⟨rfl,hw8⟩;rw[hw8];clear hw8)
 refine HGd.mono ?_
 rintro r y1 ⟨w1,⟨t',root',S',hA1,hk1,ht1,hr1,hg1,hE1,hks1⟩,rfl,hy1⟩
 rw[hs0] at hy1
 have kN:Blk y1 (w.heap.size+3) 3 [.int .i64 ((root':Nat):Int)]:=by rw[hy1];exact hg1.n.other _ _ (by show w.heap.size+3≠w.heap.size+5;omega)
 have kH:Blk y1 (w.heap.size+4) 4 [.bool (hasE13 l key)]:=by rw[hy1];exact hg1.h.other _ _ (by show w.heap.size+4≠w.heap.size+5;omega)
 have hA2:SpAx y1 S J P base t' j:=by rw[hy1];exact hA1.keep13 ((KeepT.refl _ w1).set hE1 (by decide) 0 _)
 have hk2:KS base w y1:=by rw[hy1];exact hks1.over (((Below.refl _ w1).mono hks1.o.size).setCell (p:=⟨w.heap.size+5,0,none⟩) (by show w.heap.size≤w.heap.size+5;omega) _) hlo
 have HR:=mkHid (And.intro hA2 (And.intro hk1 (And.intro ht1 (And.intro hr1 hk2))))
 have HKN:=mkHid kN
 have HKH:=mkHid kH
 have d3:=kN.cell 0
 have q3:=kN.frozen 0
 have d4:=kH.cell 0
 have q4:=kH.frozen 0
 simp only[List.getElem?_cons_zero] at d3 d4
 clear HGd hg1 hE1 hks1 hA1 hk1 ht1 hr1 hA2 hk2 kN kH hy1 c0 c2 c3 c4 f3 f4
 generalize hhe:hasE13 l key=hh at *
 go_wp2_with fail
 go_region
 all_goals
  go_wp2
 have kH2:Blk (y1.setCell ⟨w.heap.size+3,0,none⟩ (.int .i64 ((root':Nat):Int))) (w.heap.size+4) 4 [.bool hh]:=HKH.out.other _ _ (Ne.symm hn34)
 have kN3:=(HKN.out.set 0 (.int .i64 ((root':Nat):Int))).other ⟨w.heap.size+4,0,none⟩ (.bool hh) hn34
 have kH3:=kH2.set 0 (.bool hh)
 have kN4:Blk ((y1.setCell ⟨w.heap.size+3,0,none⟩ (.int .i64 ((root':Nat):Int))).setCell ⟨w.heap.size+4,0,none⟩ (.bool hh)).drew (w.heap.size+3) 3 [.int .i64 ((root':Nat):Int)]:=kN3
 have kH4:Blk ((y1.setCell ⟨w.heap.size+3,0,none⟩ (.int .i64 ((root':Nat):Int))).setCell ⟨w.heap.size+4,0,none⟩ (.bool hh)).drew (w.heap.size+4) 4 [.bool hh]:=kH3
 refine bodyPost_ret (results_cct (P:=Tryz.prog) rfl _ _ (w.heap.size+3) (w.heap.size+4) _ _ rfl (load_in13 _ _ _ kN4) rfl (load_bo13 _ _ _ kH4)) rfl ?_
 obtain⟨hA2,hk1,ht1,hr1,hk2⟩:=HR.out
 have hT:KeepT T13 y1 ((y1.setCell ⟨w.heap.size+3,0,none⟩ (.int .i64 ((root':Nat):Int))).setCell ⟨w.heap.size+4,0,none⟩ (.bool hh)):=((KeepT.refl _ y1).set HKN.out (by decide) 0 _).set kH2 (by decide) 0 _
 have hB:=((((Below.refl _ y1).mono hk2.o.size).setCell (p:=⟨w.heap.size+3,0,none⟩) (by show w.heap.size≤w.heap.size+3;omega) (.int .i64 ((root':Nat):Int))).setCell (p:=⟨w.heap.size+4,0,none⟩) (by show w.heap.size≤w.heap.size+4;omega) (.bool hh)).drew
 exact⟨⟨t',root',S',by rw[hhe];rfl,SpAx.keep (hA2.keep13 hT) (KeepT.of_below (Below.drew (Below.refl _ _))),hk1,ht1,hr1⟩,hk2.over hB hlo⟩
end
end Go.Proofs.YtpecobmfabmpkaaGreatDoor
