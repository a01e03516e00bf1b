/- PtW PtX PtY Tp4 PuE TakeN PvK -/
import Derived.Test.YtpecobmfabmpkaaGreatDoorM12
set_option maxRecDepth 20000
set_option maxHeartbeats 4000000
namespace Go.Proofs.YtpecobmfabmpkaaGreatDoor
section
open Go.RowKit
variable {fl:Nat}
def offK (p:Pg)(c:Nat):Nat:=max (2 * szK p c-szP p) (szP p-2 * szK p c)
theorem offK_leaf (l:List Et)(c:Nat):offK ⟨0,l,[]⟩ c=offC l c:=by
 unfold offK offC szP szK
 simp
theorem szK_tot {p:Pg}(hf:PgF p)(k:Nat)(hk:k≤p.es.length+p.ks.length):szK p k≤szP p:=by
 unfold szK szP
 split
 ·have:=szL_take_le p.es k;omega
 ·rename_i h0
  have:=hf.e0 (by omega)
  rw[this,List.length_nil] at hk
  omega
theorem codMiddle (at_:Int)(p:Pg)(ve vk:Value)(L:List Eq3)(w:World)(h:PgR fl w p ve vk L)(hf:PgF p)(hn:2≤p.es.length+p.ks.length):
  Calls Tryz.prog 182 #[.agg (pgc at_ p.lv ve vk).toArray] w fun e w'=>(∃c:Nat,e=.returned (.int .i64 (c:Int))∧0<c∧c<p.es.length+p.ks.length∧∀c',0<c'→c'<p.es.length+p.ks.length→offK p c≤offK p c')∧Below w.heap.size w w':=by
 obtain⟨ea,ec,ka,kc,rfl,rfl⟩:=h.forms
 have hY:Below w.heap.size w (w.alloc (.cells (pgc at_ p.lv (.slice ea p.es.length ec) (.slice ka p.ks.length kc)).toArray 133)):=(Below.refl _ w).alloc (Nat.le_refl _) _
 have kb:=Blk.new w 133 (pgc at_ p.lv (.slice ea p.es.length ec) (.slice ka p.ks.length kc))
 have HSz:=codSize13 at_ p _ _ L _ (h.below hY) hf
 have HL:Hid (∀W,Calls Tryz.prog 70 #[.agg (pgc at_ p.lv (.slice ea p.es.length ec) (.slice ka p.ks.length kc)).toArray] W fun e w'=>e=.returned (.int .i64 ((p.es.length+p.ks.length:Nat):Int))∧Below W.heap.size W w'):=fun W=>codLen13 at_ p.lv ea ka p.es.length ec p.ks.length kc W hf.n
 have HZ:Hid (∀W k,Below w.heap.size w W→k<p.es.length+p.ks.length→Calls Tryz.prog 199 #[.agg (pgc at_ p.lv (.slice ea p.es.length ec) (.slice ka p.ks.length kc)).toArray,.int .i64 ((k:Nat):Int)] W fun e w'=>(∃z:Nat,e=.returned (.int .i64 (z:Int))∧szK p (k+1)=szK p k+z∧z≤1000)∧Below W.heap.size W w'):=fun W k hW hk=>codSizeOf at_ p _ _ L k W (h.below hW) hf hk
 have HK0:Hid (szK p 0=0):=by unfold Hid szK;split<;>simp[szL]
 have HM:Hid (∀k,k≤p.es.length+p.ks.length→szK p k≤1000000):=fun k hk=>szK_le hf k hk
 have HTm:Hid (∀k,k≤p.es.length+p.ks.length→szK p k≤szP p):=fun k hk=>szK_tot hf k hk
 have hT:szP p≤1000000:=by rw[←szK_all hf];exact szK_le hf _ (Nat.le_refl _)
 have hnn:=hf.n
 have HY:=mkHid hY
 have HKb:=mkHid kb
 have HOf:Hid (∀c,offK p c=max (2 * szK p c-szP p) (szP p-2 * szK p c)):=fun c=>rfl
 unfold pgc at HSz kb HY HKb HZ HL ⊢
 generalize offK p=O at *
 generalize szP p=T at *
 generalize szK p=Sz at *
 have hl:=hf.lv
 clear h hf hY
 generalize p.lv=lv at *
 generalize p.es.length=n at *
 generalize p.ks.length=m at *
 generalize hq:n+m=q at *
 clear hq
 have c0:=kb.cell 0
 have c1:=kb.cell 1
 have c2:=kb.cell 2
 have c3:=kb.cell 3
 simp only[gZ0,gZ1] at c0 c1 c2 c3
 clear kb
 have hw1:IntKind.i64.wrap ((q:Int)-1)=((q-1:Nat):Int):=by rw[show (q:Int)-1=((q-1:Nat):Int) by omega];exact wrapi64_in _ (by omega) (by omega)
 obtain⟨q1,hq1⟩:∃q1,q-1=q1:=⟨_,rfl⟩
 rw[hq1] at hw1
 go_enter Tryz.func182,Tryz.ntmps182
 go_wp2_with fail
 refine HSz.mono ?_
 rintro e y1 ⟨rfl,hb1⟩
 have HB1:=mkHid (HY.out.trans (hb1.mono HY.out.size))
 have HK1:=mkHid (HKb.out.on hb1)
 have d0:=HK1.out.cell 0
 have d1:=HK1.out.cell 1
 have d2:=HK1.out.cell 2
 have d3:=HK1.out.cell 3
 simp only[gZ0,gZ1] at d0 d1 d2 d3
 clear hb1 c0 c1 c2 c3 HSz
 go_wp2_with fail
 refine(HL.out _).mono ?_
 rintro e y2 ⟨rfl,hb2⟩
 have HB2:=mkHid (HB1.out.trans (hb2.mono HB1.out.size))
 have HK2:=mkHid (HK1.out.on hb2)
 clear hb2 d0 d1 d2 d3 HB1 HK1
 go_wp2_with fail
 go_loopg [4,5,6,16] q1 (fun kx sl sb sm si wr=>∃(k best least:Nat),k≤q1∧q1-k≤kx∧si=.int .i64 (k:Int)∧sl=.int .i64 ((Sz k:Nat):Int)∧sb=.int .i64 (best:Int)∧sm=.int .i64 (least:Int)∧least≤3000000∧Hid (k=0→least=T+1)∧Hid (0<k→0<best∧best≤k∧least=O best∧∀c',0<c'→c'≤k→O best≤O c')∧Hid (Below w.heap.size w wr)∧Hid (Blk wr w.heap.size 133 [.int .i64 at_,.int .i64 (lv:Int),.slice ea n ec,.slice ka m kc]))
 case atStart=>exact⟨0,0,T+1,Nat.zero_le _,by omega,rfl,by rw[HK0.out];rfl,rfl,by go_num,by omega,fun _=>rfl,fun h=>absurd h (Nat.lt_irrefl 0),HB2,HK2⟩
 case round =>
  clear HB2 HK2
  obtain⟨k,best,least,hk,hkx,rfl,rfl,rfl,rfl,hle,HL0,HBs,HB,HK⟩:=hrel
  have d0:=HK.out.cell 0
  have d1:=HK.out.cell 1
  have d2:=HK.out.cell 2
  have d3:=HK.out.cell 3
  simp only[gZ0,gZ1] at d0 d1 d2 d3
  by_cases hlt:k<q1
  ·have hlt':(k:Int)<(q1:Int):=by omega
   have HC:=HZ.out wr k HB.out (by omega)
   have hSk:=HM.out k (by omega)
   go_wp2_with fail
   refine HC.mono ?_
   rintro e y3 ⟨⟨z,rfl,hz,hz2⟩,hb3⟩
   have HB3:=mkHid (HB.out.trans (hb3.mono HB.out.size))
   have HK3:=mkHid (HK.out.on hb3)
   obtain⟨s1,hs1⟩:∃s1,Sz (k+1)=s1:=⟨_,rfl⟩
   have HS1:=mkHid hs1
   have hz':((Sz k:Nat):Int)+(z:Int)=(s1:Int):=by omega
   obtain⟨o1,ho1⟩:∃o1,O (k+1)=o1:=⟨_,rfl⟩
   have hO:=HOf.out (k+1)
   rw[hs1,ho1] at hO
   have HO1:=mkHid ho1
   have hmx:max (2 * (s1:Int)-(T:Int)) ((T:Int)-2 * (s1:Int))=(o1:Int):=by omega
   have hs1b:s1≤1001000:=by omega
   have ho1b:o1≤3000000:=by omega
   clear HC hb3 hz hs1 ho1 hO d0 d1 d2 d3
   generalize ((Sz k:Nat):Int)=sk at *
   by_cases hol:o1≤least
   ·have hol':(o1:Int)≤(least:Int):=by omega
    have HBs2:Hid (0<k+1→0<k+1∧k+1≤k+1∧o1=O (k+1)∧∀c',0<c'→c'≤k+1→O (k+1)≤O c'):=fun _=>⟨by omega,Nat.le_refl _,HO1.out.symm,fun c' h1 h2=>by
     by_cases e:c'=k+1
     ·rw[e];exact Nat.le_refl _
     ·have h3:=HBs.out (by omega)
      have h4:=h3.2.2.2 c' h1 (by omega)
      have h5:=h3.2.2.1
      rw[HO1.out]
      omega⟩
    go_wp2_with fail
    go_roundg (q1-(k+1))
    case measure=>omega
    case rel=>exact⟨k+1,k+1,o1,by omega,Nat.le_refl _,by go_num,by rw[HS1.out],by go_num,rfl,by omega,fun h=>absurd h (by omega),HBs2,HB3,HK3⟩
   ·have hol':¬(o1:Int)≤(least:Int):=by omega
    have hk0:0<k:=by
     rcases Nat.eq_zero_or_pos k with h0|h0
     ·exfalso
      have h1:=HL0.out h0
      have h2:=HOf.out 1
      have h3:=HO1.out
      rw[h0] at h3
      have h4:=HM.out 1 (by omega)
      have h5:=HS1.out
      rw[h0] at h5
      rw[Nat.zero_add] at h3 h5
      rw[h3,h5] at h2
      have h6:=HTm.out 1 (by omega)
      rw[h5] at h6
      omega
     ·exact h0
    have HBs2:Hid (0<k+1→0<best∧best≤k+1∧least=O best∧∀c',0<c'→c'≤k+1→O best≤O c'):=fun _=>by
     have h3:=HBs.out hk0
     refine⟨h3.1,by omega,h3.2.2.1,fun c' h1 h2=>?_⟩
     by_cases e:c'=k+1
     ·rw[e,HO1.out];have:=h3.2.2.1;omega
     ·exact h3.2.2.2 c' h1 (by omega)
    go_wp2_with fail
    go_roundg (q1-(k+1))
    case measure=>omega
    case rel=>exact⟨k+1,best,least,by omega,Nat.le_refl _,by go_num,by rw[HS1.out],rfl,rfl,hle,fun h=>absurd h (by omega),HBs2,HB3,HK3⟩
  ·have hlt':¬(k:Int)<(q1:Int):=by omega
   have h3:=HBs.out (by omega)
   have HFn:Hid (0<best∧best<q∧∀c',0<c'→c'<q→O best≤O c'):=⟨h3.1,by omega,fun c' h1 h2=>h3.2.2.2 c' h1 (by omega)⟩
   clear h3
   go_wp2_with fail
   go_ret
   exact⟨⟨best,rfl,HFn.out⟩,HB.out⟩
end
section
open Go.RowKit
variable {fl:Nat}
theorem slNb (a:Option Addr)(n cap f t:Nat)(h1:f≤t)(h2:t≤cap)(w:World):(Instr.slice 50 (.slice a n cap) (some (.int .i64 (f:Int))) (some (.int .i64 (t:Int))) none).run Tryz.prog w=.ok (.slice (cutN a cap f) (t-f) (cap-f)) w:=by
 have he:Tryz.prog.elem 50=64:=by kernel_rfl
 have hz:(sizeOf 64).run Tryz.prog w=.ok 2 w:=by
  obtain⟨i0,hi,hz0,hz1,hz2⟩:=info_parts infoN
  simp[sizeOf,typeInfo,hi,hz1]
 rw[run_slice_lh w 50 _ n cap (by rw[he];exact Tryz.underlying50) .i64 .i64 (f:Int) (t:Int) (by omega) (by omega) (by omega),he,hz]
 simp only[Result.andThen,sliced,Int.toNat_natCast,cutN]
theorem RdN.sub {w:World}{a:Option Addr}{n cap:Nat}{L:List Eq3}(h:RdN fl w (.slice a n cap) L)(f t:Nat)(h1:f<t)(h2:t≤L.length):RdN fl w (.slice (cutN a cap f) (t-f) (cap-f)) ((L.drop f).take (t-f)):=by
 obtain⟨a',cap',e,hc,hr⟩:=h.form
 injection e with e1 e2 e3
 subst e1 e3
 have hl:((L.drop f).take (t-f)).length=t-f:=by rw[List.length_take,List.length_drop];omega
 refine⟨⟨cutN a cap f,cap-f,by rw[hl],by rw[hl];omega,fun hp=>?_⟩,fun x hx=>h.is x (List.mem_of_mem_drop (List.mem_of_mem_take hx))⟩
 obtain⟨g,off,c,fz,rfl,hg,hcs⟩:=hr (by omega)
 refine⟨g,off+f * 2,c,fz,?_,hg,fun i u hu=>?_⟩
 ·unfold cutN
  rw[if_neg (by omega)]
  simp[Addr.add_lit]
 ·rw[ets_take,ets_drop] at hu
  have hi:i<(t-f) * 2:=by
   have:=(List.getElem?_eq_some_iff.1 hu).1
   rw[List.length_take] at this;omega
  rw[List.getElem?_take_of_lt hi,List.getElem?_drop] at hu
  have:=hcs (f * 2+i) u hu
  rw[←Nat.add_assoc] at this
  exact this
theorem results_pp {P:Program}{fn:Func}{p u:Tmp}{ty tu:TypeId}(h:fn.results=#[.cell p ty,.cell u tu])(tmps:Array Value)(w:World)(g g2:Nat)(x v:Value)
  (hp:tmps.getD p undef=.pointer (some ⟨g,0,none⟩)) (hl:(loadVar ty ⟨g,0,none⟩).run P w=.ok x w)
  (hp2:tmps.getD u undef=.pointer (some ⟨g2,0,none⟩)) (hl2:(loadVar tu ⟨g2,0,none⟩).run P w=.ok v w):
  (results fn tmps).run P w=.ok (.tuple #[x,v]) w:=by
 have q1:tmps[p]?.getD undef=.pointer (some ⟨g,0,none⟩):=by simpa using hp
 have q2:tmps[u]?.getD undef=.pointer (some ⟨g2,0,none⟩):=by simpa using hp2
 simp only[results,h]
 simp[Sem.run_bind,Result.andThen,q1,q2,asAddr,hl,hl2]
theorem load_pg13 (w:World)(g:Nat)(c0 c1 c2 c3:Value)(h:Blk w g 133 [c0,c1,c2,c3]):(loadVar 133 ⟨g,0,none⟩).run Tryz.prog w=.ok (.agg #[c0,c1,c2,c3]) w :=
 run_loadVar_row w g 133 133 #[c0,c1,c2,c3] (0,0) _ h Tryz.underlying133 rfl pgSize
theorem codCut13 (w:World)(B:Nat)(at_:Int)(ea:Option Addr)(en ec:Nat)(vk:Value)(f t:Nat)(hB:Blk w B 133 [.int .i64 at_,.int .i64 0,.slice ea en ec,vk])(h1:f≤t)(h2:t≤ec):
  Calls Tryz.prog 181 #[.int .i64 (f:Int),.int .i64 (t:Int),.pointer (some ⟨B,0,none⟩)] w fun e w'=>e=.returned (.agg #[.int .i64 0,.int .i64 0,.slice (cutN ea ec f) (t-f) (ec-f),.slice none 0 0])∧Below w.heap.size w w':=by
 have hA:=(Below.refl _ w).alloc (Nat.le_refl _) (.cells #[.int .i64 0,.int .i64 0,.slice none 0 0,.slice none 0 0] 133)
 have HB1:=mkHid (hB.on hA)
 have HK:Hid (Blk (w.alloc (.cells #[.int .i64 0,.int .i64 0,.slice none 0 0,.slice none 0 0] 133)) w.heap.size 133 [.int .i64 0,.int .i64 0,.slice none 0 0,.slice none 0 0]):=Blk.new w _ _
 have c1:=HB1.out.cell 1
 have c2:=HB1.out.cell 2
 simp only[gZ0,gZ1] at c1 c2
 have hsl:=fun W=>slNb ea en ec f t h1 h2 W
 have HA:=mkHid hA
 clear hA hB
 generalize cutN ea ec f=ca at *
 generalize ec-f=cc at *
 generalize t-f=nn at *
 go_enter Tryz.func181,Tryz.ntmps181
 go_wp2_with fail
 refine bodyPost_ret (retPg rfl _ _ w.heap.size _ _ _ _ rfl (Blk.new w 133 [.int .i64 0,.int .i64 0,.slice ca nn cc,.slice none 0 0])) rfl ⟨rfl,(Below.refl _ w).alloc (Nat.le_refl _) _⟩
end
section
open Go.RowKit
def HvPost (fl:Nat)(l:List Et)(L:List Eq3)(w:World)(e:Ending)(w':World):Prop :=
 (∃(c:Nat) (v1 v2:Value),e=.returned (.tuple #[.agg #[.int .i64 0,.int .i64 0,v1,.slice none 0 0],.agg #[.int .i64 0,.int .i64 0,v2,.slice none 0 0]])∧0<c∧c<l.length∧(∀c',0<c'→c'<l.length→offC l c≤offC l c')∧PgR fl w' ⟨0,l.take c,[]⟩ v1 (.slice none 0 0) (L.take c)∧PgR fl w' ⟨0,l.drop c,[]⟩ v2 (.slice none 0 0) (L.drop c))∧Below w.heap.size w w'
variable {fl:Nat}
theorem midLeaf (at_:Int)(l:List Et)(n:Nat)(hnl:l.length=n)(ea ka:Option Addr)(ec kc:Nat)(L:List Eq3)(w:World)(h:PgR fl w ⟨0,l,[]⟩ (.slice ea n ec) (.slice ka 0 kc) L)(hf:PgF ⟨0,l,[]⟩)(hn:2≤n):
  Calls Tryz.prog 182 #[.agg #[.int .i64 at_,.int .i64 0,.slice ea n ec,.slice ka 0 kc]] w fun e w'=>(∃c:Nat,e=.returned (.int .i64 (c:Int))∧0<c∧c<n∧∀c',0<c'→c'<n→offC l c≤offC l c')∧Below w.heap.size w w':=by
 subst hnl
 refine(codMiddle at_ ⟨0,l,[]⟩ _ _ L w h hf hn).mono ?_
 rintro e w' ⟨⟨c,he,h1,h2,h3⟩,hb⟩
 exact⟨⟨c,he,h1,h2,fun c' a b=>by have:=h3 c' a b;rw[offK_leaf,offK_leaf] at this;exact this⟩,hb⟩
theorem codHalves (at_:Int)(l:List Et)(n:Nat)(hnl:l.length=n)(ea ka:Option Addr)(ec kc:Nat)(L:List Eq3)(w:World)(h:PgR fl w ⟨0,l,[]⟩ (.slice ea n ec) (.slice ka 0 kc) L)(hf:PgF ⟨0,l,[]⟩)(hn:2≤n)(hn2:n≤1000)(hfl:fl≤w.heap.size:=by omega):
  Calls Tryz.prog 146 #[.agg #[.int .i64 at_,.int .i64 0,.slice ea n ec,.slice ka 0 kc]] w (HvPost fl l L w):=by
 have hLl:L.length=n:=by rw[←hnl];exact h.len
 have hlc:n≤ec:=by
  obtain⟨_,_,e,hc,_⟩:=h.e.form
  injection e with _ e2 e3
  omega
 obtain⟨Y0,hY0⟩:∃Y0,Y0=((w.alloc (.cells #[.int .i64 at_,.int .i64 0,.slice ea n ec,.slice ka 0 kc] 133)).alloc (.cells #[.int .i64 0,.int .i64 0,.slice none 0 0,.slice none 0 0] 133)).alloc (.cells #[.int .i64 0,.int .i64 0,.slice none 0 0,.slice none 0 0] 133):=⟨_,rfl⟩
 have hB0:Below w.heap.size w Y0:=by rw[hY0];exact(((Below.refl _ w).alloc (Nat.le_refl _) _).alloc (by simp) _).alloc (by simp;omega) _
 have k0:Blk Y0 w.heap.size 133 [.int .i64 at_,.int .i64 0,.slice ea n ec,.slice ka 0 kc]:=by rw[hY0];exact((Blk.newAt w w.heap.size 133 #[.int .i64 at_,.int .i64 0,.slice ea n ec,.slice ka 0 kc] [.int .i64 at_,.int .i64 0,.slice ea n ec,.slice ka 0 kc] rfl rfl).alloc _).alloc _
 have k1:Blk Y0 (w.heap.size+1) 133 [.int .i64 0,.int .i64 0,.slice none 0 0,.slice none 0 0]:=by rw[hY0];exact(Blk.newAt _ (w.heap.size+1) 133 #[.int .i64 0,.int .i64 0,.slice none 0 0,.slice none 0 0] [.int .i64 0,.int .i64 0,.slice none 0 0,.slice none 0 0] (by simp) rfl).alloc _
 have k2:Blk Y0 (w.heap.size+2) 133 [.int .i64 0,.int .i64 0,.slice none 0 0,.slice none 0 0]:=by rw[hY0];exact Blk.newAt _ (w.heap.size+2) 133 #[.int .i64 0,.int .i64 0,.slice none 0 0,.slice none 0 0] [.int .i64 0,.int .i64 0,.slice none 0 0,.slice none 0 0] (by simp) rfl
 have HMd:=midLeaf at_ l n hnl ea ka ec kc L Y0 (h.below hB0) hf hn
 have hmf:=mkF0
 have HB0:=mkHid hB0
 have HK0:=mkHid k0
 have HK1:=mkHid k1
 have HK2:=mkHid k2
 have HPr:=mkHid h
 have HNl:=mkHid hnl
 have HLl:=mkHid hLl
 have hY0':=hY0.symm
 have c0:=k0.cell 0
 have c1:=k0.cell 1
 have c2:=k0.cell 2
 have c3:=k0.cell 3
 simp only[gZ0,gZ1] at c0 c1 c2 c3
 clear h hf hB0 k0 k1 k2 hY0 hnl hLl
 go_enter Tryz.func146,Tryz.ntmps146
 go_wp2_with fail
 refine HMd.mono ?_
 rintro e y1 ⟨⟨c,rfl,hc0,hc1,hcb⟩,hb1⟩
 have HCb:=mkHid hcb
 have HCt:Hid (∀W,Below Y0.heap.size Y0 W→W.cell? ⟨w.heap.size,0,none⟩=some (.int .i64 at_)∧W.cell? ⟨w.heap.size,1,none⟩=some (.int .i64 0)∧W.cell? ⟨w.heap.size,2,none⟩=some (.slice ea n ec)∧W.cell? ⟨w.heap.size,3,none⟩=some (.slice ka 0 kc)):=fun W hW=>⟨(HK0.out.on hW).cell 0,(HK0.out.on hW).cell 1,(HK0.out.on hW).cell 2,(HK0.out.on hW).cell 3⟩
 have HB1:=mkHid hb1
 clear HMd hcb hb1 c0 c1 c2 c3
 go_wp2_with fail
 have hD:Below Y0.heap.size Y0 y1.drew:=HB1.out.drew
 have HD:=mkHid hD
 refine lk0 (fun W=>W.cell? ⟨w.heap.size,0,none⟩=some (.int .i64 at_)∧W.cell? ⟨w.heap.size,1,none⟩=some (.int .i64 0)∧W.cell? ⟨w.heap.size,2,none⟩=some (.slice ea n ec)∧W.cell? ⟨w.heap.size,3,none⟩=some (.slice ka 0 kc)) 9 (HCt.out _ hD) (fun hHeld=>?_)
 clear hD HB1
 generalize y1.drew=Y1 at *
 have HC1:=codCut13 Y1 w.heap.size at_ ea n ec (.slice ka 0 kc) 0 c (HK0.out.on HD.out) (by omega) (by omega)
 simp only[Int.natCast_zero] at HC1
 refine lkT 9 0 ?_ rfl (Or.inl ⟨by rfl,?_⟩) hHeld ?_
 rotate_left
 ·intro w hSw;obtain⟨s0,s1,s2,s3⟩:=hSw;go_simp;with_reducible rfl
 (try simp only[Act.put,sIx,sZ0,sZ1])
 refine lkT 10 1 ?_ rfl (Or.inl ⟨by rfl,?_⟩) hHeld ?_
 rotate_left
 ·intro w hSw;obtain⟨s0,s1,s2,s3⟩:=hSw;go_simp;with_reducible rfl
 (try simp only[Act.put,sIx,sZ0,sZ1])
 refine lkT 12 3 ?_ rfl (Or.inl ⟨by rfl,?_⟩) hHeld ?_
 rotate_left
 ·intro w hSw;obtain⟨s0,s1,s2,s3⟩:=hSw;go_simp;with_reducible rfl
 (try simp only[Act.put,sIx,sZ0,sZ1])
 refine lkT 13 4 ?_ rfl (Or.inl ⟨by rfl,?_⟩) hHeld ?_
 rotate_left
 ·intro w hSw;obtain⟨s0,s1,s2,s3⟩:=hSw;go_simp;with_reducible rfl
 (try simp only[Act.put,sIx,sZ0,sZ1])
 refine lkT 14 5 (.agg #[.int .i64 at_,.int .i64 0,.slice ea n ec,.slice ka 0 kc]) rfl (Or.inl ⟨by rfl,?_⟩) hHeld ?_
 ·intro w hSw;obtain⟨s0,s1,s2,s3⟩:=hSw;go_simp
 (try simp only[Act.put,sIx,sZ0,sZ1])
 refine lk1 2 rfl (fun K hK=>?_)
 go_simp
 go_wp2_with (go_at_call 181;refine HC1.mono ?_;rintro e y2 ⟨rfl,hb2⟩)
 have hb2':=HD.out.trans (hb2.mono HD.out.size)
 have HB2:=mkHid hb2'
 refine hK.out _ _ (HCt.out _ hb2') (fun hHeld=>?_)
 (try simp only[Act.put,sIx,sZ0,sZ1])
 clear hK K HC1 hb2 hb2'
 have HLn:=codLen13 at_ 0 ea ka n ec 0 kc y2 (by omega)
 unfold pgc at HLn
 simp only[Int.natCast_zero,Nat.add_zero] at HLn
 refine lk1 6 rfl (fun K hK=>?_)
 go_simp
 go_wp2_with (go_at_call 70;refine HLn.mono ?_;rintro e y3 ⟨rfl,hb3⟩)
 have hb3':=HB2.out.trans (hb3.mono HB2.out.size)
 have HB3:=mkHid hb3'
 refine hK.out _ _ (HCt.out _ hb3') (fun hHeld=>?_)
 (try simp only[Act.put,sIx,sZ0,sZ1])
 clear hK K HLn hb3
 have HC2:=codCut13 y3 w.heap.size at_ ea n ec (.slice ka 0 kc) c n (HK0.out.on hb3') (by omega) hlc
 clear hb3'
 refine lk1 7 rfl (fun K hK=>?_)
 go_simp
 go_wp2_with (go_at_call 181;refine HC2.mono ?_;rintro e y4 ⟨rfl,hb4⟩)
 have hb4':=HB3.out.trans (hb4.mono HB3.out.size)
 refine hK.out _ _ (HCt.out _ hb4') (fun hHeld=>?_)
 (try simp only[Act.put,sIx,sZ0,sZ1])
 clear hK K HC2 hb4
 have HB4:=mkHid (HB0.out.trans (hb4'.mono HB0.out.size))
 have KA:=mkHid (HK1.out.on hb4')
 have KB:=mkHid (HK2.out.on hb4')
 have K04:=mkHid (HK0.out.on hb4')
 have hpr:=HPr.out.below HB4.out
 have s1:=hpr.e.sub 0 c hc0 (by rw[HLl.out];omega)
 have s2:=hpr.e.sub c n hc1 (by rw[HLl.out];omega)
 rw[List.drop_zero] at s1
 simp only[Nat.sub_zero] at s1
 have e2':(L.drop c).take (n-c)=L.drop c:=List.take_of_length_le (by rw[List.length_drop,HLl.out];omega)
 rw[e2'] at s2
 have HPa:Hid (PgR fl y4 ⟨0,l.take c,[]⟩ (.slice (cutN ea ec 0) c ec) (.slice none 0 0) (L.take c)):=⟨s1,RdZ.nil _,by rw[List.map_take];exact congrArg (List.take c) hpr.es⟩
 have HPb:Hid (PgR fl y4 ⟨0,l.drop c,[]⟩ (.slice (cutN ea ec c) (n-c) (ec-c)) (.slice none 0 0) (L.drop c)):=⟨s2,RdZ.nil _,by rw[List.map_drop];exact congrArg (List.drop c) hpr.es⟩
 try simp only[Nat.sub_zero]
 clear hpr s1 s2 e2' hb4'
 generalize cutN ea ec 0=a1 at *
 generalize cutN ea ec c=a2 at *
 generalize n-c=n2 at *
 generalize ec-c=e2 at *
 have p0:=KA.out.cell 0
 have p1:=KA.out.cell 1
 have p2:=KA.out.cell 2
 have p3:=KA.out.cell 3
 simp only[gZ0,gZ1] at p0 p1 p2 p3
 have fp0:=KA.out.frozen 0
 have fp1:=KA.out.frozen 1
 have fp2:=KA.out.frozen 2
 have fp3:=KA.out.frozen 3
 have q0:=KB.out.cell 0
 have q1:=KB.out.cell 1
 have q2:=KB.out.cell 2
 have q3:=KB.out.cell 3
 simp only[gZ0,gZ1] at q0 q1 q2 q3
 have fq0:=KB.out.frozen 0
 have fq1:=KB.out.frozen 1
 have fq2:=KB.out.frozen 2
 have fq3:=KB.out.frozen 3
 refine lk1 8 rfl (fun K hK=>?_)
 ·go_simp
  have hg1:=grown4 y4 (w.heap.size+1) (.int .i64 0) (.int .i64 0) (.slice a1 c ec) (.slice none 0 0)
  have KF1:Hid (Blk ((((y4.setCell ⟨w.heap.size+1,0,none⟩ (.int .i64 0)).setCell ⟨w.heap.size+1,1,none⟩ (.int .i64 0)).setCell ⟨w.heap.size+1,2,none⟩ (.slice a1 c ec)).setCell ⟨w.heap.size+1,3,none⟩ (.slice none 0 0)) (w.heap.size+1) 133 [.int .i64 0,.int .i64 0,(.slice a1 c ec),.slice none 0 0]):=store_pg KA.out
  have KS1:Hid (Blk ((((y4.setCell ⟨w.heap.size+1,0,none⟩ (.int .i64 0)).setCell ⟨w.heap.size+1,1,none⟩ (.int .i64 0)).setCell ⟨w.heap.size+1,2,none⟩ (.slice a1 c ec)).setCell ⟨w.heap.size+1,3,none⟩ (.slice none 0 0)) (w.heap.size+2) 133 [.int .i64 0,.int .i64 0,.slice none 0 0,.slice none 0 0]):=(hg1.block _ KB.out.lt (fun e=>by have:=Option.some.inj e;omega)).trans KB.out
  have K01:Hid (Blk ((((y4.setCell ⟨w.heap.size+1,0,none⟩ (.int .i64 0)).setCell ⟨w.heap.size+1,1,none⟩ (.int .i64 0)).setCell ⟨w.heap.size+1,2,none⟩ (.slice a1 c ec)).setCell ⟨w.heap.size+1,3,none⟩ (.slice none 0 0)) w.heap.size 133 [.int .i64 at_,.int .i64 0,.slice ea n ec,.slice ka 0 kc]):=(hg1.block _ K04.out.lt (fun e=>by have:=Option.some.inj e;omega)).trans K04.out
  have HP1:=mkHid (HPa.out.keep (KeepU.grown1 KA.out (by decide) hg1 (by omega)))
  have HP2:=mkHid (HPb.out.keep (KeepU.grown1 KA.out (by decide) hg1 (by omega)))
  have HBz:Hid (Below w.heap.size w ((((y4.setCell ⟨w.heap.size+1,0,none⟩ (.int .i64 0)).setCell ⟨w.heap.size+1,1,none⟩ (.int .i64 0)).setCell ⟨w.heap.size+1,2,none⟩ (.slice a1 c ec)).setCell ⟨w.heap.size+1,3,none⟩ (.slice none 0 0))):=HB4.out.grown hg1 HB4.out.size (fun k e=>by have:=Option.some.inj e;omega)
  refine hK.out _ _ ⟨K01.out.cell 0,K01.out.cell 1,K01.out.cell 2,K01.out.cell 3⟩ (fun hHeld=>?_)
  (try simp only[Act.put,sIx,sZ0,sZ1])
  clear hK K hg1 p0 p1 p2 p3 fp0 fp1 fp2 fp3 q0 q1 q2 q3 fq0 fq1 fq2 fq3
  generalize ((((y4.setCell ⟨w.heap.size+1,0,none⟩ (.int .i64 0)).setCell ⟨w.heap.size+1,1,none⟩ (.int .i64 0)).setCell ⟨w.heap.size+1,2,none⟩ (.slice a1 c ec)).setCell ⟨w.heap.size+1,3,none⟩ (.slice none 0 0))=Z at *
  have m0:=KS1.out.cell 0
  have m1:=KS1.out.cell 1
  have m2:=KS1.out.cell 2
  have m3:=KS1.out.cell 3
  simp only[gZ0,gZ1] at m0 m1 m2 m3
  have fm0:=KS1.out.frozen 0
  have fm1:=KS1.out.frozen 1
  have fm2:=KS1.out.frozen 2
  have fm3:=KS1.out.frozen 3
  refine lkZ rfl (fun K hK=>?_)
  go_simp
  refine hK.out _ _ ?_
  simp only[Exit.then]
  (try simp only[Act.put,sIx,sZ0,sZ1])
  clear hK K hHeld
  have hg2:=grown4 Z (w.heap.size+2) (.int .i64 0) (.int .i64 0) (.slice a2 n2 e2) (.slice none 0 0)
  have KS2:Blk ((((Z.setCell ⟨w.heap.size+2,0,none⟩ (.int .i64 0)).setCell ⟨w.heap.size+2,1,none⟩ (.int .i64 0)).setCell ⟨w.heap.size+2,2,none⟩ (.slice a2 n2 e2)).setCell ⟨w.heap.size+2,3,none⟩ (.slice none 0 0)) (w.heap.size+2) 133 [.int .i64 0,.int .i64 0,(.slice a2 n2 e2),.slice none 0 0]:=store_pg KS1.out
  have KF2:Blk ((((Z.setCell ⟨w.heap.size+2,0,none⟩ (.int .i64 0)).setCell ⟨w.heap.size+2,1,none⟩ (.int .i64 0)).setCell ⟨w.heap.size+2,2,none⟩ (.slice a2 n2 e2)).setCell ⟨w.heap.size+2,3,none⟩ (.slice none 0 0)) (w.heap.size+1) 133 [.int .i64 0,.int .i64 0,(.slice a1 c ec),.slice none 0 0]:=(hg2.block _ KF1.out.lt (fun e=>by have:=Option.some.inj e;omega)).trans KF1.out
  have HPx:=HP1.out.keep (KeepU.grown1 KS1.out (by decide) hg2 (by omega))
  have HPy:=HP2.out.keep (KeepU.grown1 KS1.out (by decide) hg2 (by omega))
  have hBz:Below w.heap.size w ((((Z.setCell ⟨w.heap.size+2,0,none⟩ (.int .i64 0)).setCell ⟨w.heap.size+2,1,none⟩ (.int .i64 0)).setCell ⟨w.heap.size+2,2,none⟩ (.slice a2 n2 e2)).setCell ⟨w.heap.size+2,3,none⟩ (.slice none 0 0)):=HBz.out.grown hg2 HBz.out.size (fun k e=>by have:=Option.some.inj e;omega)
  have HKx:=mkHid (And.intro KS2 (And.intro KF2 (And.intro HPx (And.intro HPy hBz))))
  clear hg2 KS2 KF2 HPx HPy hBz m0 m1 m2 m3 fm0 fm1 fm2 fm3
  generalize ((((Z.setCell ⟨w.heap.size+2,0,none⟩ (.int .i64 0)).setCell ⟨w.heap.size+2,1,none⟩ (.int .i64 0)).setCell ⟨w.heap.size+2,2,none⟩ (.slice a2 n2 e2)).setCell ⟨w.heap.size+2,3,none⟩ (.slice none 0 0))=Z9 at *
  go_wp2_with fail
  refine bodyPost_ret (results_pp (P:=Tryz.prog) rfl _ _ (w.heap.size+1) (w.heap.size+2) _ _ rfl (load_pg13 _ _ _ _ _ _ HKx.out.2.1) rfl (load_pg13 _ _ _ _ _ _ HKx.out.1)) rfl ?_
  exact⟨⟨c,_,_,rfl,hc0,by rw[HNl.out];exact hc1,by rw[HNl.out];exact HCb.out,HKx.out.2.2.1,HKx.out.2.2.2.1⟩,HKx.out.2.2.2.2⟩
end
section
open Go.RowKit
def SameX (t t':Tl)(j:Jl)(X:List Int):Prop:=∀k:Nat,(k:Int)∈X→spRdB t' j (k:Int)=spRdB t j (k:Int)
theorem FR.set_same {t:Tl}{j:Jl}{m:Nat}{A B:Ps}{p:Nat × List Et}{X:List Int}(h:FR t j m (A++p::B) X)(hr:t.l.length<48)(l':List Et):SameX t (spWr t j (p.1:Int) (leafB l')) j X:=by
 have hm:(p.1:Int)∈secsP (A++p::B):=List.mem_map.2 ⟨p,List.mem_append_right _ List.mem_cons_self,rfl⟩
 obtain⟨_,_,_,_,h5⟩:=h.tk.wr hr (k:=p.1) (List.mem_append_right _ hm) (leafB_len l')
 intro k hk
 have hz:=h.tk.rng _ (List.mem_append_left _ hk)
 refine h5 k (by omega) (by omega) (fun e=>?_)
 have hn:=(List.nodup_append.1 h.tk.nodup).2.2
 exact hn _ hk _ hm (by rw[e])
theorem put_items {l:List Et}(h:∀e∈l,itemOk e.k e.v=true){k v:List UInt8}(hk:itemOk k v=true):∀e∈putE13 l k v,itemOk e.k e.v=true:=fun e he=>by
 rcases mem_put he with rfl|h1
 ·exact hk
 ·exact h e h1
theorem put_leaf {l:List Et}(h:LfOk l){k v:List UInt8}(hk:itemOk k v=true):SrtE (putE13 l k v)∧(∀e∈putE13 l k v,itemOk e.k e.v=true)∧putE13 l k v≠[]∧szL (putE13 l k v)≤751 :=
 ⟨h.srt.put k v,put_items h.ok hk,put_ne l k v,by have:=szL_put l k v;have h2:=h.sz;have h3:=szE_le (e:=⟨k,v⟩) hk;omega⟩
theorem one_leaf {k v:List UInt8}(hk:itemOk k v=true):LfOk [⟨k,v⟩] :=
 ⟨by simp,fun e he=>by rw[List.mem_singleton.1 he];exact hk,List.pairwise_singleton _ _,by have h3:=szE_le (e:=⟨k,v⟩) hk;unfold szL szL;omega⟩
theorem node_put {A B:Ps}{p:Nat × List Et}{k v:List UInt8}(hA:AllLt (entsP A) k)(hB:AllGt (entsP B) k):putE13 (entsP (A++p::B)) k v=entsP A++(putE13 p.2 k v++entsP B):=by
 rw[entsP_append,entsP]
 exact mid_put hA hB v
theorem ents_mid (A B:Ps)(s:Nat)(l:List Et):entsP (A++(s,l):: B)=entsP A++(l++entsP B):=by rw[entsP_append,entsP]
theorem ents_two (A B:Ps)(s k:Nat)(l:List Et)(c:Nat):entsP (A++(s,l.take c):: (k,l.drop c):: B)=entsP A++(l++entsP B):=by
 rw[entsP_append,entsP,entsP,←List.append_assoc (l.take c),List.take_append_drop]
variable {fl:Nat}
theorem pgF_leaf13 {l:List Et}(h:∀e∈l,itemOk e.k e.v=true)(hn:l.length≤1000):PgF ⟨0,l,[]⟩ :=
 ⟨fun h0=>absurd h0 (by simp),fun _=>rfl,by simpa using hn,Nat.zero_le _,fun e he=>by have:=szE_le (h e he);omega⟩
theorem pgS_leaf13 {l:List Et}(h:LfOk l):PgS ⟨0,l,[]⟩ :=
 ⟨pgF_leaf13 h.ok (by have:=h.len;omega),by have:=h.len;simpa using (by omega:l.length≤254),by simpa using h.sz,fun i hi=>(by cases hi),fun e he=>by have h9:=item_facts (h.ok e he);exact⟨by omega,by omega⟩⟩
theorem lf_cut13 {l:List Et}(hs:SrtE l)(hi:∀e∈l,itemOk e.k e.v=true){c:Nat}(h:CutOk l c):LfOk (l.take c)∧LfOk (l.drop c):=
 ⟨⟨fun e=>by have:=congrArg List.length e;rw[List.length_take,List.length_nil] at this;have h0:=h.c0;have h1:=h.c1;omega,fun e he=>hi e (List.mem_of_mem_take he),hs.sublist (List.take_sublist _ _),h.lo⟩,
  ⟨fun e=>by have:=congrArg List.length e;rw[List.length_drop,List.length_nil] at this;have h1:=h.c1;omega,fun e he=>hi e (List.mem_of_mem_drop he),hs.sublist (List.drop_sublist _ _),h.hi⟩⟩
def KeepPost (t:Tl)(j:Jl)(m:Nat)(A B:Ps)(X:List Int)(s:Nat)(l:List Et)(b:Int)(t':Tl):Prop :=
 t'.l.length≤t.l.length+4∧((b=0∧LfOk l∧FR t' j m (A++(s,l):: B) X∧SameX t t' j X)∨∃k c:Nat,b=(k:Int)∧51≤k∧k<j.p.n∧LfOk (l.take c)∧LfOk (l.drop c)∧FR t' j m (A++(s,l.take c):: (k,l.drop c):: B) X)
theorem codKeepLeaf (w:World)(S J P base m:Nat)(t:Tl)(j:Jl)(A B:Ps)(X:List Int)(s:Nat)(l0 l:List Et)(ve:Value)(ka:Option Addr)(kc:Nat)(L:List Eq3)(h:SpAx w S J P base t j)(hF:FR t j m (A++(s,l0):: B) X)(hp:PgR fl w ⟨0,l,[]⟩ ve (.slice ka 0 kc) L)
  (hs:SrtE l) (hi:∀e∈l,itemOk e.k e.v=true) (hne:l≠[]) (hsz:szL l≤751) (hroom:t.l.length+5≤48) (hdisk:X.length+(A++(s,l0):: B).length<j.p.n-51) (hfl:fl≤base:=by omega):
  Calls Tryz.prog 104 #[gT S,.agg (pgc (s:Int) 0 ve (.slice ka 0 kc)).toArray] w fun e w'=>(∃b t',e=.returned (.int .i64 b)∧SpAx w' S J P base t' j∧KeepPost t j m A B X s l b t')∧KS base w w':=by
 have hlo:=spcOK.lo h
 have hf:=hF.tk.fit
 have hn2:=hf.few.n
 have hsr:=hF.rng (List.mem_append_right A List.mem_cons_self)
 obtain⟨ea,ec,_,_,rfl,_⟩:=hp.forms
 have hln:l.length≤1000:=by
  have:=szL_len (fun e he=>(item_facts (hi e he)).1)
  omega
 have hFf:=pgF_leaf13 hi hln
 by_cases hfit:szL l≤509
 ·have HL:LfOk l:=⟨hne,hi,hs,hfit⟩
  obtain⟨z1,z2,z3⟩:=hF.set (l':=l) (by omega) HL
  have z4:=hF.set_same (by omega) l
  have:=codKeepFits w S J P base m t j s ⟨0,l,[]⟩ (.slice ea l.length ec) (.slice ka 0 kc) L h hf hp (pgS_leaf13 HL) (by omega) (by rw[pgB_leaf];exact z1)
  rw[pgB_leaf] at this
  refine this.mono ?_
  rintro e w' ⟨rfl,h1,h2⟩
  exact⟨⟨0,_,rfl,h1,by show (spWr t j (s:Int) (leafB l)).l.length≤_;have z3':(spWr t j (s:Int) (leafB l)).l.length≤t.l.length+1:=z3;omega,.inl ⟨rfl,HL,z2,z4⟩⟩,h2⟩
 unfold gT
 have W1:Below w.heap.size w ((w.alloc (.cells #[.pointer (some ⟨S,0,none⟩)] 87)).alloc (.cells #[.int .i64 (s:Int),.int .i64 0,.slice ea l.length ec,.slice ka 0 kc] 133)):=((Below.refl _ w).alloc (Nat.le_refl _) _).alloc (by simp) _
 have k0:Blk ((w.alloc (.cells #[.pointer (some ⟨S,0,none⟩)] 87)).alloc (.cells #[.int .i64 (s:Int),.int .i64 0,.slice ea l.length ec,.slice ka 0 kc] 133)) w.heap.size 87 [.pointer (some ⟨S,0,none⟩)]:=(Blk.newAt w w.heap.size 87 #[.pointer (some ⟨S,0,none⟩)] [.pointer (some ⟨S,0,none⟩)] rfl rfl).alloc _
 have k1:Blk ((w.alloc (.cells #[.pointer (some ⟨S,0,none⟩)] 87)).alloc (.cells #[.int .i64 (s:Int),.int .i64 0,.slice ea l.length ec,.slice ka 0 kc] 133)) (w.heap.size+1) 133 [.int .i64 (s:Int),.int .i64 0,.slice ea l.length ec,.slice ka 0 kc]:=Blk.newAt _ (w.heap.size+1) 133 _ _ (by simp) rfl
 have hp0:=hp.below W1
 have hA0:=SpAx.keep h (KeepT.of_below W1)
 have hK0:KS base w ((w.alloc (.cells #[.pointer (some ⟨S,0,none⟩)] 87)).alloc (.cells #[.int .i64 (s:Int),.int .i64 0,.slice ea l.length ec,.slice ka 0 kc] 133)):=KS.of_below W1 hlo
 generalize hW:(w.alloc (.cells #[.pointer (some ⟨S,0,none⟩)] 87)).alloc (.cells #[.int .i64 (s:Int),.int .i64 0,.slice ea l.length ec,.slice ka 0 kc] 133)=Y0 at *
 have hszP:szP ⟨0,l,[]⟩=szL l:=by unfold szP;simp
 obtain⟨cc,cc0,cc1,_⟩:=cut_some (fun e he=>szE_le (hi e he)) (by omega:509<szL l)
 have HFi:Calls Tryz.prog 145 #[.agg #[.int .i64 (s:Int),.int .i64 0,.slice ea l.length ec,.slice ka 0 kc]] Y0 fun e w'=>e=.returned (.bool false)∧Below Y0.heap.size Y0 w':=by
  have:=codFits (s:Int) ⟨0,l,[]⟩ (.slice ea l.length ec) (.slice ka 0 kc) L Y0 hp0 hFf
  rw[hszP,decide_eq_false hfit] at this
  exact this
 have HHv:Hid (∀W,Below Y0.heap.size Y0 W→Calls Tryz.prog 146 #[.agg #[.int .i64 (s:Int),.int .i64 0,.slice ea l.length ec,.slice ka 0 kc]] W (HvPost fl l L W)):=fun W hW=>codHalves (s:Int) l l.length rfl ea ka ec kc L W (hp0.below hW) hFf (by omega) hln (Nat.le_trans hfl (Nat.le_trans (spcOK.lo hA0) hW.size))
 have HA0:=mkHid hA0
 have HK0:=mkHid hK0
 have HF:=mkHid hF
 have HB0:=mkHid k0
 have HB1:=mkHid k1
 have HSi:=mkHid (And.intro hs hi)
 have HSz:=mkHid (And.intro hsz hfit)
 have HLo:Hid (base≤Y0.heap.size):=spcOK.lo hA0
 obtain⟨n,hn⟩:∃n,n=l.length:=⟨_,rfl⟩
 unfold pgc
 rw[←hn] at HFi HHv HB1 k1 ⊢
 have c0:=k0.cell 0
 have d0:=k1.cell 0
 have d1:=k1.cell 1
 have d2:=k1.cell 2
 have d3:=k1.cell 3
 simp only[gZ0,gZ1] at c0 d0 d1 d2 d3
 rw[←hn] at hW
 clear h hF hp hs hi hne hp0 hA0 hK0 k0 k1 W1 hn hszP hsz hfit hFf
 go_enter Tryz.func104,Tryz.ntmps104
 go_upto_region 1 with fail
 (try rw[hW])
 clear hW
 go_upto_region 4 with(go_at_call 145;refine HFi.mono ?_;rintro e y1 ⟨rfl,hb1⟩)
 have HHv1:=HHv.out y1 hb1
 have KB0:=HB0.out.on hb1
 have KB1:=HB1.out.on hb1
 have c0:=KB0.cell 0
 have d0:=KB1.cell 0
 have d1:=KB1.cell 1
 have d2:=KB1.cell 2
 have d3:=KB1.cell 3
 simp only[gZ0,gZ1] at c0 d0 d1 d2 d3
 have Hb1:=mkHid hb1
 clear HFi HHv hb1 KB0 KB1
 go_upto_region 5 with(go_at_call 146;refine HHv1.mono ?_;rintro e y2 ⟨⟨c,v1,v2,rfl,hc0,hc1,hbest,hp1,hp2⟩,hb2⟩;obtain⟨a1,p1,_,_,hv1,_⟩:=hp1.forms;obtain⟨a2,p2,_,_,hv2,_⟩:=hp2.forms;subst hv1 hv2;generalize (List.take c l).length=n1 at hp1 ⊢;generalize (List.drop c l).length=n2 at hp2 ⊢)
 have hcut:=cut_ok (fun e he=>szE_le (HSi.out.2 e he)) (by have:=HSz.out.2;omega) (by have:=HSz.out.1;omega) hc0 hc1 hbest
 obtain⟨hLt,hLd⟩:=lf_cut13 HSi.out.1 HSi.out.2 hcut
 have W3:Below y2.heap.size y2 ((y2.alloc (.cells #[.int .i64 0,.int .i64 0,.slice a1 n1 p1,.slice none 0 0] 133)).alloc (.cells #[.int .i64 0,.int .i64 0,.slice a2 n2 p2,.slice none 0 0] 133)):=((Below.refl _ y2).alloc (Nat.le_refl _) _).alloc (by simp) _
 have kL:Blk ((y2.alloc (.cells #[.int .i64 0,.int .i64 0,.slice a1 n1 p1,.slice none 0 0] 133)).alloc (.cells #[.int .i64 0,.int .i64 0,.slice a2 n2 p2,.slice none 0 0] 133)) y2.heap.size 133 [.int .i64 0,.int .i64 0,.slice a1 n1 p1,.slice none 0 0]:=(Blk.newAt y2 y2.heap.size 133 _ _ rfl rfl).alloc _
 have kR:Blk ((y2.alloc (.cells #[.int .i64 0,.int .i64 0,.slice a1 n1 p1,.slice none 0 0] 133)).alloc (.cells #[.int .i64 0,.int .i64 0,.slice a2 n2 p2,.slice none 0 0] 133)) (y2.heap.size+1) 133 [.int .i64 0,.int .i64 0,.slice a2 n2 p2,.slice none 0 0]:=Blk.newAt _ (y2.heap.size+1) 133 _ _ (by simp) rfl
 generalize hY3:(y2.alloc (.cells #[.int .i64 0,.int .i64 0,.slice a1 n1 p1,.slice none 0 0] 133)).alloc (.cells #[.int .i64 0,.int .i64 0,.slice a2 n2 p2,.slice none 0 0] 133)=Y3 at *
 clear hY3
 have W4:Below y2.heap.size y2 (Y3.setCell ⟨y2.heap.size,0,none⟩ (.int .i64 (s:Int))):=W3.setCell (p:=⟨y2.heap.size,0,none⟩) (Nat.le_refl _) _
 have kL4:=kL.set 0 (.int .i64 (s:Int))
 have kR4:=kR.other ⟨y2.heap.size,0,none⟩ (.int .i64 (s:Int)) (by show y2.heap.size+1≠y2.heap.size;omega)
 have B02:=Hb1.out.trans (hb2.mono Hb1.out.size)
 have B03:=B02.trans (W3.mono B02.size)
 have B04:=B02.trans (W4.mono B02.size)
 have KB0:=HB0.out.on B03
 have KB1:=HB1.out.on B03
 have c0:=KB0.cell 0
 have d0:=KB1.cell 0
 have l0':=kL.cell 0
 have lf0:=kL.frozen 0
 simp only[List.getElem?_cons_zero] at c0 d0 l0'
 obtain⟨z1,z2,z3⟩:=HF.out.set (by omega) hLt
 have z1:spWrE t j (s:Int) (leafB (l.take c))=0:=z1
 have z2:FR (spWr t j (s:Int) (leafB (l.take c))) j m (A++(s,l.take c):: B) X:=z2
 have z3:(spWr t j (s:Int) (leafB (l.take c))).l.length≤t.l.length+1:=z3
 have hWr:=pgWrite _ S J P base m t j s ⟨0,l.take c,[]⟩ (.slice a1 n1 p1) (.slice none 0 0) (L.take c) (SpAx.keep HA0.out (KeepT.of_below B04)) hf (hp1.below W4) (pgS_leaf13 hLt) (by omega) (by rw[pgB_leaf];exact z1)
 rw[pgB_leaf] at hWr
 have HWr:=mkHid hWr
 have K04:KS base w (Y3.setCell ⟨y2.heap.size,0,none⟩ (.int .i64 (s:Int))):=HK0.out.trans (KS.of_below B04 HLo.out)
 have HK4:=mkHid K04
 have HP2:=mkHid (hp2.below W4)
 have KB4:=mkHid (HB0.out.on B04)
 have HL4:=mkHid kL4
 have HR4:=mkHid kR4
 have HLd:=mkHid hLd
 have HLt:=mkHid hLt
 have HZ2:=mkHid (And.intro z2 z3)
 clear hp1 hp2 hb2 hbest hcut hLt hLd W3 W4 kL4 kR4 kL kR B02 B03 B04 KB0 KB1 z1 z2 z3 hWr K04 HHv1 Hb1
 go_upto_region 6 with fail
 have c0:=KB4.out.cell 0
 have d0:=HL4.out.cell 0
 have d1:=HL4.out.cell 1
 have d2:=HL4.out.cell 2
 have d3:=HL4.out.cell 3
 simp only[List.set_cons_zero,gZ0,gZ1] at c0 d0 d1 d2 d3
 generalize Y3.setCell ⟨y2.heap.size,0,none⟩ (.int .i64 (s:Int))=Y4 at *
 have hWr:=HWr.out
 unfold gT pgc at hWr
 go_upto_region 7 with(go_at_call 100;refine hWr.mono ?_;rintro e y5 ⟨rfl,hA5,hk5⟩)
 have hp5:=HP2.out.keep (hk5.ue hfl)
 have KB5:=hk5.o.blk KB4.out (by decide)
 have KR5:=hk5.o.blk HR4.out (by decide)
 have c0:=KB5.cell 0
 have d0:=KR5.cell 0
 have d1:=KR5.cell 1
 have d2:=KR5.cell 2
 have d3:=KR5.cell 3
 simp only[gZ0,gZ1] at c0 d0 d1 d2 d3
 have HK5:=mkHid (HK4.out.trans hk5)
 obtain⟨z2,z3⟩:=HZ2.out
 have z2':FR (spWr t j (s:Int) (leafB (l.take c))) j m ((A++[(s,l.take c)])++B) X:=by rw[List.append_assoc];exact z2
 obtain⟨a1',a2',a3',a4',a5',a6',a7'⟩:=z2'.add (l':=l.drop c) (by omega) (by rw[List.append_assoc];simp only[List.length_append,List.length_cons,List.singleton_append] at hdisk ⊢;omega) HLd.out
 rw[List.append_assoc] at a6'
 have hAd:=pgAdd y5 S J P base m (spWr t j (s:Int) (leafB (l.take c))) j 0 ⟨0,l.drop c,[]⟩ (.slice a2 n2 p2) (.slice none 0 0) (L.drop c) hA5 z2.tk.fit hp5 (pgS_leaf13 HLd.out) a1' a2' a4' (by rw[pgB_leaf];exact a5')
 rw[pgB_leaf] at hAd
 unfold gT pgc at hAd
 have HR:Hid (KeepPost t j m A B X s l (tkV (spWr t j (s:Int) (leafB (l.take c))) j:Int) (addT (spWr t j (s:Int) (leafB (l.take c))) j (leafB (l.drop c)))):=⟨by omega,.inr ⟨_,c,rfl,a3',a4',HLt.out,HLd.out,a6'⟩⟩
 generalize tkV (spWr t j (s:Int) (leafB (l.take c))) j=kk at *
 generalize addT (spWr t j (s:Int) (leafB (l.take c))) j (leafB (l.drop c))=tt at *
 clear hWr HWr hp5 KB5 KR5 a1' a2' a5' a6' a7' z2 z2' z3 hA5 hk5 HZ2
 go_wp2_with (go_at_call 66;refine hAd.mono ?_;rintro e y6 ⟨rfl,hA6,hk6⟩;have HA6:=mkHid hA6;have HK6:=mkHid hk6;clear hA6 hk6)
 go_ret
 exact⟨⟨(kk:Int),tt,rfl,HA6.out,HR.out⟩,HK5.out.trans HK6.out⟩
end
section
open Go Go.RowKit
variable {P:Program} {ops:Array Oper} {Q:Exit→Act→World→Prop} {S:World→Prop} {z:Nat}
def chainB (ops:Array Oper):Nat→List Nat→Bool
 | _,[]=>true
 | i,m::c=>waitsB ops m i&&chainB ops m c
def lastC:Nat→List Nat→Nat
 | i,[]=>i
 | _,m::c=>lastC m c
def undone (l:Array Bool)(c:List Nat):Bool:=c.all fun m => !(l.getD m false)
theorem chain_not:∀(c:List Nat) (i:Nat) (l:Array Bool),chainB ops i c=true→l.getD i false=false→undone l c=true→∀m∈c,m∉Region.ready .any ops l
 | [],_,_,_,_,_,m,hm=>by cases hm
 | x::c,i,l,h,hi,hu,m,hm=>by
  rw[chainB,Bool.and_eq_true] at h
  unfold undone at hu
  rw[List.all_cons,Bool.and_eq_true] at hu
  rcases List.mem_cons.1 hm with rfl|h2
  ·exact waits_not h.1 hi
  ·exact chain_not c x l h.2 (by simpa using hu.1) hu.2 m h2
theorem last_undone:∀(c:List Nat) (i:Nat) (l:Array Bool),l.getD i false=false→undone l c=true→l.getD (lastC i c) false=false
 | [],_,_,hi,_=>hi
 | x::c,i,l,_,hu=>by
  unfold undone at hu
  rw[List.all_cons,Bool.and_eq_true] at hu
  exact last_undone c x l (by simpa using hu.1) hu.2
theorem undone_set (c:List Nat)(l:Array Bool)(j:Nat)(hj:j∉c)(hu:undone l c=true):undone (l.setIfInBounds j true) c=true:=by
 unfold undone at hu ⊢
 rw[List.all_eq_true] at hu ⊢
 intro m hm
 have hne:j≠m:=fun e=>hj (by rw[e];exact hm)
 rw[getD_set_ne false hne]
 exact hu m hm
theorem LastOk.firstC {i:Nat}{o:Oper}{v:Value}(c:List Nat)(hi:ops[i]?=some o)(hs:Region.noSelect ops=true)(hc:chainB ops i c=true)(hw:waitsB ops z (lastC i c)=true)
  (hQ:∀c a w,Q (.panic c) (a.put o.dst v) w→Q (.panic c) a w):∀(f:Nat) (l:Array Bool) (a:Act) (w:World),undone l c=true →
   (∀j oj,ops[j]?=some oj→j≠i→l.getD j true=false→(∀e∈oj.after,Region.binds .any e=true→e.on≠i)→o.apart ops oj=true) →
   i∈Region.ready .any ops l→YieldsIf P ops S o v a→S w→LastOk P ops Q S z f (l.setIfInBounds i true) (a.put o.dst v) w→LastOk P ops Q S z (f+1) l a w:=by
 have hsel:=Region.noSelect_spec hs
 intro f
 induction f with
 | zero =>
  intro l a w _ _ hr hy hS H
  refine⟨fun h=>(by rw[h] at hr;cases hr),fun j hj=>?_⟩
  by_cases e:j=i
  ·subst e;exact hy.wpOp hi hS ⟨fun _=>hS,H⟩
  ·have:=ready_mono hj e
   rw[H.1] at this
   cases this
 | succ f ih =>
  intro l a w hun hf hr hy hS H
  refine⟨fun h=>(by rw[h] at hr;cases hr),fun j hj=>?_⟩
  by_cases e:j=i
  ·subst e;exact hy.wpOp hi hS ⟨fun _=>hS,H⟩
  ·obtain⟨hju,oj,hoj,hall⟩:=mem_ready.1 hj
   have hi0:=(mem_ready.1 hr).1
   have hjz:j≠z:=fun h=>waits_not hw (last_undone c i l (unlisted hi0) hun) (h▸hj)
   have hjc:j∉c:=fun h=>chain_not c i l hc (unlisted hi0) hun j h hj
   have hnot:∀x∈oj.after,Region.binds .any x=true→x.on≠i:=fun x hx hb h=>by
    have:=hall x hx hb
    rw[h,unlisted hi0] at this
    cases this
   have h2:=wpOp_putIf hoj (hf j oj hoj e hju hnot) (fun cs b=>hsel i o cs b hi) (fun cs b=>hsel j oj cs b hoj) hQ hy (H.2 j (ready_mono hj e))
   refine wpOp_mono (fun a' w' k=>⟨k.2.1,ih _ a' w' (undone_set c l j hjc hun) (fun x ox hx hxi hu hno=>hf x ox hx hxi ?_ hno) (ready_mono hr (Ne.symm e)) k.1 (k.2.1 hjz) ?_⟩) h2
   ·by_cases hjx:j=x
    ·subst hjx;exact hju
    ·rw[getD_set_ne true hjx] at hu;exact hu
   ·rw[Array.setIfInBounds_comm _ _ e]
    exact k.2.2
theorem lkC {o:Oper}{f:Nat}{l:Array Bool}{a:Act}{w:World}(c:List Nat)(d:Tmp)(i:Nat)(v:Value)(hi:ops[i]?=some o)(hy:YieldsIf P ops S o v a)(hS:S w)
  (h:LastOk P ops Q S z f (l.setIfInBounds i true) (a.put (some d) v) w) (hs:Region.noSelect ops=true:=by kernel_rfl) (hw:(chainB ops i c&&waitsB ops z (lastC i c)&&undone l c)=true:=by kernel_rfl) (hf:Region.free .any ops l i=true:=by kernel_rfl) (hr:(Region.ready .any ops l).contains i=true:=by kernel_rfl)
  (hQ:∀c a w,Q (.panic c) (a.put o.dst v) w→Q (.panic c) a w:=by exact fun _ _ _ h=>h) (hd:o.dst=some d:=by rfl):LastOk P ops Q S z (f+1) l a w:=by
 rw[Bool.and_eq_true,Bool.and_eq_true] at hw
 exact LastOk.firstC c hi hs hw.1.1 hw.1.2 hQ f l a w hw.2 (Region.free_spec hi hf) (by simpa using hr) hy hS (by rw[hd];exact h)
end
section
open Go.RowKit
theorem codSearchNone (w:World)(f:Nat)(cap:Array Value):
  Calls Tryz.prog 109 #[.int .i64 (-1),.func (.func f) #[] cap] w fun e w'=>e=.returned (.int .i64 0)∧Below w.heap.size w w':=by
 go_enter Tryz.func109,Tryz.ntmps109
 go_wp2
 go_loopg [5,6] 0 (fun kx s5 s6 wr=>s5=.int .i64 0∧s6=.int .i64 (-1)∧0≤kx∧Hid (Below w.heap.size w wr))
 case atStart=>exact⟨rfl,rfl,Nat.zero_le _,Below.refl _ _⟩
 case round =>
  obtain⟨rfl,rfl,_,HB⟩:=hrel
  go_wp2_with fail
  go_ret
  exact⟨rfl,HB.out⟩
theorem pgFind0 (w:World)(G:Value)(at_ lv:Int)(ve:Value)(xa ka:Option Addr)(xc kn kc:Nat)(hve:∃a n c,ve=.slice a n c)(hG:∃p,G=.agg #[.pointer p]):
  Calls Tryz.prog 73 #[G,.agg #[.int .i64 at_,.int .i64 lv,ve,.slice xa 0 xc],.slice ka kn kc] w fun e w'=>e=.returned (.int .i64 0)∧Below w.heap.size w w':=by
 obtain⟨ea,en,ec,rfl⟩:=hve
 obtain⟨pp,rfl⟩:=hG
 have hmf:=mkF0
 have W1:Below w.heap.size w (((w.alloc (.cells #[.pointer pp] 87)).alloc (.cells #[.int .i64 at_,.int .i64 lv,.slice ea en ec,.slice xa 0 xc] 133)).alloc (.cells #[.slice ka kn kc] 33)):=(((Below.refl _ w).alloc (Nat.le_refl _) _).alloc (by simp) _).alloc (by simp;omega) _
 have k1:Blk (((w.alloc (.cells #[.pointer pp] 87)).alloc (.cells #[.int .i64 at_,.int .i64 lv,.slice ea en ec,.slice xa 0 xc] 133)).alloc (.cells #[.slice ka kn kc] 33)) (w.heap.size+1) 133 [.int .i64 at_,.int .i64 lv,.slice ea en ec,.slice xa 0 xc]:=(Blk.newAt _ (w.heap.size+1) 133 _ _ (by simp) rfl).alloc _
 have d3:=k1.cell 3
 simp only[gZ0,gZ1] at d3
 have HSe:=fun W cap=>codSearchNone W 110 cap
 have HW1:=mkHid W1
 clear W1 k1
 generalize hW:((w.alloc (.cells #[.pointer pp] 87)).alloc (.cells #[.int .i64 at_,.int .i64 lv,.slice ea en ec,.slice xa 0 xc] 133)).alloc (.cells #[.slice ka kn kc] 33)=Y0 at *
 go_enter Tryz.func73,Tryz.ntmps73
 go_upto_region 1 with fail
 (try rw[hW])
 clear hW
 go_wp2_with (go_at_call 109;refine(HSe _ _).mono ?_;rintro r y1 ⟨rfl,hb1⟩;have HB1:=mkHid hb1;clear hb1)
 go_ret
 exact⟨rfl,HW1.out.trans (HB1.out.mono HW1.out.size)⟩
def lstK (l:List Et):List UInt8:=(l.getD (l.length-1) et0).k
def BsP (fl:Nat)(w:World)(a:Option Addr)(n c:Nat)(l:List UInt8):Prop:=∀W,KeepU fl UB w W→IsB W a n c l
theorem BsP.keep {fl:Nat}{w w':World}{a:Option Addr}{n c:Nat}{l:List UInt8}(h:BsP fl w a n c l)(hk:KeepU fl UB w w'):BsP fl w' a n c l:=fun W hW=>h W (hk.trans hW)
theorem BsP.is {fl:Nat}{w:World}{a:Option Addr}{n c:Nat}{l:List UInt8}(h:BsP fl w a n c l):IsB w a n c l:=h w (KeepU.refl _ _ _)
theorem BsP.below {fl:Nat}{w w':World}{a:Option Addr}{n c:Nat}{l:List UInt8}(h:BsP fl w a n c l)(hb:Below w.heap.size w w'):BsP fl w' a n c l:=h.keep (KeepU.of_below hb)
theorem lw_below {N:Nat}{w w':World}(hb:Below w.heap.size w w'):∀k,k<N→k<w.heap.size→w'.heap[k]?=w.heap[k]?:=fun k _ hk=>hb.5 k hk
theorem codCheckN (w:World)(Wb:Nat)(at_:Int)(ve vk:Value)(hve:∃a n c,ve=.slice a n c)(hvk:∃a n c,vk=.slice a n c):
  Calls Tryz.prog 115 #[.pointer (some ⟨Wb,0,none⟩),.agg #[.int .i64 at_,.int .i64 1,ve,vk]] w fun e w'=>e=.returned (.tuple #[])∧Below w.heap.size w w':=by
 obtain⟨ea,en,ec,rfl⟩:=hve
 obtain⟨xa,xn,xc,rfl⟩:=hvk
 have k1:=Blk.new w 133 [.int .i64 at_,.int .i64 1,.slice ea en ec,.slice xa xn xc]
 have W1:Below w.heap.size w (w.alloc (.cells #[.int .i64 at_,.int .i64 1,.slice ea en ec,.slice xa xn xc] 133)):=(Below.refl _ w).alloc (Nat.le_refl _) _
 have d1:=k1.cell 1
 simp only[gZ0,gZ1] at d1
 have HW1:=mkHid W1
 clear W1 k1
 go_enter Tryz.func115,Tryz.ntmps115
 go_wp2_with fail
 refine bodyPost_ret (results_none rfl _ _ _) rfl ?_
 exact⟨rfl,HW1.out⟩
end
end Go.Proofs.YtpecobmfabmpkaaGreatDoor
