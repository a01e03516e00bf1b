/- PtG PtH PtI PtJ PtK -/
import Derived.Test.YtpecobmfabmpkaaGreatDoorM7
set_option maxRecDepth 20000
set_option maxHeartbeats 4000000
namespace Go.Proofs.YtpecobmfabmpkaaGreatDoor
section
open Go.RowKit
variable {fl:Nat}
theorem ris_iff (l:List Et):risE l=true↔∀i,i+1<l.length→Op.bytesLess (l.getD i et0).k (l.getD (i+1) et0).k=true:=by
 induction l with
 | nil=>exact⟨fun _ i h=>absurd h (by simp),fun _=>rfl⟩
 | cons a l ih =>
  cases l with
  | nil=>exact⟨fun _ i h=>absurd h (by simp),fun _=>rfl⟩
  | cons b l =>
   rw[risE,Bool.and_eq_true,ih]
   constructor
   ·rintro⟨h1,h2⟩ i hi
    cases i with
    | zero=>exact h1
    | succ i=>exact h2 i (by simpa using hi)
   ·intro h
    exact⟨h 0 (by simp),fun i hi=>h (i+1) (by simpa using hi)⟩
def okAt (l:List Et)(i:Nat):Prop:=itemOk (l.getD i et0).k (l.getD i et0).v=true∧(0<i→Op.bytesLess (l.getD (i-1) et0).k (l.getD i et0).k=true)
theorem right_iff (l:List Et):rightE l=true↔(∀i,i<l.length→okAt l i)∧0<l.length:=by
 unfold rightE
 rw[Bool.and_eq_true,Bool.and_eq_true,decide_eq_true_eq,ris_iff,List.all_eq_true]
 constructor
 ·rintro⟨⟨h1,h2⟩,h3⟩
  refine⟨fun i hi=>⟨?_,fun h0=>?_⟩,h3⟩
  ·have:l.getD i et0=l[i]:=by simp[hi]
   rw[this]
   exact h1 _ (List.getElem_mem hi)
  ·have:=h2 (i-1) (by omega)
   rw[show i-1+1=i by omega] at this
   exact this
 ·rintro⟨h1,h2⟩
  refine⟨⟨fun e he=>?_,fun i hi=>?_⟩,h2⟩
  ·obtain⟨i,hi,rfl⟩:=List.getElem_of_mem he
   have:l.getD i et0=l[i]:=by simp[hi]
   have h3:=(h1 i hi).1
   rw[this] at h3
   exact h3
  ·exact(h1 (i+1) hi).2 (by omega)
theorem codRightUp (at_:Int)(lv:Nat)(ve:Value)(ka:Option Addr)(m kc:Nat)(w:World)(hl:0<lv):
  Calls Tryz.prog 142 #[.agg (pgc at_ lv ve (.slice ka m kc)).toArray] w fun e w'=>e=.returned (.bool (decide (1<m)))∧Below w.heap.size w w':=by
 have kb:=Blk.new w 133 (pgc at_ lv ve (.slice ka m kc))
 have hY:Below w.heap.size w (w.alloc (.cells (pgc at_ lv ve (.slice ka m kc)).toArray 133)):=(Below.refl _ w).alloc (Nat.le_refl _) _
 unfold pgc at *
 have c1:=kb.cell 1
 have c3:=kb.cell 3
 simp only[gZ0,gZ1] at c1 c3
 have HY:=mkHid hY
 have hl':(0:Int)<(lv:Int):=by omega
 clear kb hY
 by_cases hm:1<m
 ·have hm':(1:Int)<(m:Int):=by omega
  rw[decide_eq_true hm]
  go_enter Tryz.func142,Tryz.ntmps142
  go_wp2_with fail
  go_ret
  exact⟨by first|rfl|(simp;done)|(simp[hm'];done),HY.out⟩
 ·have hm':¬(1:Int)<(m:Int):=by omega
  rw[decide_eq_false hm]
  go_enter Tryz.func142,Tryz.ntmps142
  go_wp2_with fail
  go_ret
  exact⟨by first|rfl|(simp;done)|(simp[hm'];done),HY.out⟩
theorem ok_iff (l:List Et)(i:Nat)(x:Et)(hx:l.getD i et0=x):okAt l i↔((1≤x.k.length∧x.k.length≤100)∧x.k.length+x.v.length≤240)∧(0<i→Lib.compareBytes (l.getD (i-1) et0).k x.k<0):=by
 unfold okAt itemOk keyOk
 rw[hx,Bool.and_eq_true,decide_eq_true_eq,decide_eq_true_eq]
 refine and_congr_right fun _=>forall_congr' fun _=>?_
 rw[cb_lt]
theorem codRightLow (at_:Int)(ve vk:Value)(L:List Eq3)(w:World)(hr:RdN fl w ve L)(hn:L.length≤1000)(hz:∀x∈L,x.1.k.length≤1000∧x.1.v.length≤1000):
  Calls Tryz.prog 142 #[.agg (pgc at_ 0 ve vk).toArray] w fun e w'=>e=.returned (.bool (rightE (L.map Prod.fst)))∧Below w.heap.size w w':=by
 obtain⟨a,cap,rfl,hcap,_⟩:=hr.form
 have hY:Below w.heap.size w (w.alloc (.cells (pgc at_ 0 (.slice a L.length cap) vk).toArray 133)):=(Below.refl _ w).alloc (Nat.le_refl _) _
 have kb:=Blk.new w 133 (pgc at_ 0 (.slice a L.length cap) vk)
 have HE:Hid (∀W,Below w.heap.size w W→∀(k:Nat) (x:Eq3),L[k]?=some x→EtQ fl W x.1 x.2):=fun W hW k x hx=>(hr.keep (KeepU.of_below hW)).is x (List.mem_of_getElem? hx)
 have HR:Hid (∀W,Below w.heap.size w W→∀(k:Nat) (x:Eq3),L[k]?=some x→∃g off,a=some ⟨g,off,none⟩∧W.cell? ⟨g,off+k * 2,none⟩=some (.slice x.2.a x.1.k.length x.2.c)∧W.cell? ⟨g,off+k * 2+1,none⟩=some (.slice x.2.b x.1.v.length x.2.d)):=fun W hW k x hx=>by
  obtain⟨_,_,g,off,e1,d0,d1,_⟩:=(hr.keep (KeepU.of_below hW)).at_ k x hx
  exact⟨g,off,e1,d0,d1⟩
 have HZ:Hid (∀(k:Nat) (x:Eq3),L[k]?=some x→x.1.k.length≤1000∧x.1.v.length≤1000):=fun k x hx=>hz x (List.mem_of_getElem? hx)
 have HX:Hid (∀k,k<L.length→∃x,L[k]?=some x):=fun k hk=>⟨_,List.getElem?_eq_getElem hk⟩
 have HT:Hid ((∀i,i<L.length→okAt (L.map Prod.fst) i)→0<L.length→rightE (L.map Prod.fst)=true):=fun h1 h2=>(right_iff _).2 ⟨fun i hi=>h1 i (by simpa using hi),by simpa using h2⟩
 have HF:Hid (∀i,i<L.length→¬okAt (L.map Prod.fst) i→rightE (L.map Prod.fst)=false):=fun i hi h1=>Bool.eq_false_iff.2 (fun h=>h1 (((right_iff _).1 h).1 i (by simpa using hi)))
 have HF0:Hid (L.length=0→rightE (L.map Prod.fst)=false):=fun h0=>Bool.eq_false_iff.2 (fun h=>by have:=((right_iff _).1 h).2;rw[List.length_map] at this;omega)
 have HO:Hid (∀(k:Nat) (x:Eq3),L[k]?=some x→(okAt (L.map Prod.fst) k↔((1≤x.1.k.length∧x.1.k.length≤100)∧x.1.k.length+x.1.v.length≤240)∧(0<k→Lib.compareBytes ((L.map Prod.fst).getD (k-1) et0).k x.1.k<0))):=fun k x hx=>ok_iff _ k x.1 (getD_map L k x hx)
 have HG:Hid (∀(k:Nat) (x:Eq3),L[k]?=some x→(L.map Prod.fst).getD k et0=x.1):=fun k x hx=>getD_map L k x hx
 unfold pgc at *
 have c1:=kb.cell 1
 have c2:=kb.cell 2
 simp only[gZ0,gZ1] at c1 c2
 have HY:=mkHid hY
 have HKb:=mkHid kb
 clear hr hz kb hY
 generalize hes:L.map Prod.fst=es at *
 clear hes
 generalize L.length=n at *
 generalize rightE es=RR at *
 simp only[Int.natCast_zero] at *
 go_enter Tryz.func142,Tryz.ntmps142
 go_wp2_with fail
 clear c1 c2
 go_loopg [15] n (fun kx i wr=>∃(k:Nat),k≤n∧n-k≤kx∧i=.int .i64 (k:Int)∧Hid (∀i,i<k→okAt es i)∧Hid (Below w.heap.size w wr)∧Hid (Blk wr w.heap.size 133 [.int .i64 at_,.int .i64 0,.slice a n cap,vk]))
 case atStart=>exact⟨0,Nat.zero_le _,by omega,rfl,fun i hi=>absurd hi (Nat.not_lt_zero _),HY,HKb⟩
 case round =>
  obtain⟨k,hk,hkx,rfl,HD,HB,HK⟩:=hrel
  clear HY HKb
  have d2:wr.cell? ⟨w.heap.size,2,none⟩=some (.slice a n cap):=HK.out.cell 2
  by_cases hlt:k<n
  ·have hlt':(k:Int)<(n:Int):=by omega
   obtain⟨x,hx⟩:=HX.out k hlt
   obtain⟨g,off,hae,e0,e1⟩:=HR.out wr HB.out k x hx
   subst hae
   obtain⟨hz1,hz2⟩:=HZ.out k x hx
   have HOk:=mkHid (HO.out k x hx)
   have hA:Below wr.heap.size wr (wr.alloc (.cells #[.slice x.2.a x.1.k.length x.2.c,.slice x.2.b x.1.v.length x.2.d] 64)):=(Below.refl _ wr).alloc (Nat.le_refl _) _
   have HBA:=mkHid (HB.out.trans (hA.mono HB.out.size))
   have HKA:=mkHid (HK.out.on hA)
   have HX3:=mkHid (HE.out _ HBA.out k x hx)
   have hkb:=Blk.new wr 64 [.slice x.2.a x.1.k.length x.2.c,.slice x.2.b x.1.v.length x.2.d]
   have f0:=hkb.cell 0
   have f1:=hkb.cell 1
   simp only[gZ0,gZ1] at f0 f1
   have HIK:=codIsKey x.2.a x.1.k.length x.2.c
   have HII:=codIsItem x.2.a x.2.b x.1.k.length x.2.c x.1.v.length x.2.d
   clear hkb hA
   by_cases hkey:1≤x.1.k.length∧x.1.k.length≤100
   ·rw[decide_eq_true hkey] at HIK
    by_cases hit:x.1.k.length+x.1.v.length≤240
    ·rw[decide_eq_true hit] at HII
     by_cases hk0:0<k
     ·obtain⟨q,hkq⟩:∃q,k=q+1:=⟨k-1,by omega⟩
      have hq1:IntKind.i64.wrap ((k:Int)-1)=(q:Int):=by rw[show (k:Int)-1=(q:Int) by omega];exact wrapi64_in _ (by omega) (by omega)
      have hk0':(0:Int)<(k:Int):=by omega
      have hq0:(0:Int)≤(q:Int):=by omega
      obtain⟨y,hy⟩:=HX.out q (by omega)
      obtain⟨g2,off2,hae2,p0,p1⟩:=HR.out _ HBA.out q y hy
      have hae3:=Option.some.inj hae2
      injection hae3 with q1 q2 _
      subst q1 q2
      have HY3:=mkHid (HE.out _ HBA.out q y hy)
      have HGy:=HG.out q y hy
      have b2:(wr.alloc (.cells #[.slice x.2.a x.1.k.length x.2.c,.slice x.2.b x.1.v.length x.2.d] 64)).cell? ⟨w.heap.size,2,none⟩=some (.slice (some ⟨g,off,none⟩) n cap):=HKA.out.cell 2
      have HC:=codCompare y.2.a x.2.a y.1.k.length x.1.k.length y.2.c x.2.c y.1.k x.1.k _ (HY3.out.is.k.drewN 1) (HX3.out.is.k.drewN 1)
      have hqi:(q:Int)<(n:Int):=by omega
      have HOr:Hid (Lib.compareBytes y.1.k x.1.k<0→okAt es k):=fun h=>HOk.out.2 ⟨⟨hkey,hit⟩,fun _=>by rw[show k-1=q by omega,HGy];exact h⟩
      have HOn:Hid (¬Lib.compareBytes y.1.k x.1.k<0→¬okAt es k):=fun h1 h2=>h1 (by have:=(HOk.out.1 h2).2 (by omega);rw[show k-1=q by omega,HGy] at this;exact this)
      generalize Lib.compareBytes y.1.k x.1.k=z at *
      clear HOk HX3 HY3 hae2 HGy hx hy hkey hit hkq
      generalize x.1.k.length=n1 at *
      generalize x.1.v.length=n2 at *
      generalize x.2.a=qa at *
      generalize x.2.b=qb at *
      generalize x.2.c=qc at *
      generalize x.2.d=qd at *
      generalize y.1.k.length=m1 at *
      generalize y.1.v.length=m2 at *
      generalize y.2.a=ra at *
      generalize y.2.b=rb at *
      generalize y.2.c=rc at *
      generalize y.2.d=rd at *
      by_cases hzz:z<0
      ·have HO2:=HOr.out hzz
       have hzg:¬(0:Int)≤z:=by omega
       clear HOr HOn
       go_wp2_with (first|(go_at_call 39;refine(HIK _).mono ?_;rintro e w8 ⟨rfl,hw8⟩;rw[hw8];clear hw8)|(go_at_call 40;refine(HII _ (by omega)).mono ?_;rintro e w9 ⟨rfl,hw9⟩;rw[hw9];clear hw9))
       go_region_held3 (fun w'=>w'=(wr.alloc (.cells #[.slice qa n1 qc,.slice qb n2 qd] 64)).drew)
        (first|rfl|assumption|exact hw7)
        (first|(go_at_call 111;have hq9:=‹_=World.drew _›;rw[hq9];refine HC.mono ?_;rintro e w7 ⟨rfl,hw7⟩;clear hq9))
       all_goals
        go_wp2
        go_roundg (n-(k+1))
       all_goals first|omega|skip
       all_goals exact⟨k+1,by omega,Nat.le_refl _,by go_num,fun i hi=>by
         by_cases e:i=k
         ·rw[e];exact HO2
         ·exact HD.out i (by omega),HBA.out.drew,HKA.out⟩
      ·have hzg:(0:Int)≤z:=by omega
       have HRR:Hid (RR=false):=HF.out k hlt (HOn.out hzz)
       clear HOr HOn
       go_wp2_with (first|(go_at_call 39;refine(HIK _).mono ?_;rintro e w8 ⟨rfl,hw8⟩;rw[hw8];clear hw8)|(go_at_call 40;refine(HII _ (by omega)).mono ?_;rintro e w9 ⟨rfl,hw9⟩;rw[hw9];clear hw9))
       go_region_held3 (fun w'=>w'=(wr.alloc (.cells #[.slice qa n1 qc,.slice qb n2 qd] 64)).drew)
        (first|rfl|assumption|exact hw7)
        (first|(go_at_call 111;have hq9:=‹_=World.drew _›;rw[hq9];refine HC.mono ?_;rintro e w7 ⟨rfl,hw7⟩;clear hq9))
       all_goals
        go_wp2
        go_ret
        exact⟨by rw[HRR.out];rfl,HBA.out.drew⟩
     ·have hk0':¬(0:Int)<(k:Int):=by omega
      have HO2:Hid (okAt es k):=HOk.out.2 ⟨⟨hkey,hit⟩,fun h=>absurd h hk0⟩
      clear HOk HX3 hx hkey hit
      generalize x.1.k.length=n1 at *
      generalize x.1.v.length=n2 at *
      generalize x.2.a=qa at *
      generalize x.2.b=qb at *
      generalize x.2.c=qc at *
      generalize x.2.d=qd at *
      go_wp2_with (first|(go_at_call 39;refine(HIK _).mono ?_;rintro e w8 ⟨rfl,hw8⟩;rw[hw8];clear hw8)|(go_at_call 40;refine(HII _ (by omega)).mono ?_;rintro e w9 ⟨rfl,hw9⟩;rw[hw9];clear hw9))
      go_region
      all_goals
       go_wp2
       go_roundg (n-(k+1))
      all_goals first|omega|skip
      all_goals exact⟨k+1,by omega,Nat.le_refl _,by go_num,fun i hi=>by
        by_cases e:i=k
        ·rw[e];exact HO2.out
        ·exact HD.out i (by omega),HBA.out.drew,HKA.out⟩
    ·rw[decide_eq_false hit] at HII
     have HRR:Hid (RR=false):=HF.out k hlt (fun h=>hit (HOk.out.1 h).1.2)
     clear HOk HX3 hx hkey hit
     generalize x.1.k.length=n1 at *
     generalize x.1.v.length=n2 at *
     generalize x.2.a=qa at *
     generalize x.2.b=qb at *
     generalize x.2.c=qc at *
     generalize x.2.d=qd at *
     go_wp2_with (first|(go_at_call 39;refine(HIK _).mono ?_;rintro e w8 ⟨rfl,hw8⟩;rw[hw8];clear hw8)|(go_at_call 40;refine(HII _ (by omega)).mono ?_;rintro e w9 ⟨rfl,hw9⟩;rw[hw9];clear hw9))
     go_ret
     exact⟨by rw[HRR.out];rfl,HBA.out⟩
   ·rw[decide_eq_false hkey] at HIK
    have HRR:Hid (RR=false):=HF.out k hlt (fun h=>hkey (HOk.out.1 h).1.1)
    clear HOk HX3 hx hkey
    generalize x.1.k.length=n1 at *
    generalize x.1.v.length=n2 at *
    generalize x.2.a=qa at *
    generalize x.2.b=qb at *
    generalize x.2.c=qc at *
    generalize x.2.d=qd at *
    go_wp2_with (first|(go_at_call 39;refine(HIK _).mono ?_;rintro e w8 ⟨rfl,hw8⟩;rw[hw8];clear hw8)|(go_at_call 40;refine(HII _ (by omega)).mono ?_;rintro e w9 ⟨rfl,hw9⟩;rw[hw9];clear hw9))
    go_ret
    exact⟨by rw[HRR.out];rfl,HBA.out⟩
  ·have hlt':¬(k:Int)<(n:Int):=by omega
   have hkn:k=n:=by omega
   by_cases h0:0<n
   ·have h0':(0:Int)<(n:Int):=by omega
    have HRR:Hid (RR=true):=HT.out (fun i hi=>HD.out i (by omega)) h0
    clear hkn
    go_wp2_with fail
    go_ret
    exact⟨by rw[HRR.out];rfl,HB.out⟩
   ·have h0':¬(0:Int)<(n:Int):=by omega
    have HRR:Hid (RR=false):=HF0.out (by omega)
    clear hkn
    go_wp2_with fail
    go_ret
    exact⟨by rw[HRR.out];rfl,HB.out⟩
end
section
open Go.RowKit
def SB (w:World)(v:Value)(l:List UInt8):Prop:=∃g off c,v=.slice (some ⟨g,off,none⟩) l.length c∧∀W,KeepO UB w W→IsB W (some ⟨g,off,none⟩) l.length c l
theorem SB.keep {w w':World}{v:Value}{l:List UInt8}(h:SB w v l)(hk:KeepO UB w w'):SB w' v l:=by
 obtain⟨g,off,c,e,hi⟩:=h
 exact⟨g,off,c,e,fun W hW=>hi W (hk.trans hW)⟩
theorem SB.head {w:World}{v:Value}{l:List UInt8}(h:SB w v l)(n:Nat)(hn:n≤l.length):∃g off c,v=.slice (some ⟨g,off,none⟩) l.length c∧l.length≤c∧SB w (.slice (some ⟨g,off,none⟩) n c) (l.take n)∧SB w (.slice (cutA g off c n) (l.length-n) (c-n)) (l.drop n):=by
 obtain⟨g,off,c,e,hi⟩:=h
 have hl:(l.take n).length=n:=by rw[List.length_take];omega
 have hd:(l.drop n).length=l.length-n:=List.length_drop
 refine⟨g,off,c,e,(hi w (KeepO.refl _ _)).le,⟨g,off,c,by rw[hl],fun W hW=>by rw[hl];exact(hi W hW).head n hn⟩,?_⟩
 by_cases hc:c=n
 ·refine⟨g,off,c-n,by unfold cutA;rw[if_pos hc,hd],fun W hW=>?_⟩
  have:=(hi W hW).cut n hn
  unfold cutA at this
  rw[if_pos hc] at this
  rw[hd]
  exact this
 ·refine⟨g,off+n,c-n,by unfold cutA;rw[if_neg hc,hd],fun W hW=>?_⟩
  have:=(hi W hW).cut n hn
  unfold cutA at this
  rw[if_neg hc] at this
  rw[hd]
  exact this
theorem SB.isB {w:World}{v:Value}{l:List UInt8}(h:SB w v l):∃g off c,v=.slice (some ⟨g,off,none⟩) l.length c∧IsB w (some ⟨g,off,none⟩) l.length c l:=by
 obtain⟨g,off,c,e,hi⟩:=h
 exact⟨g,off,c,e,hi w (KeepO.refl _ _)⟩
theorem nextYes (B:Nat)(v:Value)(l:List UInt8)(n:Nat)(w w0:World)(hB:Blk w B 33 [v])(hs:SB w0 v l)(hnl:n≤l.length):
  Calls Tryz.prog 141 #[.int .i64 (n:Int),.pointer (some ⟨B,0,none⟩)] w fun e w'=>∃u v',e=.returned u∧SB w0 u (l.take n)∧SB w0 v' (l.drop n)∧w'=w.setCell ⟨B,0,none⟩ v':=by
 have c0:w.cell? ⟨B,0,none⟩=some v:=hB.cell 0
 have f0:=hB.frozen 0
 obtain⟨g,off,c,rfl,hc,h1,h2⟩:=hs.head n hnl
 have hnl':(n:Int)≤(l.length:Int):=by omega
 have hs1:=fun W=>slH .i64 g off l.length c n (by omega) W
 have hs2:=fun W=>slB g off l.length c n hnl W
 have HN:=needYes13 4
 have H1:=mkHid h1
 have H2:=mkHid h2
 clear h1 h2 hs hB
 generalize cutA g off c n=ca at *
 generalize l.length=r at *
 go_enter Tryz.func141,Tryz.ntmps141
 go_wp2_with (go_at_call 99;refine(HN _).mono ?_;rintro x w2 ⟨rfl,hww⟩;rw[hww];clear hww w2)
 go_ret
 exact⟨_,_,rfl,H1.out,H2.out,rfl⟩
theorem nextNo (B:Nat)(v:Value)(l:List UInt8)(n:Nat)(w w0:World)(hB:Blk w B 33 [v])(hs:SB w0 v l)(hnl:¬n≤l.length):
  Calls Tryz.prog 141 #[.int .i64 (n:Int),.pointer (some ⟨B,0,none⟩)] w fun e w'=>e=.panicked [{ v:=.iface 30 (.int .i64 4),recovered:=false }]∧w'=w:=by
 have c0:w.cell? ⟨B,0,none⟩=some v:=hB.cell 0
 obtain⟨g,off,c,rfl,_⟩:=hs
 have hnl':¬(n:Int)≤(l.length:Int):=by omega
 have HN:=needNo13 4
 clear hB
 generalize l.length=r at *
 go_enter Tryz.func141,Tryz.ntmps141
 go_wp2_with (go_at_call 99;refine(HN _).mono ?_;rintro x w2 ⟨rfl,hww⟩;rw[hww];clear hww w2)
 exact bp_panic ⟨rfl,rfl⟩
theorem pgSize:(Tryz.prog.info? 133).map (·.size)=some 4:=by kernel_rfl
theorem retPg {fn:Func}{p:Tmp}(h:fn.results=#[.cell p 133])(tmps:Array Value)(w:World)(g:Nat)(c0 c1 c2 c3:Value)(hp:tmps.getD p undef=.pointer (some ⟨g,0,none⟩))(hg:Blk w g 133 [c0,c1,c2,c3]):
  (results fn tmps).run Tryz.prog w=.ok (.agg #[c0,c1,c2,c3]) w :=
 results_cellrow h tmps w g 133 #[c0,c1,c2,c3] (0,0) _ hp hg Tryz.underlying133 rfl pgSize
theorem grown_set (w:World)(b i:Nat)(v:Value):w.grownBy (w.setCell ⟨b,i,none⟩ v) (some b):=
 ⟨rfl,rfl,rfl,by simp[World.setCell],fun k _ hk=>Below.heap_setCell _ _ _ _ (fun e=>hk (by simp[e]))⟩
structure PaAt (w wr:World)(v:Value)(r:List UInt8)(lv:Nat)(ve vk:Value)(L:List Eq3)(ks:List Int):Prop where
 b:Blk wr w.heap.size 33 [v]
 r:SB w v r
 res:Blk wr (w.heap.size+1) 133 [.int .i64 0,.int .i64 0,.slice none 0 0,.slice none 0 0]
 p:Blk wr (w.heap.size+2) 133 [.int .i64 0,.int .i64 (lv:Int),ve,vk]
 e:OwnN wr (w.heap.size+3) ve L
 k:OwnZ wr (w.heap.size+3) vk ks
 x:∀x∈L,EtP w x.1 x.2
 low:Below w.heap.size w wr
theorem PaAt.lt {w wr:World}{v:Value}{r:List UInt8}{lv:Nat}{ve vk:Value}{L:List Eq3}{ks:List Int}(h:PaAt w wr v r lv ve vk L ks):w.heap.size+3≤wr.heap.size:=h.p.lt
theorem PaAt.on {w wr wr':World}{v:Value}{r:List UInt8}{lv:Nat}{ve vk:Value}{L:List Eq3}{ks:List Int}(h:PaAt w wr v r lv ve vk L ks)(hb:Below wr.heap.size wr wr'):PaAt w wr' v r lv ve vk L ks :=
 ⟨h.b.on hb,h.r,h.res.on hb,h.p.on hb,h.e.on hb,own_keepO (us:=[3]) (KeepO.of_below hb) h.k (by decide),h.x,h.low.trans (hb.mono h.low.size)⟩
theorem PaAt.cut {w wr:World}{v v':Value}{r r':List UInt8}{lv:Nat}{ve vk:Value}{L:List Eq3}{ks:List Int}(h:PaAt w wr v r lv ve vk L ks)(hr:SB w v' r'):PaAt w (wr.setCell ⟨w.heap.size,0,none⟩ v') v' r' lv ve vk L ks:=by
 have hg:wr.grownBy (wr.setCell ⟨w.heap.size,0,none⟩ v') (some w.heap.size):=grown_set wr w.heap.size 0 v'
 refine⟨h.b.set 0 v',hr,h.res.other _ _ (by show w.heap.size+1≠w.heap.size;omega),h.p.other _ _ (by show w.heap.size+2≠w.heap.size;omega),World.ownsRow.kept h.e hg ?_,World.ownsRow.kept h.k hg ?_,h.x,h.low.setCell (Nat.le_refl _) _⟩
 ·cases hv:ve.ownBlock with
  | none=>exact .inl rfl
  | some k=>exact .inr (fun e=>by have:=(World.ownsRow.lt h.e k hv).1;have:=Option.some.inj e;omega)
 ·cases hv:vk.ownBlock with
  | none=>exact .inl rfl
  | some k=>exact .inr (fun e=>by have:=(World.ownsRow.lt h.k k hv).1;have:=Option.some.inj e;omega)
theorem grown_tr {a b c:World}{r:Option Nat}(h:a.grownBy b r)(k:b.grownBy c r):a.grownBy c r :=
 ⟨k.os.trans h.os,k.tape.trans h.tape,k.output.trans h.output,Nat.le_trans h.size k.size,fun i hi hne=>(k.block i (Nat.lt_of_lt_of_le hi h.size) hne).trans (h.block i hi hne)⟩
theorem grown4 (w:World)(B:Nat)(a b c d:Value):w.grownBy ((((w.setCell ⟨B,0,none⟩ a).setCell ⟨B,1,none⟩ b).setCell ⟨B,2,none⟩ c).setCell ⟨B,3,none⟩ d) (some B):=
 grown_tr (grown_tr (grown_tr (grown_set w B 0 a) (grown_set _ B 1 b)) (grown_set _ B 2 c)) (grown_set _ B 3 d)
theorem own_low {w:World}{base base' e size n:Nat}{v:Value}{xs:List Value}(h:w.ownsRow base e size v n xs)(hb:base'≤base):w.ownsRow base' e size v n xs:=by
 rcases h with⟨h1,h2|⟨g,cap,cur,h3,h4,h5⟩⟩
 ·exact⟨h1,.inl h2⟩
 ·exact⟨h1,.inr ⟨g,cap,cur,h3,Nat.le_trans hb h4,h5⟩⟩
theorem own_apart {w w':World}{base e size n B:Nat}{v:Value}{xs:List Value}(h:w.ownsRow base e size v n xs)(hg:w.grownBy w' (some B))(hB:B<base):w'.ownsRow base e size v n xs:=by
 refine World.ownsRow.kept h hg ?_
 cases hv:v.ownBlock with
 | none=>exact .inl rfl
 | some k=>exact .inr (fun e=>by have:=(World.ownsRow.lt h k hv).1;have:=Option.some.inj e;omega)
theorem PaAt.done {w wr wr':World}{v:Value}{r:List UInt8}{lv:Nat}{ve vk:Value}{L:List Eq3}{ks:List Int}(h:PaAt w wr v r lv ve vk L ks)(hg:wr.grownBy wr' (some (w.heap.size+1))):
  OwnN wr' w.heap.size ve L∧OwnZ wr' w.heap.size vk ks∧(∀x∈L,EtP wr' x.1 x.2)∧Below w.heap.size w wr':=by
 have hb:Below w.heap.size w wr':=h.low.grown hg h.low.size (fun k e=>by have:=Option.some.inj e;omega)
 exact⟨own_low (own_apart h.e hg (by omega)) (by omega),own_low (own_apart h.k hg (by omega)) (by omega),fun x hx=>(h.x x hx).keep (KeepO.of_below hb),hb⟩
theorem PaAt.app {w wr wr':World}{v:Value}{r:List UInt8}{lv:Nat}{ve vk ve':Value}{L:List Eq3}{ks:List Int}{x:Eq3}(h:PaAt w wr v r lv ve vk L ks)(ho:OwnN wr' (w.heap.size+3) ve' (L++[x]))(hg:wr.grownBy wr' ve.ownBlock)(hx:EtP w x.1 x.2):
  PaAt w (wr'.setCell ⟨w.heap.size+2,2,none⟩ ve') v r lv ve' vk (L++[x]) ks∧Blk wr' (w.heap.size+2) 133 [.int .i64 0,.int .i64 (lv:Int),ve,vk]:=by
 have hk:=KeepT.grownN h.e hg
 have hlt:∀k,ve.ownBlock=some k→w.heap.size+3≤k:=fun k e=>(World.ownsRow.lt h.e k e).1
 have hp:=hk.blk h.p (by decide)
 have hg2:=grown_set wr' (w.heap.size+2) 2 ve'
 refine⟨⟨(hk.blk h.b (by decide)).other _ _ (by show w.heap.size≠w.heap.size+2;omega),h.r,(hk.blk h.res (by decide)).other _ _ (by show w.heap.size+1≠w.heap.size+2;omega),hp.set 2 ve',World.ownsRow.kept ho hg2 ?_,?_,fun y hy=>?_,?_⟩,hp⟩
 ·cases hv:ve'.ownBlock with
  | none=>exact .inl rfl
  | some k=>exact .inr (fun e=>by have:=(World.ownsRow.lt ho k hv).1;have:=Option.some.inj e;omega)
 ·have hz:OwnZ wr' (w.heap.size+3) vk ks:=own_keepO (us:=[3]) (KeepO.ofT hk (by decide)) h.k (by decide)
  refine World.ownsRow.kept hz hg2 ?_
  cases hv:vk.ownBlock with
  | none=>exact .inl rfl
  | some k=>exact .inr (fun e=>by have:=(World.ownsRow.lt hz k hv).1;have:=Option.some.inj e;omega)
 ·rcases List.mem_append.1 hy with h1|h1
  ·exact h.x y h1
  ·rw[List.mem_singleton.1 h1];exact hx
 ·exact(h.low.grown hg h.low.size (fun k e=>by have:=hlt k e;omega)).setCell (p:=⟨w.heap.size+2,2,none⟩) (by show w.heap.size≤w.heap.size+2;omega) _
theorem PaAt.appK {w wr wr':World}{v:Value}{r:List UInt8}{lv:Nat}{ve vk vk':Value}{L:List Eq3}{ks:List Int}{z:Int}(h:PaAt w wr v r lv ve vk L ks)(ho:OwnZ wr' (w.heap.size+3) vk' (ks++[z]))(hg:wr.grownBy wr' vk.ownBlock):
  PaAt w (wr'.setCell ⟨w.heap.size+2,3,none⟩ vk') v r lv ve vk' L (ks++[z])∧Blk wr' (w.heap.size+2) 133 [.int .i64 0,.int .i64 (lv:Int),ve,vk]:=by
 have hk:=KeepT.grownZ h.k hg
 have hlt:∀k,vk.ownBlock=some k→w.heap.size+3≤k:=fun k e=>(World.ownsRow.lt h.k k e).1
 have hp:=hk.blk h.p (by decide)
 have hg2:=grown_set wr' (w.heap.size+2) 3 vk'
 refine⟨⟨(hk.blk h.b (by decide)).other _ _ (by show w.heap.size≠w.heap.size+2;omega),h.r,(hk.blk h.res (by decide)).other _ _ (by show w.heap.size+1≠w.heap.size+2;omega),hp.set 3 vk',?_,own_apart ho hg2 (by omega),h.x,?_⟩,hp⟩
 ·have hz:OwnN wr' (w.heap.size+3) ve L:=own_keepO (us:=[64]) (KeepO.ofT hk (by decide)) h.e (by decide)
  exact own_apart hz hg2 (by omega)
 ·exact(h.low.grown hg h.low.size (fun k e=>by have:=hlt k e;omega)).setCell (p:=⟨w.heap.size+2,3,none⟩) (by show w.heap.size≤w.heap.size+2;omega) _
def PgPost (w:World)(b:List UInt8)(e:Ending)(w':World):Prop :=
 (match pgOf b with
 | some p=>∃ve vk L,e=.returned (.agg #[.int .i64 0,.int .i64 (p.lv:Int),ve,vk])∧OwnN w' w.heap.size ve L∧OwnZ w' w.heap.size vk (p.ks.map Int.ofNat)∧L.map Prod.fst=p.es∧∀x∈L,EtP w' x.1 x.2
 | none=>e=refused13 4)∧Below w.heap.size w w'
theorem PgPost.no {w w':World}{b:List UInt8}(h:pgOf b=none)(hb:Below w.heap.size w w'):PgPost w b (.panicked [{ v:=.iface 30 (.int .i64 4),recovered:=false }]) w':=by
 unfold PgPost
 rw[h]
 exact⟨rfl,hb⟩
theorem pars_step {n:Nat}{b:List UInt8}(h2:2≤b.length)(h3:2+(b.getD 0 0).toNat+(b.getD 1 0).toNat≤b.length):parsE (n+1) b=(parsE n (b.drop (2+(b.getD 0 0).toNat+(b.getD 1 0).toNat))).map fun x=>(⟨(b.drop 2).take (b.getD 0 0).toNat,(b.drop (2+(b.getD 0 0).toNat)).take (b.getD 1 0).toNat⟩::x.1,x.2):=by
 rw[parsE,if_pos ⟨h2,h3⟩]
theorem pars_no {n:Nat}{b:List UInt8}(h:¬(2≤b.length∧2+(b.getD 0 0).toNat+(b.getD 1 0).toNat≤b.length)):parsE (n+1) b=none:=by rw[parsE,if_neg h]
theorem SrcN.one {w:World}{B:Nat}{x:Eq3}(h:w.heap[B]?=some (.cells (etc2 x.1 x.2).toArray 64 (0,0))):SrcN w (some ⟨B,0,none⟩) 1 1 [x] :=
 ⟨rfl,(fun e=>by cases e),fun ad e j u hu=>by
  have e2:=Option.some.inj e
  subst e2
  rw[ets,ets,List.append_nil] at hu
  exact World.news_of_block h j u (by simpa using hu)⟩
theorem SB.three {w:World}{v:Value}{b:List UInt8}(h:SB w v (b.take 3))(hb:3≤b.length):∃g off c,v=.slice (some ⟨g,off,none⟩) 3 c∧∀W,KeepO UB w W→W.cell? ⟨g,off,none⟩=some (.int .u8 ((b.getD 0 0).toNat:Int))∧W.cell? ⟨g,off+1,none⟩=some (.int .u8 ((b.getD 1 0).toNat:Int))∧W.cell? ⟨g,off+2,none⟩=some (.int .u8 ((b.getD 2 0).toNat:Int)):=by
 have hl:(b.take 3).length=3:=by rw[List.length_take];omega
 obtain⟨g,off,c,e,hI⟩:=h
 rw[hl] at e hI
 refine⟨g,off,c,e,fun W hW=>?_⟩
 obtain⟨g',off',e',hc⟩:=(hI W hW).cells (by omega)
 have e2:=Option.some.inj e'
 injection e2 with q1 q2 _
 subst q1 q2
 have hn:∀i,i<3→nth (b.take 3) i=b.getD i 0:=fun i hi=>by unfold nth;rw[List.getD_eq_getElem?_getD,List.getElem?_take_of_lt hi,←List.getD_eq_getElem?_getD]
 refine⟨?_,?_,?_⟩
 ·have:=hc 0 (by omega);rw[hn 0 (by omega)] at this;exact this
 ·have:=hc 1 (by omega);rw[hn 1 (by omega)] at this;exact this
 ·have:=hc 2 (by omega);rw[hn 2 (by omega)] at this;exact this
theorem SB.two {w:World}{v:Value}{b:List UInt8}(h:SB w v (b.take 2))(hb:2≤b.length):∃g off c,v=.slice (some ⟨g,off,none⟩) 2 c∧∀W,KeepO UB w W→W.cell? ⟨g,off,none⟩=some (.int .u8 ((b.getD 0 0).toNat:Int))∧W.cell? ⟨g,off+1,none⟩=some (.int .u8 ((b.getD 1 0).toNat:Int)):=by
 have hl:(b.take 2).length=2:=by rw[List.length_take];omega
 obtain⟨g,off,c,e,hI⟩:=h
 rw[hl] at e hI
 refine⟨g,off,c,e,fun W hW=>?_⟩
 obtain⟨g',off',e',hc⟩:=(hI W hW).cells (by omega)
 have e2:=Option.some.inj e'
 injection e2 with q1 q2 _
 subst q1 q2
 have hn:∀i,i<2→nth (b.take 2) i=b.getD i 0:=fun i hi=>by unfold nth;rw[List.getD_eq_getElem?_getD,List.getElem?_take_of_lt hi,←List.getD_eq_getElem?_getD]
 refine⟨?_,?_⟩
 ·have:=hc 0 (by omega);rw[hn 0 (by omega)] at this;exact this
 ·have:=hc 1 (by omega);rw[hn 1 (by omega)] at this;exact this
theorem codPageLow (v:Value)(b:List UInt8)(w:World)(hs:SB w v b)(hb:b.length=512)(h0:b.getD 0 0=116)(h1:(b.getD 1 0).toNat=0):
  Calls Tryz.prog 102 #[v] w (PgPost w b):=by
 have HP:Hid (∀l,parsE (b.getD 2 0).toNat (b.drop 3)=some l→pgOf b=if rightE l.1=true∧zerosL l.2=true then some ⟨0,l.1,[]⟩ else none):=fun l hl=>by
  unfold pgOf
  rw[if_pos ⟨by omega,h0,by omega⟩,if_pos h1,hl]
 have HPn:Hid (parsE (b.getD 2 0).toNat (b.drop 3)=none→pgOf b=none):=fun hl=>by
  unfold pgOf
  rw[if_pos ⟨by omega,h0,by omega⟩,if_pos h1,hl]
 obtain⟨g,off,c,rfl,_⟩:=hs.head 3 (by omega)
 have HS:=mkHid hs
 have hW1:Below w.heap.size w ((w.alloc (.cells #[.slice (some ⟨g,off,none⟩) b.length c] 33)).alloc (.cells #[.int .i64 0,.int .i64 0,.slice none 0 0,.slice none 0 0] 133)):=((Below.refl _ w).alloc (Nat.le_refl _) _).alloc (by simp) _
 have k0:Blk ((w.alloc (.cells #[.slice (some ⟨g,off,none⟩) b.length c] 33)).alloc (.cells #[.int .i64 0,.int .i64 0,.slice none 0 0,.slice none 0 0] 133)) w.heap.size 33 [.slice (some ⟨g,off,none⟩) b.length c]:=(Blk.newAt w w.heap.size 33 _ [.slice (some ⟨g,off,none⟩) b.length c] rfl rfl).alloc _
 have k1:Blk ((w.alloc (.cells #[.slice (some ⟨g,off,none⟩) b.length c] 33)).alloc (.cells #[.int .i64 0,.int .i64 0,.slice none 0 0,.slice none 0 0] 133)) (w.heap.size+1) 133 [.int .i64 0,.int .i64 0,.slice none 0 0,.slice none 0 0]:=Blk.newAt _ (w.heap.size+1) 133 _ _ (by simp) rfl
 have hmf:=mkF0
 have HNx:=nextYes w.heap.size _ b 3 _ w k0 hs (by omega)
 have K0:=mkHid k0
 have K1:=mkHid k1
 have HW1:=mkHid hW1
 have H0:=mkHid h0
 have H1:=mkHid h1
 have HBl:=mkHid hb
 clear hs k0 k1 hW1 h0 h1
 simp only[hb] at HNx HS K0 K1 HW1 ⊢
 simp only[Int.cast_ofNat_Int] at HNx
 go_enter Tryz.func102,Tryz.ntmps102
 go_wp2_with fail
 refine HNx.mono ?_
 rintro e y1 ⟨u,v',rfl,hu,hv',rfl⟩
 obtain⟨g2,off2,c2,rfl,hcs⟩:=hu.three (by have:=HBl.out;omega)
 have hY1:=HW1.out.setCell (p:=⟨w.heap.size,0,none⟩) (Nat.le_refl _) v'
 have q0:=K0.out.set 0 v'
 have q1:=K1.out.other ⟨w.heap.size,0,none⟩ v' (by show w.heap.size+1≠w.heap.size;omega)
 have hsz:(((w.alloc (.cells #[.slice (some ⟨g,off,none⟩) 512 c] 33)).alloc (.cells #[.int .i64 0,.int .i64 0,.slice none 0 0,.slice none 0 0] 133)).setCell ⟨w.heap.size,0,none⟩ v').heap.size=w.heap.size+2:=by simp[World.setCell]
 clear HNx HS hu
 generalize ((w.alloc (.cells #[.slice (some ⟨g,off,none⟩) 512 c] 33)).alloc (.cells #[.int .i64 0,.int .i64 0,.slice none 0 0,.slice none 0 0] 133)).setCell ⟨w.heap.size,0,none⟩ v'=Y1 at *
 have kY:=KeepO.of_below (us:=UB) hY1
 obtain⟨a0,a1,a2⟩:=hcs Y1 kY
 have hA:=(Below.refl _ Y1).alloc (Nat.le_refl _) (.cells #[.int .i64 0,.int .i64 0,.slice none 0 0,.slice none 0 0] 133)
 have kA:=KeepO.of_below (us:=UB) hA
 obtain⟨b0,b1,b2⟩:=hcs _ (kY.trans kA)
 rw[H0.out] at b0
 rw[H1.out] at a1
 simp only[Int.natCast_zero] at a1
 have HPa:Hid (PaAt w (Y1.alloc (.cells #[.int .i64 0,.int .i64 0,.slice none 0 0,.slice none 0 0] 133)) v' (b.drop 3) 0 (.slice none 0 0) (.slice none 0 0) [] []):=
  ⟨q0.alloc _,hv',q1.alloc _,by have:=Blk.newAt Y1 (w.heap.size+2) 133 #[.int .i64 0,.int .i64 0,.slice none 0 0,.slice none 0 0] [.int .i64 0,.int .i64 0,.slice none 0 0,.slice none 0 0] hsz rfl;exact this,OwnN.nil _ _,OwnZ.nil _ _,(fun x hx=>by cases hx),hY1.alloc hY1.size _⟩
 have HNd:=needYes13 4
 have hp1:(Y1.alloc (.cells #[.int .i64 0,.int .i64 0,.slice none 0 0,.slice none 0 0] 133)).cell? ⟨Y1.heap.size,1,none⟩=some (.int .i64 0):=by rw[hsz];exact HPa.out.p.cell 1
 clear K0 K1 HW1 q0 q1 hcs a0 a2 b1 hY1 hA kA kY
 generalize hn0:(b.getD 2 0).toNat=n0 at *
 have hn0':n0<256:=by rw[←hn0];exact UInt8.toNat_lt _
 have HB3l:Hid ((b.drop 3).length≤1000):=by unfold Hid;rw[List.length_drop,HBl.out];omega
 clear hn0
 generalize (b.drop 3)=b3 at *
 go_wp2_with (go_at_call 99;refine(HNd _).mono ?_;rintro x w2 ⟨rfl,hww⟩;rw[hww];clear hww w2)
 go_loopg [30] n0 (fun kx i wr=>∃(k:Nat) (v:Value) (r:List UInt8) (ve:Value) (L:List Eq3),k≤n0∧n0-k≤kx∧i=.int .i64 (k:Int)∧Hid (PaAt w wr v r 0 ve (.slice none 0 0) L [])∧Hid (L.length=k)∧Hid (∀x∈L,x.1.k.length≤255∧x.1.v.length≤255)∧Hid (r.length≤1000)∧Hid (parsE n0 b3=(parsE (n0-k) r).map fun x=>(L.map Prod.fst++x.1,x.2)))
 case atStart=>exact⟨0,v',b3,.slice none 0 0,[],Nat.zero_le _,by omega,rfl,HPa,rfl,(fun x hx=>by cases hx),HB3l,by unfold Hid;rw[Nat.sub_zero];cases parsE n0 b3<;>rfl⟩
 case round =>
  clear HPa hp1 b0 b2 HNd
  obtain⟨k,v,r,ve,L,hk,hkx,rfl,HA,HLk,HLs,HRl,HG⟩:=hrel
  have p1:wr.cell? ⟨w.heap.size+2,1,none⟩=some (.int .i64 0):=HA.out.p.cell 1
  by_cases hlt:k<n0
  ·have hlt':(k:Int)<(n0:Int):=by omega
   by_cases h2:2≤r.length
   ·have HX:=nextYes w.heap.size v r 2 wr w HA.out.b HA.out.r h2
    simp only[Int.cast_ofNat_Int] at HX
    go_wp2_with (go_at_call 141;refine HX.mono ?_;rintro e y2 ⟨u2,v2,rfl,hu2,hv2,rfl⟩)
    obtain⟨g2,off2,c2,rfl,hcs⟩:=hu2.two h2
    have HA2:=mkHid (HA.out.cut hv2)
    clear HX hu2 HA p1
    generalize wr.setCell ⟨w.heap.size,0,none⟩ v2=Y2 at *
    have HA3:Hid (PaAt w Y2.drew v2 (r.drop 2) 0 ve (.slice none 0 0) L []):=HA2.out.on (bel_drewN (Below.refl _ Y2) 1)
    have HKu:Hid (∀W,Below w.heap.size w W→W.cell? ⟨g2,off2,none⟩=some (.int .u8 ((r.getD 0 0).toNat:Int))∧W.cell? ⟨g2,off2+1,none⟩=some (.int .u8 ((r.getD 1 0).toNat:Int))):=fun W hW=>hcs W (KeepO.of_below hW)
    clear hcs HA2
    have hkb:(r.getD 0 0).toNat<256:=UInt8.toNat_lt _
    have hvb:(r.getD 1 0).toNat<256:=UInt8.toNat_lt _
    generalize hkbe:(r.getD 0 0).toNat=kb at *
    generalize hvbe:(r.getD 1 0).toNat=vb at *
    have HKb:=mkHid hkbe
    have HVb:=mkHid hvbe
    clear hkbe hvbe
    have hwk:IntKind.i64.wrap (kb:Int)=(kb:Int):=wrapi64_in _ (by omega) (by omega)
    have hwv:IntKind.i64.wrap (vb:Int)=(vb:Int):=wrapi64_in _ (by omega) (by omega)
    refine lk0 (fun w'=>w'.cell? ⟨w.heap.size+2,2,none⟩=some ve∧w'.cell? ⟨g2,off2,none⟩=some (.int .u8 (kb:Int))∧w'.cell? ⟨g2,off2+1,none⟩=some (.int .u8 (vb:Int))) 18 ⟨HA3.out.p.cell 2,HKu.out _ HA3.out.low⟩ (fun hHeld=>?_)
    generalize Y2.drew=Y3 at *
    refine lkT 37 0 ?_ rfl (Or.inl ⟨by rfl,?_⟩) hHeld ?_
    rotate_left
    ·intro w hSw;obtain⟨s1,s2,s3⟩:=hSw;go_simp;with_reducible rfl
    (try simp only[Act.put,sIx,sZ0,sZ1])
    refine lkT 38 1 (ve) rfl (Or.inl ⟨by rfl,?_⟩) hHeld ?_
    ·intro w hSw;obtain⟨s1,s2,s3⟩:=hSw;go_simp
    (try simp only[Act.put,sIx,sZ0,sZ1])
    refine lkT 39 2 ?_ rfl (Or.inl ⟨by rfl,?_⟩) hHeld ?_
    rotate_left
    ·intro w hSw;obtain⟨s1,s2,s3⟩:=hSw;go_simp;with_reducible rfl
    (try simp only[Act.put,sIx,sZ0,sZ1])
    refine lkT 40 3 ?_ rfl (Or.inl ⟨by rfl,?_⟩) hHeld ?_
    rotate_left
    ·intro w hSw;obtain⟨s1,s2,s3⟩:=hSw;go_simp;with_reducible rfl
    (try simp only[Act.put,sIx,sZ0,sZ1])
    refine lkT 41 4 ?_ rfl (Or.inl ⟨by rfl,?_⟩) hHeld ?_
    rotate_left
    ·intro w hSw;obtain⟨s1,s2,s3⟩:=hSw;go_simp;with_reducible rfl
    (try simp only[Act.put,sIx,sZ0,sZ1])
    refine lkT 42 5 (.int .u8 (kb:Int)) rfl (Or.inl ⟨by rfl,?_⟩) hHeld ?_
    ·intro w hSw;obtain⟨s1,s2,s3⟩:=hSw;go_simp
    (try simp only[Act.put,sIx,sZ0,sZ1])
    refine lkT 43 6 (.int .i64 (kb:Int)) rfl (Or.inl ⟨by rfl,?_⟩) hHeld ?_
    ·intro w hSw;obtain⟨s1,s2,s3⟩:=hSw;go_simp
    (try simp only[Act.put,sIx,sZ0,sZ1])
    refine lkT 45 8 ?_ rfl (Or.inl ⟨by rfl,?_⟩) hHeld ?_
    rotate_left
    ·intro w hSw;obtain⟨s1,s2,s3⟩:=hSw;go_simp;with_reducible rfl
    (try simp only[Act.put,sIx,sZ0,sZ1])
    refine lkT 46 9 ?_ rfl (Or.inl ⟨by rfl,?_⟩) hHeld ?_
    rotate_left
    ·intro w hSw;obtain⟨s1,s2,s3⟩:=hSw;go_simp;with_reducible rfl
    (try simp only[Act.put,sIx,sZ0,sZ1])
    refine lkT 47 10 ?_ rfl (Or.inl ⟨by rfl,?_⟩) hHeld ?_
    rotate_left
    ·intro w hSw;obtain⟨s1,s2,s3⟩:=hSw;go_simp;with_reducible rfl
    (try simp only[Act.put,sIx,sZ0,sZ1])
    refine lkT 48 11 (.int .u8 (vb:Int)) rfl (Or.inl ⟨by rfl,?_⟩) hHeld ?_
    ·intro w hSw;obtain⟨s1,s2,s3⟩:=hSw;go_simp
    (try simp only[Act.put,sIx,sZ0,sZ1])
    refine lkT 49 12 (.int .i64 (vb:Int)) rfl (Or.inl ⟨by rfl,?_⟩) hHeld ?_
    ·intro w hSw;obtain⟨s1,s2,s3⟩:=hSw;go_simp
    (try simp only[Act.put,sIx,sZ0,sZ1])
    have HRd:Hid ((r.drop 2).length=r.length-2):=List.length_drop
    by_cases hk1:kb≤(r.drop 2).length
    ·have HX1:=nextYes w.heap.size v2 (r.drop 2) kb Y3 w HA3.out.b HA3.out.r hk1
     refine lk1 7 rfl (fun K hK=>?_)
     go_simp
     go_wp2_with (go_at_call 141;refine HX1.mono ?_;rintro e y3 ⟨u3,v3,rfl,hu3,hv3,rfl⟩)
     have HA4:=mkHid (HA3.out.cut hv3)
     have HU3:=mkHid hu3
     refine hK.out _ _ ⟨HA4.out.p.cell 2,HKu.out _ HA4.out.low⟩ (fun hHeld=>?_)
     (try simp only[Act.put,sIx,sZ0,sZ1])
     clear hK K HX1 hu3 hv3 HA3
     generalize Y3.setCell ⟨w.heap.size,0,none⟩ v3=Y4 at *
     have HRd2:Hid (((r.drop 2).drop kb).length=r.length-2-kb):=by unfold Hid;rw[List.length_drop,HRd.out]
     by_cases hv1:vb≤((r.drop 2).drop kb).length
     ·have hkv:2+kb+vb≤r.length:=by have:=HRd.out;have:=HRd2.out;omega
      have hnk:n0-k=(n0-(k+1))+1:=by omega
      have HX2:=nextYes w.heap.size v3 ((r.drop 2).drop kb) vb Y4 w HA4.out.b HA4.out.r hv1
      refine lk1 13 rfl (fun K hK=>?_)
      go_simp
      go_wp2_with (go_at_call 141;refine HX2.mono ?_;rintro e y5 ⟨u5,v5,rfl,hu5,hv5,rfl⟩)
      have HA6:=mkHid (HA4.out.cut hv5)
      have HU5:=mkHid hu5
      refine hK.out _ _ ⟨HA6.out.p.cell 2,HKu.out _ HA6.out.low⟩ (fun hHeld=>?_)
      (try simp only[Act.put,sIx,sZ0,sZ1])
      clear hK K HX2 hu5 hv5 HA4
      generalize Y4.setCell ⟨w.heap.size,0,none⟩ v5=Y6 at *
      obtain⟨kg,ko,kc,rfl,HIk⟩:=HU3.out
      obtain⟨vg,vo,vc,rfl,HIv⟩:=HU5.out
      have hkl:((r.drop 2).take kb).length=kb:=by rw[List.length_take];omega
      have hvl:(((r.drop 2).drop kb).take vb).length=vb:=by rw[List.length_take];omega
      have HEt:Hid (EtP w ⟨(r.drop 2).take kb,((r.drop 2).drop kb).take vb⟩ ⟨some ⟨kg,ko,none⟩,kc,some ⟨vg,vo,none⟩,vc⟩):=fun W hW=>⟨HIk W hW,HIv W hW⟩
      clear HIk HIv HU3 HU5
      have HEc:Hid (etc2 ⟨(r.drop 2).take kb,((r.drop 2).drop kb).take vb⟩ ⟨some ⟨kg,ko,none⟩,kc,some ⟨vg,vo,none⟩,vc⟩=[.slice (some ⟨kg,ko,none⟩) kb kc,.slice (some ⟨vg,vo,none⟩) vb vc]):=by unfold Hid etc2;simp only[hkl,hvl]
      simp only[hkl,hvl]
      refine lkT 51 14 (.agg #[.slice (some ⟨kg,ko,none⟩) kb kc,.slice (some ⟨vg,vo,none⟩) vb vc]) rfl (Or.inl ⟨by rfl,?_⟩) hHeld ?_
      ·intro w hSw;obtain⟨s1,s2,s3⟩:=hSw;go_simp
      (try simp only[Act.put,sIx,sZ0,sZ1])
      refine lk1 15 rfl (fun K hK=>?_)
      go_simp
      have HA7:=mkHid (HA6.out.on ((Below.refl _ Y6).alloc (Nat.le_refl _) (.cells #[.slice (some ⟨kg,ko,none⟩) kb kc,.slice (some ⟨vg,vo,none⟩) vb vc] 64)))
      have KB7:Hid ((Y6.alloc (.cells #[.slice (some ⟨kg,ko,none⟩) kb kc,.slice (some ⟨vg,vo,none⟩) vb vc] 64)).heap[Y6.heap.size]?=some (.cells #[.slice (some ⟨kg,ko,none⟩) kb kc,.slice (some ⟨vg,vo,none⟩) vb vc] 64 (0,0))):=heap_alloc_new Y6 _
      refine hK.out _ _ ⟨HA7.out.p.cell 2,HKu.out _ HA7.out.low⟩ (fun hHeld=>?_)
      (try simp only[Act.put,sIx,sZ0,sZ1])
      clear hK K HA6
      generalize Y6.alloc (.cells #[.slice (some ⟨kg,ko,none⟩) kb kc,.slice (some ⟨vg,vo,none⟩) vb vc] 64)=Y7 at *
      generalize Y6.heap.size=Bn at *
      have HSr:Hid (SrcN Y7 (some ⟨Bn,0,none⟩) 1 1 [(⟨(r.drop 2).take kb,((r.drop 2).drop kb).take vb⟩,⟨some ⟨kg,ko,none⟩,kc,some ⟨vg,vo,none⟩,vc⟩)]):=SrcN.one (by rw[HEc.out];exact KB7.out)
      refine lk1 16 rfl (fun K hK=>?_)
      refine step_appNs Y7 (by rfl) _ _ (by rfl) (w.heap.size+3) ve L (by rfl) HA7.out.e (some ⟨Bn,0,none⟩) 1 1 [(⟨(r.drop 2).take kb,((r.drop 2).drop kb).take vb⟩,⟨some ⟨kg,ko,none⟩,kc,some ⟨vg,vo,none⟩,vc⟩)] (by rfl) HSr.out (by have:=HLk.out;omega) HA7.out.lt 53 rfl ?_
      intro v8 Y8 ho8 hg8
      obtain⟨a8,c8,he8,_⟩:=ho8.form
      obtain⟨hA9,hP8⟩:=HA7.out.app ho8 hg8 HEt.out
      generalize hln:(L++[((⟨(r.drop 2).take kb,((r.drop 2).drop kb).take vb⟩:Et),(⟨some ⟨kg,ko,none⟩,kc,some ⟨vg,vo,none⟩,vc⟩:EtA))]).length=ln at he8
      subst he8
      have HA9:=mkHid hA9
      have d2:Y8.cell? ⟨w.heap.size+2,2,none⟩=some ve:=hP8.cell 2
      have f2:=hP8.frozen 2
      have HB8:Hid (Below w.heap.size w Y8):=HA7.out.low.grown hg8 HA7.out.low.size (fun k e=>by have:=(World.ownsRow.lt HA7.out.e k e).1;omega)
      refine hK.out _ _ ⟨hP8.cell 2,HKu.out _ HB8.out⟩ (fun hHeld=>?_)
      (try simp only[Act.put,sIx,sZ0,sZ1])
      clear hK K hP8 ho8 hg8 HA7 KB7 HSr hA9
      refine lk1 17 rfl (fun K hK=>?_)
      go_simp
      refine hK.out _ _ hHeld (fun hHeld=>?_)
      (try simp only[Act.put,sIx,sZ0,sZ1])
      clear hK K
      refine lkZ rfl (fun K hK=>?_)
      go_simp
      refine hK.out _ _ (NoPanic.normal ?_)
      (try simp only[Act.put,sIx,sZ0,sZ1])
      clear hK K d2 f2 hHeld
      generalize Y8.setCell ⟨w.heap.size+2,2,none⟩ (.slice a8 ln c8)=Y9 at *
      have HG1:Hid (parsE n0 b3=(parsE (n0-(k+1)) (r.drop (2+kb+vb))).map fun x=>((L++[((⟨(r.drop 2).take kb,((r.drop 2).drop kb).take vb⟩:Et),(⟨some ⟨kg,ko,none⟩,kc,some ⟨vg,vo,none⟩,vc⟩:EtA))]).map Prod.fst++x.1,x.2)):=by
       unfold Hid
       rw[HG.out,hnk,pars_step h2 (by rw[HKb.out,HVb.out];exact hkv),HKb.out,HVb.out,Option.map_map,List.drop_drop,List.map_append]
       congr 1
       funext x
       simp
      have HLn:Hid ((L++[((⟨(r.drop 2).take kb,((r.drop 2).drop kb).take vb⟩:Et),(⟨some ⟨kg,ko,none⟩,kc,some ⟨vg,vo,none⟩,vc⟩:EtA))]).length=k+1):=by unfold Hid;rw[List.length_append,HLk.out];rfl
      have HLs9:Hid (∀x∈L++[((⟨(r.drop 2).take kb,((r.drop 2).drop kb).take vb⟩:Et),(⟨some ⟨kg,ko,none⟩,kc,some ⟨vg,vo,none⟩,vc⟩:EtA))],x.1.k.length≤255∧x.1.v.length≤255):=fun x hx=>by
       rcases List.mem_append.1 hx with h|h
       ·exact HLs.out x h
       ·rw[List.mem_singleton.1 h]
        exact⟨by rw[hkl];omega,by rw[hvl];omega⟩
      rw[List.drop_drop,List.drop_drop,←Nat.add_assoc] at HA9
      clear hln HEc HEt hkl hvl
      go_wp2_with fail
      go_roundg (n0-(k+1))
      case measure=>omega
      case rel=>exact⟨k+1,v5,r.drop (2+kb+vb),_,_,by omega,Nat.le_refl _,by go_num,HA9,HLn,HLs9,by unfold Hid;rw[List.length_drop];have:=HRl.out;omega,HG1⟩
     ·have hkv:¬(2≤r.length∧2+kb+vb≤r.length):=by have:=HRd.out;have:=HRd2.out;omega
      have hnk:n0-k=(n0-(k+1))+1:=by omega
      have HX2:=nextNo w.heap.size v3 ((r.drop 2).drop kb) vb Y4 w HA4.out.b HA4.out.r hv1
      have HNo:Hid (pgOf b=none):=HPn.out (by rw[HG.out,hnk,pars_no (by rw[HKb.out,HVb.out];exact hkv)];rfl)
      have HBl4:=mkHid HA4.out.low
      refine lk1 13 rfl (fun K hK=>?_)
      go_simp
      go_wp2_with (go_at_call 141;refine HX2.mono ?_;rintro e y5 ⟨rfl,rfl⟩)
      exact bp_panic (PgPost.no HNo.out HBl4.out)
    ·have hkv:¬(2≤r.length∧2+kb+vb≤r.length):=by have:=HRd.out;omega
     have hnk:n0-k=(n0-(k+1))+1:=by omega
     have HX1:=nextNo w.heap.size v2 (r.drop 2) kb Y3 w HA3.out.b HA3.out.r hk1
     have HNo:Hid (pgOf b=none):=HPn.out (by rw[HG.out,hnk,pars_no (by rw[HKb.out,HVb.out];exact hkv)];rfl)
     have HBl4:=mkHid HA3.out.low
     refine lk1 7 rfl (fun K hK=>?_)
     go_simp
     go_wp2_with (go_at_call 141;refine HX1.mono ?_;rintro e y5 ⟨rfl,rfl⟩)
     exact bp_panic (PgPost.no HNo.out HBl4.out)
   ·have hnk:n0-k=(n0-(k+1))+1:=by omega
    have HX:=nextNo w.heap.size v r 2 wr w HA.out.b HA.out.r h2
    simp only[Int.cast_ofNat_Int] at HX
    have HNo:Hid (pgOf b=none):=HPn.out (by rw[HG.out,hnk,pars_no (fun h=>h2 h.1)];rfl)
    have HBl4:=mkHid HA.out.low
    go_wp2_with (go_at_call 141;refine HX.mono ?_;rintro e y2 ⟨rfl,rfl⟩)
    exact bp_panic (PgPost.no HNo.out HBl4.out)
  ·have hlt':¬(k:Int)<(n0:Int):=by omega
   have HPo:Hid (pgOf b=if rightE (L.map Prod.fst)=true∧zerosL r=true then some ⟨0,L.map Prod.fst,[]⟩ else none):=by
    unfold Hid
    have h3:parsE n0 b3=some (L.map Prod.fst,r):=by
     rw[HG.out,show n0-k=0 by omega,parsE]
     simp
    exact HP.out _ h3
   have kE:=KeepO.of_below (us:=UB) HA.out.low
   have hRd:RdN 0 wr ve L:=HA.out.e.rd (fun x hx=>(HA.out.x x hx).keep kE)
   have HRt:=codRightLow 0 ve (.slice none 0 0) L wr hRd (by have:=HLk.out;omega) (fun x hx=>by have:=HLs.out x hx;omega)
   have HRtB:=mkHid hRd
   obtain⟨rg,ro,rc,rfl,hri⟩:=(HA.out.r.keep kE).isB
   have hrl:=HRl.out
   obtain⟨va,vc,rfl,_⟩:=HA.out.e.form
   have HNy:=needYes13 4
   have HNn:=needNo13 4
   unfold pgc at HRt
   simp only[Int.natCast_zero] at HRt
   have p0:wr.cell? ⟨w.heap.size+2,0,none⟩=some (.int .i64 0):=HA.out.p.cell 0
   have p2:wr.cell? ⟨w.heap.size+2,2,none⟩=some (.slice va L.length vc):=HA.out.p.cell 2
   have p3:wr.cell? ⟨w.heap.size+2,3,none⟩=some (.slice none 0 0):=HA.out.p.cell 3
   have HTr:Hid (∀W,Below wr.heap.size wr W→Calls Tryz.prog 143 #[.slice (some ⟨rg,ro,none⟩) r.length rc,.string ⟨#[0]⟩] W fun e w'=>(∃a' n' c',e=.returned (.slice a' n' c')∧n'≤r.length∧(n'=0↔zerosL r=true))∧Below W.heap.size W w'):=fun W hW=>codTrim _ _ _ r W (hri.below hW rfl) (by omega)
   clear hRd hri HG kE
   by_cases hR:rightE (L.map Prod.fst)=true
   ·rw[hR] at HRt
    go_wp2_with fail
    refine HRt.mono ?_
    rintro e y2 ⟨rfl,hb2⟩
    have HAy:=mkHid (HA.out.on hb2)
    have c0:y2.cell? ⟨w.heap.size,0,none⟩=some (.slice (some ⟨rg,ro,none⟩) r.length rc):=HAy.out.b.cell 0
    have HTy:=HTr.out y2 hb2
    clear p0 p1 p2 p3 HRt HTr
    go_wp2_with fail
    refine HTy.mono ?_
    rintro e y3 ⟨⟨a3,n3,c3,rfl,hn3,hz3⟩,hb3⟩
    have HAz:=mkHid (HAy.out.on hb3)
    clear HTy c0
    by_cases h30:n3=0
    ·have HPs:Hid (pgOf b=some ⟨0,L.map Prod.fst,[]⟩):=by unfold Hid;rw[HPo.out,if_pos ⟨hR,hz3.1 h30⟩]
     have h30':(n3:Int)=0:=by omega
     clear h30 hz3
     have z0:y3.cell? ⟨w.heap.size+2,0,none⟩=some (.int .i64 0):=HAz.out.p.cell 0
     have z1:y3.cell? ⟨w.heap.size+2,1,none⟩=some (.int .i64 0):=HAz.out.p.cell 1
     have z2:y3.cell? ⟨w.heap.size+2,2,none⟩=some (.slice va L.length vc):=HAz.out.p.cell 2
     have z3:y3.cell? ⟨w.heap.size+2,3,none⟩=some (.slice none 0 0):=HAz.out.p.cell 3
     have r0:=HAz.out.res.cell 0
     have r1:=HAz.out.res.cell 1
     have r2:=HAz.out.res.cell 2
     have r3:=HAz.out.res.cell 3
     simp only[gZ0,gZ1] at r0 r1 r2 r3
     have g0:=HAz.out.res.frozen 0
     have g1:=HAz.out.res.frozen 1
     have g2':=HAz.out.res.frozen 2
     have g3:=HAz.out.res.frozen 3
     go_wp2_with (go_at_call 99;refine(HNy _).mono ?_;rintro x w2 ⟨rfl,hww⟩;rw[hww];clear hww w2)
     refine bodyPost_ret (retPg rfl _ _ (w.heap.size+1) _ _ _ _ rfl ((((HAz.out.res.set 0 _).set 1 _).set 2 _).set 3 _)) rfl ?_
     obtain⟨q1,q2,q3,q4⟩:=HAz.out.done (grown4 y3 (w.heap.size+1) (.int .i64 0) (.int .i64 0) (.slice va L.length vc) (.slice none 0 0))
     unfold PgPost
     rw[HPs.out]
     exact⟨⟨_,_,L,rfl,q1,q2,rfl,q3⟩,q4⟩
    ·have HNo:Hid (pgOf b=none):=by unfold Hid;rw[HPo.out,if_neg (fun h=>h30 (hz3.2 h.2))]
     have h30':¬(n3:Int)=0:=by omega
     have hbq:((n3:Int)==0)=false:=beq_eq_false_iff_ne.2 h30'
     have HBl4:=mkHid HAz.out.low
     clear h30 hz3
     go_wp2_with (go_at_call 99;refine(HNn _).mono ?_;rintro x w2 ⟨rfl,hww⟩;rw[hww];clear hww w2)
     exact bp_panic (PgPost.no HNo.out HBl4.out)
   ·have hR':rightE (L.map Prod.fst)=false:=Bool.eq_false_iff.2 hR
    rw[hR'] at HRt
    have HNo:Hid (pgOf b=none):=by unfold Hid;rw[HPo.out,if_neg (fun h=>hR h.1)]
    go_wp2_with fail
    refine HRt.mono ?_
    rintro e y2 ⟨rfl,hb2⟩
    have HBl4:=mkHid (HA.out.on hb2).low
    clear p0 p1 p2 p3 HRt HTr hR hR'
    go_wp2_with (go_at_call 99;refine(HNn _).mono ?_;rintro x w2 ⟨rfl,hww⟩;rw[hww];clear hww w2)
    exact bp_panic (PgPost.no HNo.out HBl4.out)
theorem parsK_step {n:Nat}{b:List UInt8}(h2:2≤b.length):parsK (n+1) b=(parsK n (b.drop 2)).map fun x=>(((b.getD 0 0).toNat * 256+(b.getD 1 0).toNat):: x.1,x.2):=by rw[parsK,if_pos h2]
theorem parsK_no {n:Nat}{b:List UInt8}(h:¬2≤b.length):parsK (n+1) b=none:=by rw[parsK,if_neg h]
theorem step_appZ13 {ops:Array Oper}{o:Oper}{a:Act}{K:Act→World→Prop}{Q:Exit→Act→World→Prop}{E:Prop}(w:World)(hgd:o.guard=none)(s x:Operand)
  (ho:o.op=.call { callee:=.builtin .append,args:=#[s,x],argTypes:=#[58,58] }) (base:Nat)
  (v:Value) (l:List Int) (hs:a.eval s=v) (hown:OwnZ w base v l) (B:Nat) (z:Int) (hx:a.eval x=.slice (some ⟨B,0,none⟩) 1 1)
  (hb:w.heap[B]?=some (.cells #[.int .i64 z] 3 (0,0))) (hle:l.length≤4096) (hbase:base≤w.heap.size) (d:Tmp) (hd:o.dst=some d)
  (h:∀v' w',OwnZ w' base v' (l++[z])→w.grownBy w' v.ownBlock→K (a.put (some d) v') w'):
  if Region.wanted o (yielded ops a.tmps)=true then Oper.wp Tryz.prog o a w K Q else E:=by
 have hw:Region.wanted o (yielded ops a.tmps)=true:=by simp[Region.wanted,hgd]
 rw[if_pos hw]
 obtain⟨i0,hi,hz0,hz1,hz2⟩:=info_parts infoI3
 refine wp_append_own w s x 58 ho base 3 i0 (.int .i64 0) 1 8 Tryz.underlying58 hi hz0 hz1 hz2 rfl (by omega) v l.length _ hs hown ⟨B,0,none⟩ 1 1 [.int .i64 z] hx (by simp) (fun j u hu=>World.news_of_block hb j u (by simpa using hu)) (fun u hu=>by rw[List.mem_singleton.1 hu];rfl) (by unfold maxLen;omega) (by omega) hbase ?_
 intro v' w' h1 h2 _
 rw[hd]
 refine h v' w' ?_ h2
 unfold OwnZ
 rw[List.length_append,zv_append]
 exact h1
theorem or13 (a b:Nat)(ha:a<256)(hb:b<256):bits .or .i64 ((a:Int) * 256) (b:Int)=((a * 256+b:Nat):Int):=by
 show IntKind.i64.wrap ((BitVec.ofInt 64 ((a:Int) * 256) ||| BitVec.ofInt 64 (b:Int)).toNat:Int)=_
 rw[show (a:Int) * 256=((2 ^ 8 * a:Nat):Int) by omega,BitVec.ofInt_natCast,BitVec.ofInt_natCast,BitVec.toNat_or,BitVec.toNat_ofNat,BitVec.toNat_ofNat,Nat.mod_eq_of_lt (by omega),Nat.mod_eq_of_lt (by omega),←Nat.two_pow_add_eq_or_of_lt (i:=8) (b:=b) (by omega) a]
 rw[show 2 ^ 8 * a+b=a * 256+b by omega]
 exact wrapi64_in _ (by omega) (by omega)
theorem codPageUp (v:Value)(b:List UInt8)(w:World)(hs:SB w v b)(hb:b.length=512)(h0:b.getD 0 0=116)(lv:Nat)(h1:(b.getD 1 0).toNat=lv)(hlv:0<lv)(hlv2:lv≤11):
  Calls Tryz.prog 102 #[v] w (PgPost w b):=by
 have HP:Hid (∀l,parsK (b.getD 2 0).toNat (b.drop 3)=some l→pgOf b=if 1<l.1.length∧zerosL l.2=true then some ⟨lv,[],l.1⟩ else none):=fun l hl=>by
  unfold pgOf
  rw[if_pos ⟨by omega,h0,by omega⟩,if_neg (by omega),hl,h1]
 have HPn:Hid (parsK (b.getD 2 0).toNat (b.drop 3)=none→pgOf b=none):=fun hl=>by
  unfold pgOf
  rw[if_pos ⟨by omega,h0,by omega⟩,if_neg (by omega),hl]
 obtain⟨g,off,c,rfl,_⟩:=hs.head 3 (by omega)
 have HS:=mkHid hs
 have hW1:Below w.heap.size w ((w.alloc (.cells #[.slice (some ⟨g,off,none⟩) b.length c] 33)).alloc (.cells #[.int .i64 0,.int .i64 0,.slice none 0 0,.slice none 0 0] 133)):=((Below.refl _ w).alloc (Nat.le_refl _) _).alloc (by simp) _
 have k0:Blk ((w.alloc (.cells #[.slice (some ⟨g,off,none⟩) b.length c] 33)).alloc (.cells #[.int .i64 0,.int .i64 0,.slice none 0 0,.slice none 0 0] 133)) w.heap.size 33 [.slice (some ⟨g,off,none⟩) b.length c]:=(Blk.newAt w w.heap.size 33 _ [.slice (some ⟨g,off,none⟩) b.length c] rfl rfl).alloc _
 have k1:Blk ((w.alloc (.cells #[.slice (some ⟨g,off,none⟩) b.length c] 33)).alloc (.cells #[.int .i64 0,.int .i64 0,.slice none 0 0,.slice none 0 0] 133)) (w.heap.size+1) 133 [.int .i64 0,.int .i64 0,.slice none 0 0,.slice none 0 0]:=Blk.newAt _ (w.heap.size+1) 133 _ _ (by simp) rfl
 have hmf:=mkF0
 have HNx:=nextYes w.heap.size _ b 3 _ w k0 hs (by omega)
 have K0:=mkHid k0
 have K1:=mkHid k1
 have HW1:=mkHid hW1
 have H0:=mkHid h0
 have H1:=mkHid h1
 have HBl:=mkHid hb
 clear hs k0 k1 hW1 h0 h1
 simp only[hb] at HNx HS K0 K1 HW1 ⊢
 simp only[Int.cast_ofNat_Int] at HNx
 go_enter Tryz.func102,Tryz.ntmps102
 go_wp2_with fail
 refine HNx.mono ?_
 rintro e y1 ⟨u,v',rfl,hu,hv',rfl⟩
 obtain⟨g2,off2,c2,rfl,hcs⟩:=hu.three (by have:=HBl.out;omega)
 have hY1:=HW1.out.setCell (p:=⟨w.heap.size,0,none⟩) (Nat.le_refl _) v'
 have q0:=K0.out.set 0 v'
 have q1:=K1.out.other ⟨w.heap.size,0,none⟩ v' (by show w.heap.size+1≠w.heap.size;omega)
 have hsz:(((w.alloc (.cells #[.slice (some ⟨g,off,none⟩) 512 c] 33)).alloc (.cells #[.int .i64 0,.int .i64 0,.slice none 0 0,.slice none 0 0] 133)).setCell ⟨w.heap.size,0,none⟩ v').heap.size=w.heap.size+2:=by simp[World.setCell]
 clear HNx HS hu
 generalize ((w.alloc (.cells #[.slice (some ⟨g,off,none⟩) 512 c] 33)).alloc (.cells #[.int .i64 0,.int .i64 0,.slice none 0 0,.slice none 0 0] 133)).setCell ⟨w.heap.size,0,none⟩ v'=Y1 at *
 have kY:=KeepO.of_below (us:=UB) hY1
 obtain⟨a0,a1,a2⟩:=hcs Y1 kY
 have hA:=(Below.refl _ Y1).alloc (Nat.le_refl _) (.cells #[.int .i64 0,.int .i64 (lv:Int),.slice none 0 0,.slice none 0 0] 133)
 have kA:=KeepO.of_below (us:=UB) hA
 obtain⟨b0,b1,b2⟩:=hcs _ (kY.trans kA)
 rw[H0.out] at b0
 rw[H1.out] at a1
 have hwl:IntKind.i64.wrap (lv:Int)=(lv:Int):=wrapi64_in _ (by omega) (by omega)
 have hlv':(lv:Int)≤11:=by omega
 have hlv0:¬(lv:Int)=0:=by omega
 have HPa:Hid (PaAt w (Y1.alloc (.cells #[.int .i64 0,.int .i64 (lv:Int),.slice none 0 0,.slice none 0 0] 133)) v' (b.drop 3) lv (.slice none 0 0) (.slice none 0 0) [] []):=
  ⟨q0.alloc _,hv',q1.alloc _,by have:=Blk.newAt Y1 (w.heap.size+2) 133 #[.int .i64 0,.int .i64 (lv:Int),.slice none 0 0,.slice none 0 0] [.int .i64 0,.int .i64 (lv:Int),.slice none 0 0,.slice none 0 0] hsz rfl;exact this,OwnN.nil _ _,OwnZ.nil _ _,(fun x hx=>by cases hx),hY1.alloc hY1.size _⟩
 have HNd:=needYes13 4
 have hp1:(Y1.alloc (.cells #[.int .i64 0,.int .i64 (lv:Int),.slice none 0 0,.slice none 0 0] 133)).cell? ⟨Y1.heap.size,1,none⟩=some (.int .i64 (lv:Int)):=by rw[hsz];exact HPa.out.p.cell 1
 clear K0 K1 HW1 q0 q1 hcs a0 a2 b1 hY1 hA kA kY
 generalize hn0:(b.getD 2 0).toNat=n0 at *
 have hn0':n0<256:=by rw[←hn0];exact UInt8.toNat_lt _
 have HB3l:Hid ((b.drop 3).length≤1000):=by unfold Hid;rw[List.length_drop,HBl.out];omega
 clear hn0
 generalize (b.drop 3)=b3 at *
 go_wp2_with (go_at_call 99;refine(HNd _).mono ?_;rintro x w2 ⟨rfl,hww⟩;rw[hww];clear hww w2)
 go_loopg [30] n0 (fun kx i wr=>∃(k:Nat) (v:Value) (r:List UInt8) (vk:Value) (ks:List Nat),k≤n0∧n0-k≤kx∧i=.int .i64 (k:Int)∧Hid (PaAt w wr v r lv (.slice none 0 0) vk [] (ks.map Int.ofNat))∧Hid (ks.length=k)∧Hid (r.length≤1000)∧Hid (parsK n0 b3=(parsK (n0-k) r).map fun x=>(ks++x.1,x.2)))
 case atStart=>exact⟨0,v',b3,.slice none 0 0,[],Nat.zero_le _,by omega,rfl,HPa,rfl,HB3l,by unfold Hid;rw[Nat.sub_zero];cases parsK n0 b3<;>rfl⟩
 case round =>
  clear HPa hp1 b0 b2 HNd
  obtain⟨k,v,r,vk,ks,hk,hkx,rfl,HA,HLk,HRl,HG⟩:=hrel
  have p1:wr.cell? ⟨w.heap.size+2,1,none⟩=some (.int .i64 (lv:Int)):=HA.out.p.cell 1
  by_cases hlt:k<n0
  ·have hlt':(k:Int)<(n0:Int):=by omega
   have hnk:n0-k=(n0-(k+1))+1:=by omega
   by_cases h2:2≤r.length
   ·have HX:=nextYes w.heap.size v r 2 wr w HA.out.b HA.out.r h2
    simp only[Int.cast_ofNat_Int] at HX
    go_wp2_with (go_at_call 141;refine HX.mono ?_;rintro e y2 ⟨u2,v2,rfl,hu2,hv2,rfl⟩)
    obtain⟨g2,off2,c2,rfl,hcs⟩:=hu2.two h2
    have HA2:=mkHid (HA.out.cut hv2)
    clear HX hu2 HA p1
    generalize wr.setCell ⟨w.heap.size,0,none⟩ v2=Y2 at *
    have HA3:Hid (PaAt w Y2.drew v2 (r.drop 2) lv (.slice none 0 0) vk [] (ks.map Int.ofNat)):=HA2.out.on (bel_drewN (Below.refl _ Y2) 1)
    have HKu:Hid (∀W,Below w.heap.size w W→W.cell? ⟨g2,off2,none⟩=some (.int .u8 ((r.getD 0 0).toNat:Int))∧W.cell? ⟨g2,off2+1,none⟩=some (.int .u8 ((r.getD 1 0).toNat:Int))):=fun W hW=>hcs W (KeepO.of_below hW)
    clear hcs HA2
    have HG1:Hid (parsK n0 b3=(parsK (n0-(k+1)) (r.drop 2)).map fun x=>((ks++[(r.getD 0 0).toNat * 256+(r.getD 1 0).toNat])++x.1,x.2)):=by
     unfold Hid
     rw[HG.out,hnk,parsK_step h2,Option.map_map]
     congr 1
     funext x
     simp
    have hkb:(r.getD 0 0).toNat<256:=UInt8.toNat_lt _
    have hvb:(r.getD 1 0).toNat<256:=UInt8.toNat_lt _
    generalize (r.getD 0 0).toNat=kb at *
    generalize (r.getD 1 0).toNat=vb at *
    have hwk:IntKind.i64.wrap (kb:Int)=(kb:Int):=wrapi64_in _ (by omega) (by omega)
    have hwv:IntKind.i64.wrap (vb:Int)=(vb:Int):=wrapi64_in _ (by omega) (by omega)
    have hwk2:IntKind.i64.wrap ((kb:Int) * 256)=(kb:Int) * 256:=wrapi64_in _ (by omega) (by omega)
    have hor:=or13 kb vb hkb hvb
    refine lk0 (fun w'=>w'.cell? ⟨w.heap.size+2,3,none⟩=some vk∧w'.cell? ⟨g2,off2,none⟩=some (.int .u8 (kb:Int))∧w'.cell? ⟨g2,off2+1,none⟩=some (.int .u8 (vb:Int))) 15 ⟨HA3.out.p.cell 3,HKu.out _ HA3.out.low⟩ (fun hHeld=>?_)
    generalize Y2.drew=Y3 at *
    refine lkT 57 0 ?_ rfl (Or.inl ⟨by rfl,?_⟩) hHeld ?_
    rotate_left
    ·intro w hSw;obtain⟨s1,s2,s3⟩:=hSw;go_simp;with_reducible rfl
    (try simp only[Act.put,sIx,sZ0,sZ1])
    refine lkT 58 1 (vk) rfl (Or.inl ⟨by rfl,?_⟩) hHeld ?_
    ·intro w hSw;obtain⟨s1,s2,s3⟩:=hSw;go_simp
    (try simp only[Act.put,sIx,sZ0,sZ1])
    refine lkT 59 2 ?_ rfl (Or.inl ⟨by rfl,?_⟩) hHeld ?_
    rotate_left
    ·intro w hSw;obtain⟨s1,s2,s3⟩:=hSw;go_simp;with_reducible rfl
    (try simp only[Act.put,sIx,sZ0,sZ1])
    refine lkT 60 3 ?_ rfl (Or.inl ⟨by rfl,?_⟩) hHeld ?_
    rotate_left
    ·intro w hSw;obtain⟨s1,s2,s3⟩:=hSw;go_simp;with_reducible rfl
    (try simp only[Act.put,sIx,sZ0,sZ1])
    refine lkT 61 4 (.int .u8 (kb:Int)) rfl (Or.inl ⟨by rfl,?_⟩) hHeld ?_
    ·intro w hSw;obtain⟨s1,s2,s3⟩:=hSw;go_simp
    (try simp only[Act.put,sIx,sZ0,sZ1])
    refine lkT 62 5 (.int .i64 (kb:Int)) rfl (Or.inl ⟨by rfl,?_⟩) hHeld ?_
    ·intro w hSw;obtain⟨s1,s2,s3⟩:=hSw;go_simp
    (try simp only[Act.put,sIx,sZ0,sZ1])
    refine lkT 63 6 (.int .i64 ((kb:Int) * 256)) rfl (Or.inl ⟨by rfl,?_⟩) hHeld ?_
    ·intro w hSw;obtain⟨s1,s2,s3⟩:=hSw;go_simp
    (try simp only[Act.put,sIx,sZ0,sZ1])
    refine lkT 64 7 ?_ rfl (Or.inl ⟨by rfl,?_⟩) hHeld ?_
    rotate_left
    ·intro w hSw;obtain⟨s1,s2,s3⟩:=hSw;go_simp;with_reducible rfl
    (try simp only[Act.put,sIx,sZ0,sZ1])
    refine lkT 65 8 ?_ rfl (Or.inl ⟨by rfl,?_⟩) hHeld ?_
    rotate_left
    ·intro w hSw;obtain⟨s1,s2,s3⟩:=hSw;go_simp;with_reducible rfl
    (try simp only[Act.put,sIx,sZ0,sZ1])
    refine lkT 66 9 (.int .u8 (vb:Int)) rfl (Or.inl ⟨by rfl,?_⟩) hHeld ?_
    ·intro w hSw;obtain⟨s1,s2,s3⟩:=hSw;go_simp
    (try simp only[Act.put,sIx,sZ0,sZ1])
    refine lkT 67 10 (.int .i64 (vb:Int)) rfl (Or.inl ⟨by rfl,?_⟩) hHeld ?_
    ·intro w hSw;obtain⟨s1,s2,s3⟩:=hSw;go_simp
    (try simp only[Act.put,sIx,sZ0,sZ1])
    refine lkT 68 11 (.int .i64 ((kb * 256+vb:Nat):Int)) rfl (Or.inl ⟨by rfl,?_⟩) hHeld ?_
    ·intro w hSw;obtain⟨s1,s2,s3⟩:=hSw;go_simp
    (try simp only[Act.put,sIx,sZ0,sZ1])
    generalize hz:kb * 256+vb=z at *
    clear hor hwk2
    refine lk1 12 rfl (fun K hK=>?_)
    go_simp
    have HA7:=mkHid (HA3.out.on ((Below.refl _ Y3).alloc (Nat.le_refl _) (.cells #[.int .i64 (z:Int)] 3)))
    have KB7:Hid ((Y3.alloc (.cells #[.int .i64 (z:Int)] 3)).heap[Y3.heap.size]?=some (.cells #[.int .i64 (z:Int)] 3 (0,0))):=heap_alloc_new Y3 _
    refine hK.out _ _ ⟨HA7.out.p.cell 3,HKu.out _ HA7.out.low⟩ (fun hHeld=>?_)
    (try simp only[Act.put,sIx,sZ0,sZ1])
    clear hK K HA3
    generalize Y3.alloc (.cells #[.int .i64 (z:Int)] 3)=Y7 at *
    generalize Y3.heap.size=Bn at *
    refine lk1 13 rfl (fun K hK=>?_)
    refine step_appZ13 Y7 (by rfl) _ _ (by rfl) (w.heap.size+3) vk (ks.map Int.ofNat) (by rfl) HA7.out.k Bn (z:Int) (by rfl) KB7.out (by have:=HLk.out;rw[List.length_map];omega) HA7.out.lt 70 rfl ?_
    intro v8 Y8 ho8 hg8
    obtain⟨a8,c8,he8,_⟩:=ho8.isZ
    obtain⟨hA9,hP8⟩:=HA7.out.appK ho8 hg8
    generalize hln:(ks.map Int.ofNat++[(z:Int)]).length=ln at he8
    subst he8
    have HA9:=mkHid hA9
    have d2:Y8.cell? ⟨w.heap.size+2,3,none⟩=some vk:=hP8.cell 3
    have f2:=hP8.frozen 3
    have HB8:Hid (Below w.heap.size w Y8):=HA7.out.low.grown hg8 HA7.out.low.size (fun k e=>by have:=(World.ownsRow.lt HA7.out.k k e).1;omega)
    refine hK.out _ _ ⟨hP8.cell 3,HKu.out _ HB8.out⟩ (fun hHeld=>?_)
    (try simp only[Act.put,sIx,sZ0,sZ1])
    clear hK K hP8 ho8 hg8 HA7 KB7 hA9
    refine lk1 14 rfl (fun K hK=>?_)
    go_simp
    refine hK.out _ _ hHeld (fun hHeld=>?_)
    (try simp only[Act.put,sIx,sZ0,sZ1])
    clear hK K
    refine lkZ rfl (fun K hK=>?_)
    go_simp
    refine hK.out _ _ (NoPanic.normal ?_)
    (try simp only[Act.put,sIx,sZ0,sZ1])
    clear hK K d2 f2 hHeld
    generalize Y8.setCell ⟨w.heap.size+2,3,none⟩ (.slice a8 ln c8)=Y9 at *
    have HA10:Hid (PaAt w Y9 v2 (r.drop 2) lv (.slice none 0 0) (.slice a8 ln c8) [] ((ks++[z]).map Int.ofNat)):=by
     have:=HA9.out
     unfold Hid
     rw[List.map_append]
     exact this
    have HLn:Hid ((ks++[z]).length=k+1):=by unfold Hid;rw[List.length_append,HLk.out];rfl
    clear hln hz HA9
    go_wp2_with fail
    go_roundg (n0-(k+1))
    case measure=>omega
    case rel=>exact⟨k+1,v2,r.drop 2,_,ks++[z],by omega,Nat.le_refl _,by go_num,HA10,HLn,by unfold Hid;rw[List.length_drop];have:=HRl.out;omega,HG1⟩
   ·have HX:=nextNo w.heap.size v r 2 wr w HA.out.b HA.out.r h2
    simp only[Int.cast_ofNat_Int] at HX
    have HNo:Hid (pgOf b=none):=HPn.out (by rw[HG.out,hnk,parsK_no h2];rfl)
    have HBl4:=mkHid HA.out.low
    go_wp2_with (go_at_call 141;refine HX.mono ?_;rintro e y2 ⟨rfl,rfl⟩)
    exact bp_panic (PgPost.no HNo.out HBl4.out)
  ·have hlt':¬(k:Int)<(n0:Int):=by omega
   have HPo:Hid (pgOf b=if 1<ks.length∧zerosL r=true then some ⟨lv,[],ks⟩ else none):=by
    unfold Hid
    have h3:parsK n0 b3=some (ks,r):=by
     rw[HG.out,show n0-k=0 by omega,parsK]
     simp
    exact HP.out _ h3
   have kE:=KeepO.of_below (us:=UB) HA.out.low
   obtain⟨va,vc,hve,_⟩:=HA.out.k.isZ
   rw[List.length_map] at hve
   subst hve
   have HRt:=codRightUp 0 lv (.slice none 0 0) va ks.length vc wr hlv
   obtain⟨rg,ro,rc,rfl,hri⟩:=(HA.out.r.keep kE).isB
   have hrl:=HRl.out
   have HNy:=needYes13 4
   have HNn:=needNo13 4
   unfold pgc at HRt
   have p0:wr.cell? ⟨w.heap.size+2,0,none⟩=some (.int .i64 0):=HA.out.p.cell 0
   have p2:wr.cell? ⟨w.heap.size+2,2,none⟩=some (.slice none 0 0):=HA.out.p.cell 2
   have p3:wr.cell? ⟨w.heap.size+2,3,none⟩=some (.slice va ks.length vc):=HA.out.p.cell 3
   have HTr:Hid (∀W,Below wr.heap.size wr W→Calls Tryz.prog 143 #[.slice (some ⟨rg,ro,none⟩) r.length rc,.string ⟨#[0]⟩] W fun e w'=>(∃a' n' c',e=.returned (.slice a' n' c')∧n'≤r.length∧(n'=0↔zerosL r=true))∧Below W.heap.size W w'):=fun W hW=>codTrim _ _ _ r W (hri.below hW rfl) (by omega)
   clear hri HG kE
   by_cases hR:1<ks.length
   ·rw[decide_eq_true hR] at HRt
    go_wp2_with fail
    refine HRt.mono ?_
    rintro e y2 ⟨rfl,hb2⟩
    have HAy:=mkHid (HA.out.on hb2)
    have c0:y2.cell? ⟨w.heap.size,0,none⟩=some (.slice (some ⟨rg,ro,none⟩) r.length rc):=HAy.out.b.cell 0
    have HTy:=HTr.out y2 hb2
    clear p0 p1 p2 p3 HRt HTr
    go_wp2_with fail
    refine HTy.mono ?_
    rintro e y3 ⟨⟨a3,n3,c3,rfl,hn3,hz3⟩,hb3⟩
    have HAz:=mkHid (HAy.out.on hb3)
    clear HTy c0
    by_cases h30:n3=0
    ·have HPs:Hid (pgOf b=some ⟨lv,[],ks⟩):=by unfold Hid;rw[HPo.out,if_pos ⟨hR,hz3.1 h30⟩]
     have h30':(n3:Int)=0:=by omega
     clear h30 hz3
     have z0:y3.cell? ⟨w.heap.size+2,0,none⟩=some (.int .i64 0):=HAz.out.p.cell 0
     have z1:y3.cell? ⟨w.heap.size+2,1,none⟩=some (.int .i64 (lv:Int)):=HAz.out.p.cell 1
     have z2:y3.cell? ⟨w.heap.size+2,2,none⟩=some (.slice none 0 0):=HAz.out.p.cell 2
     have z3:y3.cell? ⟨w.heap.size+2,3,none⟩=some (.slice va ks.length vc):=HAz.out.p.cell 3
     have r0:=HAz.out.res.cell 0
     have r1:=HAz.out.res.cell 1
     have r2:=HAz.out.res.cell 2
     have r3:=HAz.out.res.cell 3
     simp only[gZ0,gZ1] at r0 r1 r2 r3
     have g0:=HAz.out.res.frozen 0
     have g1:=HAz.out.res.frozen 1
     have g2':=HAz.out.res.frozen 2
     have g3:=HAz.out.res.frozen 3
     go_wp2_with (go_at_call 99;refine(HNy _).mono ?_;rintro x w2 ⟨rfl,hww⟩;rw[hww];clear hww w2)
     refine bodyPost_ret (retPg rfl _ _ (w.heap.size+1) _ _ _ _ rfl ((((HAz.out.res.set 0 _).set 1 _).set 2 _).set 3 _)) rfl ?_
     obtain⟨q1,q2,q3,q4⟩:=HAz.out.done (grown4 y3 (w.heap.size+1) (.int .i64 0) (.int .i64 (lv:Int)) (.slice none 0 0) (.slice va ks.length vc))
     unfold PgPost
     rw[HPs.out]
     exact⟨⟨_,_,[],rfl,q1,q2,rfl,q3⟩,q4⟩
    ·have HNo:Hid (pgOf b=none):=by unfold Hid;rw[HPo.out,if_neg (fun h=>h30 (hz3.2 h.2))]
     have h30':¬(n3:Int)=0:=by omega
     have hbq:((n3:Int)==0)=false:=beq_eq_false_iff_ne.2 h30'
     have HBl4:=mkHid HAz.out.low
     clear h30 hz3
     go_wp2_with (go_at_call 99;refine(HNn _).mono ?_;rintro x w2 ⟨rfl,hww⟩;rw[hww];clear hww w2)
     exact bp_panic (PgPost.no HNo.out HBl4.out)
   ·rw[decide_eq_false hR] at HRt
    have HNo:Hid (pgOf b=none):=by unfold Hid;rw[HPo.out,if_neg (fun h=>hR h.1)]
    go_wp2_with fail
    refine HRt.mono ?_
    rintro e y2 ⟨rfl,hb2⟩
    have HBl4:=mkHid (HA.out.on hb2).low
    clear p0 p1 p2 p3 HRt HTr hR
    go_wp2_with (go_at_call 99;refine(HNn _).mono ?_;rintro x w2 ⟨rfl,hww⟩;rw[hww];clear hww w2)
    exact bp_panic (PgPost.no HNo.out HBl4.out)
end
end Go.Proofs.YtpecobmfabmpkaaGreatDoor
