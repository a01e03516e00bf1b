/- Pd3 Pd4 Pd5 Pd6 -/
import Derived.Test.YtpecobmfabmpkaaGreatDoorM5
import Derived.Great.BuildSlice
set_option maxRecDepth 20000
set_option maxHeartbeats 2000000
namespace Go.Proofs.YtpecobmfabmpkaaGreatDoor
open Go.RowKit
theorem fold_none (l:List (Nat × List UInt8))(st:Nat→List UInt8)(i:Nat)(h:∀m,m<l.length→(nthQ l m).1≠i):l.foldl Pl.put st i=st i:=by
 induction l generalizing st with
 | nil=>rfl
 | cons g l ih =>
  rw[List.foldl_cons,ih _ (fun m hm=>h (m+1) (by simpa using hm))]
  have h0:g.1≠i:=h 0 (by simp)
  simp[Pl.put,h0]
theorem fold_last (l:List (Nat × List UInt8))(st:Nat→List UInt8)(i j:Nat)(hj:j<l.length)(he:(nthQ l j).1=i)(h:∀m,j<m→m<l.length→(nthQ l m).1≠i):l.foldl Pl.put st i=(nthQ l j).2:=by
 induction l generalizing st j with
 | nil=>simp at hj
 | cons g l ih =>
  rw[List.foldl_cons]
  cases j with
  | zero =>
   rw[fold_none l _ i (fun m hm=>h (m+1) (by omega) (by simpa using hm))]
   have h0:g.1=i:=he
   simp[Pl.put,h0,nthQ]
  | succ j=>exact ih _ j (by simpa using hj) he (fun m h1 h2=>h (m+1) (by omega) (by simpa using h2))
theorem range_data {w:World}{g o:Nat}{q:Nat × List UInt8}(h:w.rangeAt g o (wq q)):w.cell? ⟨g,o,none⟩=some (.int .i64 (q.1:Int))∧w.rangeAt g (o+1) (bv q.2):=
 ⟨by have:=h 0 _ rfl;rwa [Nat.add_zero] at this,fun j v hv=>by have:=h (j+1) v hv;rwa [show o+(j+1)=o+1+j by omega] at this⟩
def zSec:List Value:=bv (List.replicate 512 0)
theorem zSec_length:zSec.length=512:=by unfold zSec;rw[bv_length,List.length_replicate]
theorem zeroSec:(Tryz.prog.info? 159).map (·.zero)=some (some (.agg zSec.toArray)):=by kernel_rfl
theorem zvSec (w:World):(zeroValue 159).run Tryz.prog w=.ok (.agg zSec.toArray) w:=by
 have h:=zeroSec
 cases hq:Tryz.prog.info? 159 with
 | none=>rw[hq] at h;cases h
 | some i =>
  rw[hq] at h
  have hz:i.zero=some (.agg zSec.toArray):=by simpa using h
  simp[zeroValue,typeInfo,hq,hz]
attribute [local go_sem ↓] zvSec
theorem bvAll9 (b:List UInt8):(bv b).toArray.all (·.oneCell')=true:=all_oneCell_toArray (bv_one b)
theorem infoSecOf {b:List UInt8}(h:b.length=512):(Tryz.prog.info? 159).map (·.size)=some (bv b).length:=by rw[bv_length,h];exact infoSec
theorem infoSecOf' {b:List UInt8}(h:b.length=512):(Tryz.prog.info? 159).map (·.size)=some (bv b).toArray.size:=by rw[List.size_toArray];exact infoSecOf h
theorem codLatest (X:Nat→Prop)(P base S:Nat)(vC:Value)(arm:Int)(p:Pl)(i:Nat)(w:World)(h:IsPd X w P base S vC arm p)(hf:FewP p)(hi:i<p.n):
  Calls Tryz.prog 95 #[.pointer (some ⟨P,0,none⟩),.int .i64 (i:Int)] w fun e w'=>e=.returned (.agg (bv (p.ca.foldl Pl.put p.st i)).toArray)∧Below w.heap.size w w':=by
 obtain⟨a,cap,rfl,hle,hmx,hnl,hcs⟩:=h.ca.form (fun g hg=>(hf.at_ g hg).2)
 have h1:=h.on ((Below.refl _ w).alloc (Nat.le_refl _) (.cells zSec.toArray 159))
 have HD:Hid (Below w.heap.size w (w.alloc (.cells zSec.toArray 159))):=(Below.refl _ w).alloc (Nat.le_refl _) _
 have HR:Hid (Blk (w.alloc (.cells zSec.toArray 159)) w.heap.size 159 zSec):=Blk.new w _ _
 have HCs:Hid (0<p.ca.length→∃g,a=some ⟨g,0,none⟩∧∀i,i<p.ca.length→(w.alloc (.cells zSec.toArray 159)).rangeAt g (i * 513) (wq (nthQ p.ca i))):=fun hp=>by
  obtain⟨g,e,_,_,hr⟩:=hcs hp
  exact⟨g,e,fun i hi=>World.rangeAt_alloc (hr i hi) _⟩
 have HF:=mkHid hf
 have HHs:=mkHid h1
 have c0:(w.alloc (.cells zSec.toArray 159)).cell? ⟨P,0,none⟩=some (.slice (some ⟨S,0,none⟩) p.n p.n):=h1.blk.cell 0
 have c1:(w.alloc (.cells zSec.toArray 159)).cell? ⟨P,1,none⟩=some (.slice a p.ca.length cap):=h1.blk.cell 1
 have hn4:=hf.n
 have HI:=mkHid hi
 have Hn:=mkHid hf.ca
 obtain⟨n,hn⟩:∃n,n=p.ca.length:=⟨_,rfl⟩
 have HN:Hid (n=p.ca.length):=hn
 rw[←hn] at c1 HCs Hn
 have hn6:n≤1000000:=Hn.out
 obtain⟨N,hN⟩:∃N,N=p.n:=⟨_,rfl⟩
 have HNN:Hid (N=p.n):=hN
 rw[←hN] at c0 hi hn4
 have hiN:(i:Int)<(N:Int):=by omega
 have hi0:(0:Int)≤(i:Int):=by omega
 clear h h1 hf hcs hn hN hi hle hmx hnl Hn
 go_enter Tryz.func95,Tryz.ntmps95
 go_upto_region 1 with fail
 generalize hH:w.heap.size=R at *
 generalize w.alloc (.cells zSec.toArray 159)=w0 at *
 have HW:=mkHid hH
 clear hH
 go_wp2_with fail
 go_loopw [5] (fun kv wr=>∃k:Nat,k≤n∧kv=.int .i64 ((k:Int)-1)∧Hid (∀m,k≤m→m<n→(nthQ p.ca m).1≠i)∧wr=w0) (fun kv _=>(intOf kv+1).toNat)
 case atStart=>exact⟨n,Nat.le_refl _,by go_num,fun m h1 h2=>by omega,rfl⟩
 case round =>
  obtain⟨k,hk,rfl,HM,hwr⟩:=hrel
  subst hwr
  by_cases h0:0<k
  ·obtain⟨j,rfl⟩:∃j,k=j+1:=⟨k-1,by omega⟩
   obtain⟨g,rfl,hr⟩:=HCs.out (by omega)
   obtain⟨d0,d1⟩:=range_data (hr j (by omega))
   have e1:((j+1:Nat):Int)-1=(j:Int):=by omega
   rw[e1]
   have hj0:(0:Int)≤(j:Int):=by omega
   have hjn:(j:Int)<(n:Int):=by omega
   have HjL:Hid (j<p.ca.length):=by unfold Hid;rw[←HN.out];omega
   have HB5:=mkHid (HF.out.at_ _ (nthQ_mem p.ca j HjL.out)).2
   have HD1:=mkHid d1
   clear d1 hr
   by_cases ha:(nthQ p.ca j).1=i
   ·have HV:Hid (p.ca.foldl Pl.put p.st i=(nthQ p.ca j).2):=fold_last p.ca p.st i j HjL.out ha (fun m h1 h2=>HM.out m (by omega) (by rw[HN.out];exact h2))
    have hai:((nthQ p.ca j).1:Int)=(i:Int):=by omega
    rw[hai] at d0
    clear ha hai
    generalize (nthQ p.ca j).2=bb at *
    have HS5:Hid ((Tryz.prog.info? 159).map (·.size)=some (bv bb).length):=infoSecOf HB5.out
    have HS6:Hid ((Tryz.prog.info? 159).map (·.size)=some (bv bb).toArray.size):=infoSecOf' HB5.out
    have HS7:Hid (zSec.toArray.size=(bv bb).toArray.size):=by unfold Hid;rw[List.size_toArray,List.size_toArray,zSec_length,bv_length,HB5.out]
    go_wp2_with (first|(refine wpList_load_mid rfl 159 _ rfl g (j * 513+1) rfl (bv bb) _ HD1.out Tryz.underlying159 rfl HS5.out ?_)|(refine wpList_store_row rfl 159 _ _ rfl R (bv bb).toArray rfl rfl _ _ HR.out HS6.out HS7.out (bvAll9 bb) ?_))
    refine bodyPost_ret (v:=.agg (bv bb).toArray) ?_ rfl ⟨by rw[HV.out],by rw[HW.out];exact bel_row HD.out (Nat.le_refl _) _⟩
    exact results_cell_row Tryz.results95 _ _ _ _ _ _ _ rfl (HR.out.row (bv bb)) Tryz.underlying159 rfl HS6.out
   ·have hai':¬((nthQ p.ca j).1:Int)=(i:Int):=by omega
    have HM2:Hid (∀m,j≤m→m<n→(nthQ p.ca m).1≠i):=fun m h1 h2=>by
     by_cases e:m=j
     ·subst e;exact ha
     ·exact HM.out m (by omega) h2
    clear ha HM HD1
    generalize (nthQ p.ca j).1=at2 at *
    go_wp2
    go_roundw
    case rel=>exact⟨j,by omega,by go_num,HM2,by first|rfl|trivial⟩
    case measure=>first|(simp[intOf];done)|(simp[intOf];omega)
  ·have hk0:k=0:=by omega
   subst hk0
   have HV:Hid (p.ca.foldl Pl.put p.st i=p.st i):=fold_none p.ca p.st i (fun m hm=>HM.out m (Nat.zero_le _) (by rw[HN.out];exact hm))
   have hneg:((0:Nat):Int)-1 = -1:=by omega
   rw[hneg]
   have HB5:=mkHid (HHs.out.len i HI.out)
   have HD1:=mkHid (HHs.out.st.sector i HI.out HB5.out)
   generalize p.st i=bb at *
   have HS5:Hid ((Tryz.prog.info? 159).map (·.size)=some (bv bb).length):=infoSecOf HB5.out
   have HS6:Hid ((Tryz.prog.info? 159).map (·.size)=some (bv bb).toArray.size):=infoSecOf' HB5.out
   have HS7:Hid (zSec.toArray.size=(bv bb).toArray.size):=by unfold Hid;rw[List.size_toArray,List.size_toArray,zSec_length,bv_length,HB5.out]
   clear HM
   go_wp2_with (first|(refine wpList_load_mid rfl 159 _ rfl S (i * 512) rfl (bv bb) _ HD1.out Tryz.underlying159 rfl HS5.out ?_)|(refine wpList_store_row rfl 159 _ _ rfl R (bv bb).toArray rfl rfl _ _ HR.out HS6.out HS7.out (bvAll9 bb) ?_))
   refine bodyPost_ret (v:=.agg (bv bb).toArray) ?_ rfl ⟨by rw[HV.out],by rw[HW.out];exact bel_row HD.out (Nat.le_refl _) _⟩
   exact results_cell_row Tryz.results95 _ _ _ _ _ _ _ rfl (HR.out.row (bv bb)) Tryz.underlying159 rfl HS6.out
end Go.Proofs.YtpecobmfabmpkaaGreatDoor
namespace Go.Proofs.YtpecobmfabmpkaaGreatDoor
open Go.RowKit
theorem isB_new {w:World}{g:Nat}{b:List UInt8}(h:Blk w g 5 (bv b))(hb:b.length=512):IsB w (some ⟨g,0,none⟩) 512 512 b :=
 ⟨hb,Nat.le_refl _,by decide,fun e=>(by cases e),fun _=>⟨g,0,rfl,fun i hi=>by rw[h.cell,Nat.zero_add,bv_at b i (by omega)]⟩⟩
theorem fold_len512 (l:List (Nat × List UInt8))(st:Nat→List UInt8)(n i:Nat)(hi:i<n)(hl:∀g∈l,g.2.length=512)(hs:∀i,i<n→(st i).length=512):(l.foldl Pl.put st i).length=512:=by
 induction l generalizing st with
 | nil=>exact hs i hi
 | cons g l ih =>
  rw[List.foldl_cons]
  refine ih _ (fun g hg=>hl g (by simp[hg])) (fun j hj=>?_)
  unfold Pl.put
  split
  ·exact hl g (by simp)
  ·exact hs j hj
theorem ret_v4 {a:Option Addr}{n m c:Nat}{e e':Int}(h:n=m)(h2:e=e'):Ending.returned (.tuple #[.slice a n c,.int .i64 e])=.returned (.tuple #[.slice a m c,.int .i64 e']):=by rw[h,h2]
theorem codRead (X:Nat→Prop)(P base:Nat)(p:Pl)(i:Int)(w:World)(h:IsD X w P base p)(hf:FewP p):
  Calls Tryz.prog 62 #[.pointer (some ⟨P,0,none⟩),.int .i64 i] w fun e w'=>(∃a c,e=.returned (.tuple #[.slice a (p.rdB i).length c,.int .i64 (p.rdE i)])∧IsB w' a (p.rdB i).length c (p.rdB i)∧∀A,a=some A→w.heap.size≤A.block∧A.block<w'.heap.size)∧Below w.heap.size w w':=by
 obtain⟨S,vC,arm,h⟩:=h
 have HR:=codReach P S p.n p.off i w (h.blk.cell 0) (h.blk.cell 3)
 have HH:=mkHid h
 have HF:=mkHid hf
 clear h hf
 cases hoff:p.off with
 | true =>
  have HE:Hid (p.rdE i=51∧p.rdB i=[]):=by unfold Hid Pl.rdE Pl.rdB;simp[hoff]
  rw[hoff,if_pos rfl] at HR
  clear hoff
  go_enter Tryz.func62,Tryz.ntmps62
  go_wp2_with fail
  refine HR.mono ?_
  rintro e w1 ⟨rfl,rfl⟩
  go_wp2_with fail
  go_ret2
  refine⟨⟨none,0,ret_v4 (by rw[HE.out.2];rfl) HE.out.1.symm,?_,fun A e=>by cases e⟩,Below.refl _ _⟩
  rw[HE.out.2];exact isB_none _
 | false =>
  rw[hoff,if_neg (by simp)] at HR
  cases hin:inR p.n i with
  | false =>
   have HE:Hid (p.rdE i=50∧p.rdB i=[]):=by unfold Hid Pl.rdE Pl.rdB Pl.stE;simp[hoff,hin]
   rw[hin,if_neg (by simp)] at HR
   clear hoff hin
   go_enter Tryz.func62,Tryz.ntmps62
   go_wp2_with fail
   refine HR.mono ?_
   rintro e w1 ⟨rfl,rfl⟩
   go_wp2_with fail
   go_ret2
   refine⟨⟨none,0,ret_v4 (by rw[HE.out.2];rfl) HE.out.1.symm,?_,fun A e=>by cases e⟩,Below.refl _ _⟩
   rw[HE.out.2];exact isB_none _
  | true =>
   rw[hin,if_pos rfl] at HR
   have hir:0≤i∧i<p.n:=by simpa [inR] using hin
   obtain⟨k,rfl⟩:∃k:Nat,i=(k:Int):=⟨i.toNat,by omega⟩
   have hk:k<p.n:=by omega
   have HE:Hid (p.rdE (k:Int)=0∧p.rdB (k:Int)=p.ca.foldl Pl.put p.st k):=by unfold Hid Pl.rdE Pl.rdB Pl.stE;simp[hoff,hin]
   have HL:Hid ((p.ca.foldl Pl.put p.st k).length=512):=fold_len512 _ _ p.n k hk (fun g hg=>(HF.out.at_ g hg).2) HH.out.len
   have HLa:=codLatest X P base S vC arm p k w HH.out HF.out hk
   generalize p.ca.foldl Pl.put p.st k=bb at *
   clear hoff hin hir hk
   go_enter Tryz.func62,Tryz.ntmps62
   go_wp2_with fail
   refine HR.mono ?_
   rintro e w1 ⟨rfl,hw1⟩
   obtain rfl:=hw1.symm
   go_wp2_with fail
   refine HLa.mono ?_
   rintro e w2 ⟨rfl,hb2⟩
   have HB2:=mkHid hb2
   clear hb2
   go_wp2_with fail
   refine(codBytes bb w2 HL.out).mono ?_
   rintro e w3 ⟨g,rfl,hg3,hB3,hb3⟩
   have HB3:=mkHid (And.intro hg3 (And.intro hB3 hb3))
   clear hg3 hB3 hb3
   go_wp2_with fail
   go_ret2
   refine⟨⟨some ⟨g,0,none⟩,512,ret_v4 (by rw[HE.out.2,HL.out]) HE.out.1.symm,?_,fun A e=>?_⟩,HB2.out.trans (HB3.out.2.2.mono HB2.out.size)⟩
   ·rw[HE.out.2,HL.out];exact isB_new HB3.out.2.1 HL.out
   ·obtain rfl:=Option.some.inj e
    exact⟨Nat.le_trans HB2.out.size HB3.out.1,HB3.out.2.1.lt⟩
theorem infoSec3:(Tryz.prog.info? 159).map (fun i=>(i.zero,i.size,i.bytes))=some (some (.agg zSec.toArray),512,512):=by kernel_rfl
theorem zSec_at (k:Nat)(h:k<512):zSec[k]?=some (.int .u8 0):=by
  unfold zSec
  rw[bv_at _ k (by rw[List.length_replicate];exact h)]
  have:nth (List.replicate 512 0) k=0:=by rw[nth_eq _ k (by rw[List.length_replicate];exact h),List.getElem_replicate]
  rw[this];rfl
theorem nth_zero512 (k:Nat)(h:k<512):nth zero512 k=0:=by
  unfold zero512
  rw[nth_eq _ k (by rw[List.length_replicate];exact h),List.getElem_replicate]
theorem made_sectors (n:Nat):(madeCells (Value.agg zSec.toArray).cells (n * 512)).toList=stc n (fun _=>zero512):=by
  apply List.ext_getElem?
  intro k
  have hz:zSec.toArray.size=512:=by rw[List.size_toArray,zSec_length]
  by_cases hk:k<n * 512
  · rw[stc_at _ _ k hk,nth_zero512 _ (Nat.mod_lt _ (by omega))]
    have h1:=zSec_at (k%512) (Nat.mod_lt _ (by omega))
    simp[madeCells,Value.cells,hk,hz,h1]
  · have h3:(stc n (fun _=>zero512))[k]?=none:=List.getElem?_eq_none (by rw[stc_length];exact Nat.le_of_not_lt hk)
    rw[h3,List.getElem?_eq_none]
    rw[Array.length_toList,size_madeCells];exact Nat.le_of_not_lt hk
theorem make_sectors {ops:Array Oper}{rest:List Oper}{o:Oper}{a:Act}{Q:Exit→Act→World→Prop}(w:World)
    (hg:o.guard=none) (l c:Operand) (hop:o.op=Op.makeSlice 97 l c)
    (n:Nat) (hl:a.eval l=.int .i64 (n:Int)) (hc:a.eval c=.int .i64 (n:Int)) (hn:n≤4096)
    (hK:∀w',Blk w' w.heap.size 159 (stc n (fun _=>zero512))→w.grownBy w' none→wpList Tryz.prog ops Q rest (a.put o.dst (.slice (some ⟨w.heap.size,0,none⟩) n n)) w'):
    wpList Tryz.prog ops Q (o::rest) a w:=by
  obtain⟨i0,hi,hz0,hz1,hz2⟩:=info_parts infoSec3
  refine wpList_make_full w hg l c 97 hop w.heap.size 159 i0 (.agg zSec.toArray) 512 Tryz.underlying97 hi hz0 hz1 .i64 .i64 n n n hl hc rfl rfl (by rw[hz2];omega) (by unfold maxLen;omega) (Nat.le_refl _) (fun w' h g=>hK w' ?_ g)
  rw[made_sectors] at h
  rcases h.2 with⟨h,_⟩|⟨g,cap,cur,e,_,hgb,_,_,hsz,ht⟩
  · cases h
  · injection e with e1 _ e3
    have e4:w.heap.size=g:=by injection e1 with e1;injection e1 with e1
    subst e4
    unfold Blk
    rw[hgb,←ht,List.take_of_length_le (by rw[Array.length_toList,hsz,←e3];exact Nat.le_refl _)]
theorem codNew (X:Nat→Prop)(z:Int)(w:World)(base:Nat)(hb:base≤w.heap.size)(hX:∀k,X k→k<w.heap.size):
    Calls Tryz.prog 34 #[.int .i64 z] w fun e w'=>(if 64≤z∧z≤4096 then ∃P,e=.returned (.tuple #[.pointer (some ⟨P,0,none⟩),.int .i64 0])∧IsD X w' P base (Pl.new z.toNat) else e=.returned (.tuple #[.pointer none,.int .i64 1]))∧Below w.heap.size w w':=by
  by_cases h1:z<64
  · have d1:decide (z<64)=true:=decide_eq_true h1
    have HN:Hid (¬(64≤z∧z≤4096)):=fun h=>by omega
    clear hX hb
    go_enter Tryz.func34,Tryz.ntmps34
    go_wp2
    go_ret2
    exact⟨by first|rfl|(rw[if_neg HN.out];rfl),Below.refl _ _⟩
  · have d1:decide (z<64)=false:=decide_eq_false h1
    by_cases h2:4096<z
    · have d2:decide (4096<z)=true:=decide_eq_true h2
      have HN:Hid (¬(64≤z∧z≤4096)):=fun h=>by omega
      clear hX hb
      go_enter Tryz.func34,Tryz.ntmps34
      go_wp2
      go_ret2
      exact⟨by first|rfl|(rw[if_neg HN.out];rfl),Below.refl _ _⟩
    · have d2:decide (4096<z)=false:=decide_eq_false h2
      have HN:Hid (64≤z∧z≤4096):=⟨by omega,by omega⟩
      obtain⟨n,rfl⟩:∃n:Nat,z=(n:Int):=⟨z.toNat,by omega⟩
      have HX:=mkHid (And.intro hb hX)
      have HM:Hid (n≤4096):=by unfold Hid;omega
      clear hX hb
      go_enter Tryz.func34,Tryz.ntmps34
      go_wp2_with (at_make;refine make_sectors w rfl _ _ rfl n rfl rfl HM.out ?_;intro w1 hB1 hg1;have HB1:=mkHid hB1;have HG1:=mkHid hg1;clear hB1 hg1)
      go_ret2
      have hbel:Below w.heap.size w w1:=(Below.refl _ w).grown HG1.out (Nat.le_refl _) (fun k e=>by cases e)
      refine⟨?_,hbel.alloc hbel.size _⟩
      (try rw[if_pos HN.out])
      refine⟨_,rfl,w.heap.size,.slice none 0 0,-1,?_⟩
      have hlt:=HB1.out.lt
      exact { blk:=Blk.newAt w1 _ _ _ _ rfl rfl,low:=Nat.le_trans HX.out.1 hbel.size,st:=HB1.out.alloc _,lowS:=HX.out.1,len:=fun i _=>by show zero512.length=512;unfold zero512;rw[List.length_replicate]
              ca:=OwnC.nil _ _,armd:=rfl,lo:=by omega,hi:=by omega,pos:=by show 0<n;have:=HN.out.1;omega
              xP:=fun hx=>by have:=HX.out.2 _ hx;omega,xS:=fun hx=>by have:=HX.out.2 _ hx;omega,xC:=fun k e=>by cases e
              xlt:=fun k hx=>Nat.lt_of_lt_of_le (HX.out.2 _ hx) (Nat.le_trans hbel.size (World.grownBy_alloc w1 _ none).size) }
def zWr:List Value:=.int .i64 0::zSec
theorem zWr_length:zWr.length=513:=by unfold zWr;rw[List.length_cons,zSec_length]
theorem infoWr3:(Tryz.prog.info? 200).map (fun i=>(i.zero,i.size,i.bytes))=some (some (.agg zWr.toArray),513,520):=by kernel_rfl
theorem infoWr:(Tryz.prog.info? 200).map (·.size)=some 513:=by kernel_rfl
theorem zvWr (w:World):(zeroValue 200).run Tryz.prog w=.ok (.agg zWr.toArray) w:=by
  obtain⟨i0,hi,hz0,hz1,hz2⟩:=info_parts infoWr3
  simp[zeroValue,typeInfo,hi,hz0]
theorem builtWr (i:Int):Tryz.prog.built 200 [(0,.int .i64 i)]=some (.int .i64 i::zSec).toArray:=by kernel_rfl
theorem list_buildWr {ops:Array Oper}{rest:List Oper}{o:Oper}{a:Act}{w:World}{Q:Exit→Act→World→Prop}(hgd:o.guard=none)(x:Operand)(ho:o.op=.build 200 #[(0,x)])
    (i:Int) (hv:a.eval x=.int .i64 i)
    (h:wpList Tryz.prog ops Q rest (a.put o.dst (.agg (.int .i64 i::zSec).toArray)) w):wpList Tryz.prog ops Q (o::rest) a w:=by
  have hq:((#[(0,x)]:Array (Nat × Operand)).map fun (i,x)=>(i,a.eval x)).toList=[(0,.int .i64 i)]:=by
    simp only[List.map_toArray,List.map_cons,List.map_nil,hv]
  exact wpList_plain hgd fun _ hK=>wp_build 200 _ ho (by rw[hq,builtWr];rfl) (by rw[hq,builtWr];exact hK _ _ h)
theorem wz_all (i:Int):(Value.int .i64 i::zSec).toArray.all (·.oneCell')=true:=all_oneCell_toArray (fun v hv=>by
  rcases List.mem_cons.1 hv with rfl|hv
  · rfl
  · exact bv_one _ v hv)
theorem wz_size (i:Int):(Value.int .i64 i::zSec).toArray.size=513:=by rw[List.size_toArray,List.length_cons,zSec_length]
theorem putL_wr (i:Nat)(b:List UInt8)(h:b.length=512):putL (.int .i64 (i:Int):: zSec) 1 (bv b)=wq (i,b):=by
  apply List.ext_getElem?
  intro k
  have hzl:=zSec_length
  rw[putL_at _ _ _ _ (by rw[bv_length,List.length_cons];omega),bv_length,h]
  cases k with
  | zero=>rw[if_neg (by omega)];rfl
  | succ k =>
    by_cases hk:k<512
    · rw[if_pos (by omega),Nat.add_sub_cancel];rfl
    · have e1:(Value.int .i64 (i:Int):: zSec)[k+1]?=none:=List.getElem?_eq_none (by rw[List.length_cons];omega)
      have e2:(wq (i,b))[k+1]?=none:=List.getElem?_eq_none (by rw[wq_length h];omega)
      rw[if_neg (by omega),e1,e2]
theorem fillWr (z cs:Array Value)(hz:z.size=513)(hc:cs.size=513):Instr.fill (fun i=>some (i * 513,513)) z [(0,.agg cs)]=some cs:=by
  have h:=Great.fill_whole (s:=513) (by omega) [.agg cs] z (fun v hv=>by rw[List.mem_singleton.1 hv];exact hc) (by rw[hz,List.length_singleton,Nat.one_mul])
  have e:([Value.agg cs].flatMap fun v=>v.cells.toList).toArray=cs:=by simp[Value.cells]
  rw[e] at h
  exact h
theorem step_buildWr {ops:Array Oper}{o:Oper}{a:Act}{K:Act→World→Prop}{Q:Exit→Act→World→Prop}{E:Prop}(w:World)(hgd:o.guard=none)(x:Operand)(ho:o.op=.buildSlice 98 1 #[(0,x)])
    (cs:List Value) (hc:cs.length=513) (hx:a.eval x=.agg cs.toArray) (d:Tmp) (hd:o.dst=some d)
    (h:K (a.put (some d) (.slice (some ⟨w.heap.size,0,none⟩) 1 1)) (w.alloc (.cells cs.toArray 200))):
    if Region.wanted o (yielded ops a.tmps)=true then Oper.wp Tryz.prog o a w K Q else E:=by
  have hw:Region.wanted o (yielded ops a.tmps)=true:=by simp[Region.wanted,hgd]
  rw[if_pos hw]
  obtain⟨i0,hi,hz0,hz1,hz2⟩:=info_parts infoWr3
  have hq:((#[(0,x)]:Array (Nat × Operand)).map fun (i,x)=>(i,a.eval x)).toList=[(0,.agg cs.toArray)]:=by
    simp only[List.map_toArray,List.map_cons,List.map_nil,hx]
  refine wp_buildSlice 98 200 1 _ ho cs.toArray i0 (.agg zWr.toArray) Tryz.underlying98 hi hz0 (by rw[hz1];decide) (by rw[hz1];decide) ?_ (by rw[hd];exact h)
  rw[hq,hz1]
  exact fillWr _ _ (by simp) (by rw[List.size_toArray,hc])
theorem step_appC {ops:Array Oper}{o:Oper}{a:Act}{K:Act→World→Prop}{Q:Exit→Act→World→Prop}{E:Prop}(w:World)(hgd:o.guard=none)(s x:Operand)
    (ho:o.op=.call { callee:=.builtin .append,args:=#[s,x],argTypes:=#[98,98] }) (base:Nat)
    (v:Value) (l:List (Nat × List UInt8)) (hs:a.eval s=v) (hown:OwnC w base v l) (B:Nat) (g:Nat × List UInt8) (h5:g.2.length=512) (hx:a.eval x=.slice (some ⟨B,0,none⟩) 1 1)
    (hb:Blk w B 200 (wq g)) (hn:l.length≤1000000) (hbase:base≤w.heap.size) (d:Tmp) (hd:o.dst=some d)
    (h:∀k cap w',OwnC w' base (.slice (some ⟨k,0,none⟩) (l.length+1) cap) (l++[g])→w.grownBy w' v.ownBlock→(v.ownBlock=some k∨k=w.heap.size)→K (a.put (some d) (.slice (some ⟨k,0,none⟩) (l.length+1) cap)) w'):
    if Region.wanted o (yielded ops a.tmps)=true then Oper.wp Tryz.prog o a w K Q else E:=by
  obtain⟨i0,hi,hz0,hz1,hz2⟩:=info_parts infoWr3
  refine step_append_lies w hgd s x 98 ho base 200 i0 (.agg zWr.toArray) 513 520 Tryz.underlying98 hi hz0 hz1 hz2 (by show zWr.toArray.size=513;rw[List.size_toArray,zWr_length]) (by omega) v l.length (wqs l) hs hown ⟨B,0,none⟩ 1 1 (wq g) hx (by rw[wq_length h5])
    (fun j u hu=>World.news_of_block hb j u (by simpa using hu)) (wq_one g) (by omega) (by unfold maxLen;omega) (by omega) hbase w.heap.size rfl ?_
  intro k cap w' h1 h2 h3 _
  rw[hd]
  refine h k cap w' ?_ h2 h3
  unfold OwnC
  have e:wqs (l++[g])=wqs l++wq g:=by rw[wqs_append];simp[wqs]
  rw[e,List.length_append];exact h1
theorem gr_cell (w:World)(P j:Nat)(u:Value):w.grownBy (w.setCell ⟨P,j,none⟩ u) (some P):=⟨rfl,rfl,rfl,by simp[World.setCell],fun k _ hk=>Below.heap_setCell _ _ _ _ (fun e=>hk (by rw[e]))⟩
theorem gr_drewCell (w:World)(P j:Nat)(u:Value):w.grownBy (w.drew.setCell ⟨P,j,none⟩ u) (some P):=⟨rfl,rfl,rfl,by simp[World.setCell],fun k _ hk=>(Below.heap_setCell _ _ _ _ (fun e=>hk (by rw[e]))).trans rfl⟩
theorem KeepB.row {X:Nat→Prop}{V w':World}{base:Nat}{v:Value}{l:List (Nat × List UInt8)}(ho:OwnC V base v l)(hg:V.grownBy w' v.ownBlock)(hx:∀k,v.ownBlock=some k→¬X k):KeepB X V w':=by
  rcases ho.2 with⟨rfl,_⟩|⟨q,cap,cur,rfl,_⟩
  · exact KeepB.none hg
  · exact KeepB.one hg (hx q rfl)
theorem IsPd.push {X:Nat→Prop}{V w':World}{P base S:Nat}{vC:Value}{arm:Int}{p:Pl}(h:IsPd X V P base S vC arm p)(hg:V.grownBy w' vC.ownBlock){v:Value}{g:Nat × List UInt8}(ho:OwnC w' base v (p.ca++[g]))(hat:v.ownBlock=vC.ownBlock∨v.ownBlock=some V.heap.size):
    IsPd X (w'.setCell ⟨P,1,none⟩ v) P base S v arm { p with ca:=p.ca++[g] }∧KeepB X V (w'.setCell ⟨P,1,none⟩ v)∧Below base V (w'.setCell ⟨P,1,none⟩ v)∧w'.cell? ⟨P,1,none⟩=some vC∧w'.frozen? ⟨P,1,none⟩=false:=by
  have k1:KeepB X V w':=KeepB.row h.ca hg h.xC
  have b1:Below base V w':=(Below.refl _ V).grown hg (by have:=h.low;have:=h.blk.lt;omega) (fun k hk=>(World.ownsRow.lt h.ca k hk).1)
  have hP:Blk w' P 109 (pdc S vC arm p):=(hg.block P h.blk.lt (fun e=>by
    rcases own_ne h.blk h.ca (by decide) with h2|h2
    · rw[h2] at e;cases e
    · exact h2 e.symm)).trans h.blk
  have hS:Blk w' S 159 (stc p.n p.st):=(hg.block S h.st.lt (fun e=>by
    rcases own_ne h.st h.ca (by decide) with h2|h2
    · rw[h2] at e;cases e
    · exact h2 e.symm)).trans h.st
  have hg2:=gr_cell w' P 1 v
  refine⟨?_,k1.trans (KeepB.one hg2 h.xP),b1.trans (bel_one hg2 h.low hP.lt),hP.cell 1,hP.frozen 1⟩
  exact { h with
    blk:=hP.set 1 v
    st:=(hg2.block S hS.lt (fun e=>blk_ne hP hS (by decide) (Option.some.inj e).symm)).trans hS
    ca:=World.ownsRow.kept ho hg2 (own_ne hP ho (by decide))
    xC:=fun k hk hx=>by
      rcases hat with e|e
      · exact h.xC k (by rw[←e];exact hk) hx
      · have:=h.xlt k hx
        rw[e] at hk
        have:=Option.some.inj hk
        omega
    xlt:=fun k hx=>Nat.lt_of_lt_of_le (h.xlt k hx) (Nat.le_trans hg.size hg2.size) }
theorem armOf_less {arm:Int}{a:Option Nat}(h:a=armOf arm)(h0:0<arm):a.map (· - 1)=armOf (arm-1):=by
  subst h
  unfold armOf
  rw[if_pos (by omega),if_pos (by omega)]
  simp only[Option.map_some]
  congr 1
  omega
theorem armOf_neg {arm:Int}{a:Option Nat}(h:a=armOf arm)(h0:arm<0):a.map (· - 1)=armOf arm:=by
  subst h
  unfold armOf
  rw[if_neg (by omega)]
  rfl
end Go.Proofs.YtpecobmfabmpkaaGreatDoor
