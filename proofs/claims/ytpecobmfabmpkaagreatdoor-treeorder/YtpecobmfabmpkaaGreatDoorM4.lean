/- Pd7 Pd8 Pd9 PdA Dk8 Dk9 JsK Dk10 Dk11 Dk12 Dk13 Js2 -/
import Derived.Test.YtpecobmfabmpkaaGreatDoorM3
set_option maxRecDepth 20000
set_option maxHeartbeats 4000000
namespace Go.Proofs.YtpecobmfabmpkaaGreatDoor
section
open Go.RowKit
attribute [local go_sem ↓] zvWr
theorem Blk.whole {w:World}{R t:Nat}{cs:List Value}(h:Blk w R t cs):w.rangeAt R 0 cs:=fun j v hv=>by rw[h.cell,Nat.zero_add];exact hv
theorem codWrite (X:Nat→Prop)(w:World)(P base:Nat)(p:Pl)(i:Int)(ba:Option Addr)(bc:Nat)(b:List UInt8)(h:IsD X w P base p)(hf:FewP p)(hB:∀W,KeepB X w W→Below base w W→IsB W ba b.length bc b):
  Calls Tryz.prog 92 #[.pointer (some ⟨P,0,none⟩),.int .i64 i,.slice ba b.length bc] w fun e w'=>e=.returned (.int .i64 (p.wrE i b))∧IsD X w' P base (p.write i b)∧KeepB X w w'∧Below base w w':=by
 have HD:=mkHid h
 obtain⟨S,vC,arm,h⟩:=h
 have HR:=codReach P S p.n p.off i w (h.blk.cell 0) (h.blk.cell 3)
 have HH:=mkHid h
 have HF:=mkHid hf
 have HBy:=mkHid hB
 clear h hf hB
 cases hoff:p.off with
 | true =>
  have HE:Hid (p.wrE i b=51∧p.write i b=p):=by unfold Hid Pl.wrE Pl.write;simp[hoff]
  rw[hoff,if_pos rfl] at HR
  clear hoff
  go_enter Tryz.func92,Tryz.ntmps92
  go_wp2_with fail
  refine HR.mono ?_
  rintro e w1 ⟨rfl,rfl⟩
  go_wp2_with fail
  go_ret
  exact⟨by rw[HE.out.1];rfl,by rw[HE.out.2];exact HD.out,KeepB.refl _ _,Below.refl _ _⟩
 | false =>
 rw[hoff,if_neg (by simp)] at HR
 cases hin:inR p.n i with
 | false =>
  have HE:Hid (p.wrE i b=50∧p.write i b=p):=by unfold Hid Pl.wrE Pl.write;simp[hoff,hin]
  rw[hin,if_neg (by simp)] at HR
  clear hoff hin
  go_enter Tryz.func92,Tryz.ntmps92
  go_wp2_with fail
  refine HR.mono ?_
  rintro e w1 ⟨rfl,rfl⟩
  go_wp2_with fail
  go_ret
  exact⟨by rw[HE.out.1];rfl,by rw[HE.out.2];exact HD.out,KeepB.refl _ _,Below.refl _ _⟩
 | true =>
 rw[hin,if_pos rfl] at HR
 by_cases h512:b.length=512
 ·have hbz:(b.length:Int)=512:=by omega
  have c2:w.cell? ⟨P,2,none⟩=some (.int .i64 arm):=HH.out.blk.cell 2
  have f2:=HH.out.blk.frozen 2
  by_cases ha:arm=0
  ·have harm:p.arm=some 0:=by rw[HH.out.armd,ha];rfl
   have HE:Hid (p.wrE i b=51∧p.write i b={ p with off:=true }):=by unfold Hid Pl.wrE Pl.write;simp[hoff,hin,h512,harm]
   rw[ha] at c2
   have HSt:=atStoreAt P 3 true _ w (HH.out.blk.cell 3) (HH.out.blk.frozen 3)
   clear hoff hin harm
   go_enter Tryz.func92,Tryz.ntmps92
   go_wp2_with fail
   refine HR.mono ?_
   rintro e w1 ⟨rfl,hw1⟩
   obtain rfl:=hw1.symm
   go_wp2_with fail
   refine HSt.mono ?_
   rintro e w2 ⟨rfl,hw2⟩
   have hg:=gr_drewCell w P 3 (.int .u32 (flag true))
   rw[←hw2] at hg
   have HI2:Hid (IsPd X w2 P base S vC arm { p with off:=true }):=HH.out.turn hg (by rw[hw2];exact Blk.set (w:=w.drew) HH.out.blk 3 _) rfl rfl HH.out.ca HH.out.xC HH.out.armd HH.out.lo HH.out.hi
   have HK2:Hid (KeepB X w w2):=KeepB.one hg HH.out.xP
   have HB2:Hid (Below base w w2):=bel_one hg HH.out.low HH.out.blk.lt
   clear hg hw2 HSt
   go_wp2_with fail
   go_ret
   exact⟨by rw[HE.out.1];rfl,by rw[HE.out.2];exact⟨S,vC,arm,HI2.out⟩,HK2.out,HB2.out⟩
  ·have harm:¬p.arm=some 0:=by
    rw[HH.out.armd]
    unfold armOf
    split
    ·intro e
     have:=Option.some.inj e
     omega
    ·intro e;cases e
   have HE:Hid (p.wrE i b=0):=by unfold Hid Pl.wrE;simp[hoff,hin,h512,harm]
   have HWr:Hid (p.write i b={ p with arm:=p.arm.map (· - 1),wr:=p.wr+1,ca:=p.ca++[(i.toNat,b)] }):=by unfold Hid Pl.write;simp[hoff,hin,h512,harm]
   have hir:0≤i∧i<p.n:=by simpa [inR] using hin
   obtain⟨iN,rfl⟩:∃k:Nat,i=(k:Int):=⟨i.toNat,by omega⟩
   rw[Int.toNat_natCast] at HWr
   obtain⟨ca,cc,hvC,_⟩:=HH.out.ca.form (fun g hg=>(HF.out.at_ g hg).2)
   subst hvC
   have H512:=mkHid h512
   have HFn:=mkHid HF.out.ca
   have HFw:=mkHid HF.out.wr
   have HNe:Hid (∀R,w.heap.size≤R→(Value.slice ca p.ca.length cc).ownBlock≠some R):=fun R hR e=>by
    have:=(World.ownsRow.lt HH.out.ca R e).2
    omega
   obtain⟨n,hn⟩:∃n,n=p.ca.length:=⟨_,rfl⟩
   have HN:=mkHid hn
   rw[←hn] at HH HFn HNe
   have haz:¬(arm:Int)=0:=ha
   rw[h512]
   clear hoff hin harm hir hn h512 hbz
   rcases Int.lt_or_gt_of_ne ha with hlt|hgt
   ·have hd:decide (0<arm)=false:=decide_eq_false (by omega)
    have hnl:¬0<arm:=by omega
    obtain⟨Y,hY⟩:∃Y,Y=w:=⟨_,rfl⟩
    obtain⟨arm1,harm1⟩:∃a1,a1=arm:=⟨_,rfl⟩
    have HY:Hid (IsPd X Y P base S (.slice ca n cc) arm1 { p with arm:=p.arm.map (· - 1) }):=by
     rw[hY,harm1]
     exact { HH.out with armd:=armOf_neg HH.out.armd hlt }
    have KY:Hid (KeepB X w Y):=by rw[hY];exact KeepB.refl _ w
    have BY:Hid (Below base w Y):=by rw[hY];exact Below.refl _ w
    have HNe:Hid (∀R,Y.heap.size≤R→(Value.slice ca n cc).ownBlock≠some R):=by rw[hY];exact HNe.out
    go_enter Tryz.func92,Tryz.ntmps92
    go_wp2_with fail
    refine HR.mono ?_
    rintro e w1 ⟨rfl,hw1⟩
    obtain rfl:=hw1.symm
    go_upto_region 11 with fail
    rw[←hY]
    clear hY harm1 c2 f2 ha haz hlt hd hnl HR
    ·skip
     have HBn:Hid (Blk (Y.alloc (.cells zWr.toArray 200)) Y.heap.size 200 zWr):=Blk.new Y _ _
     have hzz:Hid (zWr.toArray.size=(Value.int .i64 (iN:Int):: zSec).toArray.size):=by unfold Hid;rw[wz_size,List.size_toArray,zWr_length]
     have HIW:Hid ((Tryz.prog.info? 200).map (·.size)=some (Value.int .i64 (iN:Int):: zSec).toArray.size):=by unfold Hid;rw[wz_size];exact infoWr
     have HDZ:Hid (Below Y.heap.size Y ((Y.alloc (.cells zWr.toArray 200)).setRow Y.heap.size (Value.int .i64 (iN:Int):: zSec).toArray)):=bel_row ((Below.refl _ Y).alloc (Nat.le_refl _) _) (Nat.le_refl _) _
     have HBZ:Hid (Blk ((Y.alloc (.cells zWr.toArray 200)).setRow Y.heap.size (Value.int .i64 (iN:Int):: zSec).toArray) Y.heap.size 200 (Value.int .i64 (iN:Int):: zSec)):=HBn.out.row _
     go_upto_region 12 with(first|(refine list_buildWr rfl _ rfl (iN:Int) rfl ?_)|(refine wpList_store_row rfl 200 _ _ rfl Y.heap.size (Value.int .i64 (iN:Int):: zSec).toArray rfl rfl _ _ HBn.out HIW.out hzz.out (wz_all _) ?_))
     clear HBn hzz HIW
     generalize (Y.alloc (.cells zWr.toArray 200)).setRow Y.heap.size (Value.int .i64 (iN:Int):: zSec).toArray=Z at *
     obtain⟨R,hR⟩:∃R,R=Y.heap.size:=⟨_,rfl⟩
     have HR2:=mkHid hR
     rw[←hR] at HBZ HDZ ⊢
     clear hR
     have kZ:KeepB X w Z:=KY.out.trans (KeepB.of_below (by rw[←HR2.out];exact HDZ.out))
     have bZ:Below base w Z:=BY.out.trans (HDZ.out.mono (by rw[HR2.out];have:=HY.out.low;have:=HY.out.blk.lt;omega))
     obtain⟨Z2,hrun,hB2,hg2⟩:=copyB Z R 200 1 _ HBZ.out ba 512 bc b (by have:=HBy.out Z kZ bZ;rw[H512.out] at this;exact this) (by omega) (by rw[List.length_cons,zSec_length];omega)
     rw[putL_wr iN b H512.out] at hB2
     have HB2:=mkHid hB2
     have HD2:Hid (Below Y.heap.size Y Z2):=by rw[←HR2.out];exact HDZ.out.trans (bel_one hg2 (Nat.le_refl _) HBZ.out.lt)
     have hRt:R<Z2.heap.size:=hB2.lt
     clear hB2 hg2 HDZ HBZ kZ bZ
     go_upto_region 13 with fail
     clear hrun
     refine wp_region_noPanic ?_
     refine wp_region_held_drew (S:=fun w'=>Blk w' R 200 (wq (iN,b))) (by kernel_rfl) HB2.out (fun hHeld=>?_)
     refine takeH (some 45) (i:=0) (v:=?_) rfl (by kernel_rfl) (by kernel_rfl) (by kernel_rfl) (fun _ _ _ h=>h) (Or.inl ⟨by rfl,?_⟩) hHeld rfl ?_
     rotate_left
     ·intro w hSw;go_simp;with_reducible rfl
     (try simp only[Act.put]);(try simp only[sIx]);(try simp only[sZ0,sZ1])
     refine takeH (some 46) (i:=1) (v:=?_) rfl (by kernel_rfl) (by kernel_rfl) (by kernel_rfl) (fun _ _ _ h=>h) (Or.inl ⟨by rfl,?_⟩) hHeld rfl ?_
     rotate_left
     ·intro w hSw;go_simp;with_reducible rfl
     (try simp only[Act.put]);(try simp only[sIx]);(try simp only[sZ0,sZ1])
     refine takeH (some 47) (i:=2) (v:=?_) rfl (by kernel_rfl) (by kernel_rfl) (by kernel_rfl) (fun _ _ _ h=>h) (Or.inl ⟨by rfl,?_⟩) hHeld rfl ?_
     rotate_left
     ·intro w hSw;go_simp;with_reducible rfl
     (try simp only[Act.put]);(try simp only[sIx]);(try simp only[sZ0,sZ1])
     refine takeH (some 48) (i:=3) (v:=?_) rfl (by kernel_rfl) (by kernel_rfl) (by kernel_rfl) (fun _ _ _ h=>h) (Or.inl ⟨by rfl,?_⟩) hHeld rfl ?_
     rotate_left
     ·intro w hSw;go_simp;with_reducible rfl
     (try simp only[Act.put]);(try simp only[sIx]);(try simp only[sZ0,sZ1])
     refine takeH (some 50) (i:=5) (v:=.agg (wq (iN,b)).toArray) rfl (by kernel_rfl) (by kernel_rfl) (by kernel_rfl) (fun _ _ _ h=>h) (yieldsIf_load_mid (by rfl) 200 (.tmp 8) (by rfl) R 0 (by rfl) (wq (iN,b)) _ (fun w1 hw1=>Blk.whole hw1) Tryz.underlying200 rfl (by rw[wq_length (g:=(iN,b)) H512.out];exact infoWr)) hHeld rfl ?_
     (try simp only[Act.put]);(try simp only[sIx]);(try simp only[sZ0,sZ1])
     have DW:Below Y.heap.size Y Z2.drew:=HD2.out.drew
     clear HD2
     have hRt:R<Z2.drew.heap.size:=hRt
     generalize Z2.drew=Z3 at *
     refine wpAnyH_ready (rs:=[4,6]) (by kernel_rfl) (by simp) ?_
     refine AllReadyH.cons rfl (fun K hK=>?_) (AllReadyH.cons rfl (fun K hK=>?_) AllReadyH.nil)
     ·skip
      have hL:Z3.cell? ⟨P,1,none⟩=some (.slice ca n cc):=(HY.out.on DW).blk.cell 1
      go_simp
      clear hL
      refine hK.out _ _ hHeld (fun hHeld=>?_)
      (try simp only[Act.put]);(try simp only[sIx]);(try simp only[sZ0,sZ1])
      clear hK K
      refine wpAnyH_ready (rs:=[6]) (by kernel_rfl) (by simp) (AllReadyH.cons rfl (fun K hK=>?_) AllReadyH.nil)
      refine step_buildWr Z3 (by rfl) _ (by rfl) (wq (iN,b)) (wq_length (g:=(iN,b)) H512.out) (by rfl) 51 rfl ?_
      have D4:=DW.alloc DW.size (.cells (wq (iN,b)).toArray 200)
      have KM:Blk (Z3.alloc (.cells (wq (iN,b)).toArray 200)) Z3.heap.size 200 (wq (iN,b)):=Blk.new Z3 _ _
      refine hK.out _ _ (hHeld.alloc _) (fun hHeld=>?_)
      (try simp only[Act.put]);(try simp only[sIx]);(try simp only[sZ0,sZ1])
      clear hK K DW
      have hRm:R<Z3.heap.size:=hRt
      generalize Z3.heap.size=bM at *
      generalize Z3.alloc (.cells (wq (iN,b)).toArray 200)=Z4 at *
      have DW:=D4
      clear D4
      refine wpAnyH_ready (rs:=[7]) (by kernel_rfl) (by simp) (AllReadyH.cons rfl (fun K hK=>?_) AllReadyH.nil)
      have IW:=HY.out.on DW
      have hva:p.ca.length=n:=HN.out.symm
      refine step_appC Z4 (by rfl) _ _ (by rfl) base (.slice ca n cc) p.ca (by rfl) IW.ca bM (iN,b) H512.out (by rfl) KM (by rw[hva];exact HFn.out) (by have:=IW.low;have:=IW.blk.lt;omega) 52 rfl ?_
      intro kk cap2 Z5 ho2 hg2 hat
      have hat2:(Value.slice (some ⟨kk,0,none⟩) (p.ca.length+1) cap2).ownBlock=(Value.slice ca n cc).ownBlock∨(Value.slice (some ⟨kk,0,none⟩) (p.ca.length+1) cap2).ownBlock=some Z4.heap.size:=by
       rcases hat with h5|h5
       ·exact .inl h5.symm
       ·exact .inr (by rw[h5];rfl)
      obtain⟨I6,K6,B6,d1,f1⟩:=IW.push hg2 ho2 hat2
      rw[hva] at I6 K6 B6 ho2 hat2 ⊢
      have hHR:Blk Z5 R 200 (wq (iN,b)):=(hg2.block R hHeld.lt (fun e5=>HNe.out R (by rw[HR2.out];exact Nat.le_refl _) e5.symm)).trans hHeld
      refine hK.out _ _ hHR (fun hHeld=>?_)
      (try simp only[Act.put]);(try simp only[sIx]);(try simp only[sZ0,sZ1])
      clear hK K
      refine takeH (some 53) (i:=8) (v:=?_) rfl (by kernel_rfl) (by kernel_rfl) (by kernel_rfl) (fun _ _ _ h=>h) (Or.inl ⟨by rfl,?_⟩) hHeld rfl ?_
      rotate_left
      ·intro w hSw;go_simp;with_reducible rfl
      (try simp only[Act.put]);(try simp only[sIx]);(try simp only[sZ0,sZ1])
      refine takeH (some 54) (i:=9) (v:=?_) rfl (by kernel_rfl) (by kernel_rfl) (by kernel_rfl) (fun _ _ _ h=>h) (Or.inl ⟨by rfl,?_⟩) hHeld rfl ?_
      rotate_left
      ·intro w hSw;go_simp;with_reducible rfl
      (try simp only[Act.put]);(try simp only[sIx]);(try simp only[sZ0,sZ1])
      refine wpAnyH_ready (rs:=[10]) (by kernel_rfl) (by simp) (AllReadyH.cons rfl (fun K hK=>?_) AllReadyH.nil)
      have hRP:R≠P:=by rw[HR2.out];have:=HY.out.blk.lt;omega
      go_simp
      refine hK.out _ _ (hHR.other _ _ hRP) (fun _=>?_)
      (try simp only[Act.put]);(try simp only[sIx]);(try simp only[sZ0,sZ1])
      clear hK K
      refine wpAnyH_done (by kernel_rfl) ?_ _
      refine NoPanic.normal ?_
      have HI6:=mkHid I6
      have HK6:Hid (KeepB X w (Z5.setCell ⟨P,1,none⟩ (.slice (some ⟨kk,0,none⟩) (n+1) cap2))):=(KY.out.trans (KeepB.of_below DW)).trans K6
      have HB6:Hid (Below base w (Z5.setCell ⟨P,1,none⟩ (.slice (some ⟨kk,0,none⟩) (n+1) cap2))):=BY.out.trans ((DW.mono (by have:=HY.out.low;have:=HY.out.blk.lt;omega)).trans B6)
      clear I6 K6 B6 d1 f1 hHR hHeld IW ho2 hg2 hat hat2 KM DW
      generalize Z5.setCell ⟨P,1,none⟩ (.slice (some ⟨kk,0,none⟩) (n+1) cap2)=Z6 at *
      have HAd:=at64Add P 4 p.wr Z6 (HI6.out.blk.cell 4) (HI6.out.blk.frozen 4) (by have:=HFw.out;omega)
      go_wp2_with fail
      refine HAd.mono ?_
      rintro e7 Z7 ⟨rfl,hz7⟩
      have hg7:=gr_cell Z6 P 4 (.int .u64 ((p.wr+1:Nat):Int))
      rw[←hz7] at hg7
      have I7:IsPd X Z7 P base S (.slice (some ⟨kk,0,none⟩) (n+1) cap2) arm1 (p.write (iN:Int) b):=by
       rw[HWr.out]
       refine HI6.out.turn hg7 ?_ rfl rfl HI6.out.ca HI6.out.xC HI6.out.armd HI6.out.lo HI6.out.hi
       rw[hz7]
       exact HI6.out.blk.set 4 _
      have HI7:=mkHid I7
      have HK7:Hid (KeepB X w Z7):=HK6.out.trans (KeepB.one hg7 HI6.out.xP)
      have HB7:Hid (Below base w Z7):=HB6.out.trans (bel_one hg7 HI6.out.low HI6.out.blk.lt)
      clear I7 hg7 hz7 HAd HI6 HK6 HB6
      go_wp2_with fail
      go_ret
      exact⟨by rw[HE.out];rfl,⟨S,_,arm1,HI7.out⟩,HK7.out,HB7.out⟩
     ·skip
      refine step_buildWr Z3 (by rfl) _ (by rfl) (wq (iN,b)) (wq_length (g:=(iN,b)) H512.out) (by rfl) 51 rfl ?_
      have D4:=DW.alloc DW.size (.cells (wq (iN,b)).toArray 200)
      have KM:Blk (Z3.alloc (.cells (wq (iN,b)).toArray 200)) Z3.heap.size 200 (wq (iN,b)):=Blk.new Z3 _ _
      refine hK.out _ _ (hHeld.alloc _) (fun hHeld=>?_)
      (try simp only[Act.put]);(try simp only[sIx]);(try simp only[sZ0,sZ1])
      clear hK K DW
      have hRm:R<Z3.heap.size:=hRt
      generalize Z3.heap.size=bM at *
      generalize Z3.alloc (.cells (wq (iN,b)).toArray 200)=Z4 at *
      have DW:=D4
      clear D4
      refine wpAnyH_ready (rs:=[4]) (by kernel_rfl) (by simp) (AllReadyH.cons rfl (fun K hK=>?_) AllReadyH.nil)
      have hL:Z4.cell? ⟨P,1,none⟩=some (.slice ca n cc):=(HY.out.on DW).blk.cell 1
      go_simp
      clear hL
      refine hK.out _ _ hHeld (fun hHeld=>?_)
      (try simp only[Act.put]);(try simp only[sIx]);(try simp only[sZ0,sZ1])
      clear hK K
      refine wpAnyH_ready (rs:=[7]) (by kernel_rfl) (by simp) (AllReadyH.cons rfl (fun K hK=>?_) AllReadyH.nil)
      have IW:=HY.out.on DW
      have hva:p.ca.length=n:=HN.out.symm
      refine step_appC Z4 (by rfl) _ _ (by rfl) base (.slice ca n cc) p.ca (by rfl) IW.ca bM (iN,b) H512.out (by rfl) KM (by rw[hva];exact HFn.out) (by have:=IW.low;have:=IW.blk.lt;omega) 52 rfl ?_
      intro kk cap2 Z5 ho2 hg2 hat
      have hat2:(Value.slice (some ⟨kk,0,none⟩) (p.ca.length+1) cap2).ownBlock=(Value.slice ca n cc).ownBlock∨(Value.slice (some ⟨kk,0,none⟩) (p.ca.length+1) cap2).ownBlock=some Z4.heap.size:=by
       rcases hat with h5|h5
       ·exact .inl h5.symm
       ·exact .inr (by rw[h5];rfl)
      obtain⟨I6,K6,B6,d1,f1⟩:=IW.push hg2 ho2 hat2
      rw[hva] at I6 K6 B6 ho2 hat2 ⊢
      have hHR:Blk Z5 R 200 (wq (iN,b)):=(hg2.block R hHeld.lt (fun e5=>HNe.out R (by rw[HR2.out];exact Nat.le_refl _) e5.symm)).trans hHeld
      refine hK.out _ _ hHR (fun hHeld=>?_)
      (try simp only[Act.put]);(try simp only[sIx]);(try simp only[sZ0,sZ1])
      clear hK K
      refine takeH (some 53) (i:=8) (v:=?_) rfl (by kernel_rfl) (by kernel_rfl) (by kernel_rfl) (fun _ _ _ h=>h) (Or.inl ⟨by rfl,?_⟩) hHeld rfl ?_
      rotate_left
      ·intro w hSw;go_simp;with_reducible rfl
      (try simp only[Act.put]);(try simp only[sIx]);(try simp only[sZ0,sZ1])
      refine takeH (some 54) (i:=9) (v:=?_) rfl (by kernel_rfl) (by kernel_rfl) (by kernel_rfl) (fun _ _ _ h=>h) (Or.inl ⟨by rfl,?_⟩) hHeld rfl ?_
      rotate_left
      ·intro w hSw;go_simp;with_reducible rfl
      (try simp only[Act.put]);(try simp only[sIx]);(try simp only[sZ0,sZ1])
      refine wpAnyH_ready (rs:=[10]) (by kernel_rfl) (by simp) (AllReadyH.cons rfl (fun K hK=>?_) AllReadyH.nil)
      have hRP:R≠P:=by rw[HR2.out];have:=HY.out.blk.lt;omega
      go_simp
      refine hK.out _ _ (hHR.other _ _ hRP) (fun _=>?_)
      (try simp only[Act.put]);(try simp only[sIx]);(try simp only[sZ0,sZ1])
      clear hK K
      refine wpAnyH_done (by kernel_rfl) ?_ _
      refine NoPanic.normal ?_
      have HI6:=mkHid I6
      have HK6:Hid (KeepB X w (Z5.setCell ⟨P,1,none⟩ (.slice (some ⟨kk,0,none⟩) (n+1) cap2))):=(KY.out.trans (KeepB.of_below DW)).trans K6
      have HB6:Hid (Below base w (Z5.setCell ⟨P,1,none⟩ (.slice (some ⟨kk,0,none⟩) (n+1) cap2))):=BY.out.trans ((DW.mono (by have:=HY.out.low;have:=HY.out.blk.lt;omega)).trans B6)
      clear I6 K6 B6 d1 f1 hHR hHeld IW ho2 hg2 hat hat2 KM DW
      generalize Z5.setCell ⟨P,1,none⟩ (.slice (some ⟨kk,0,none⟩) (n+1) cap2)=Z6 at *
      have HAd:=at64Add P 4 p.wr Z6 (HI6.out.blk.cell 4) (HI6.out.blk.frozen 4) (by have:=HFw.out;omega)
      go_wp2_with fail
      refine HAd.mono ?_
      rintro e7 Z7 ⟨rfl,hz7⟩
      have hg7:=gr_cell Z6 P 4 (.int .u64 ((p.wr+1:Nat):Int))
      rw[←hz7] at hg7
      have I7:IsPd X Z7 P base S (.slice (some ⟨kk,0,none⟩) (n+1) cap2) arm1 (p.write (iN:Int) b):=by
       rw[HWr.out]
       refine HI6.out.turn hg7 ?_ rfl rfl HI6.out.ca HI6.out.xC HI6.out.armd HI6.out.lo HI6.out.hi
       rw[hz7]
       exact HI6.out.blk.set 4 _
      have HI7:=mkHid I7
      have HK7:Hid (KeepB X w Z7):=HK6.out.trans (KeepB.one hg7 HI6.out.xP)
      have HB7:Hid (Below base w Z7):=HB6.out.trans (bel_one hg7 HI6.out.low HI6.out.blk.lt)
      clear I7 hg7 hz7 HAd HI6 HK6 HB6
      go_wp2_with fail
      go_ret
      exact⟨by rw[HE.out];rfl,⟨S,_,arm1,HI7.out⟩,HK7.out,HB7.out⟩
   ·have hd:decide (0<arm)=true:=decide_eq_true (by omega)
    have hgl:0<arm:=by omega
    have hhi:=HH.out.hi
    obtain⟨arm1,harm1⟩:∃a1,a1=arm-1:=⟨_,rfl⟩
    have HY:Hid (IsPd X (w.setCell ⟨P,2,none⟩ (.int .i64 (arm-1))) P base S (.slice ca n cc) arm1 { p with arm:=p.arm.map (· - 1) }):=by
     rw[harm1]
     exact HH.out.turn (gr_cell w P 2 _) (HH.out.blk.set 2 _) rfl rfl HH.out.ca HH.out.xC (armOf_less HH.out.armd hgl) (by omega) (by omega)
    have KY:Hid (KeepB X w (w.setCell ⟨P,2,none⟩ (.int .i64 (arm-1)))):=KeepB.one (gr_cell w P 2 _) HH.out.xP
    have BY:Hid (Below base w (w.setCell ⟨P,2,none⟩ (.int .i64 (arm-1)))):=bel_one (gr_cell w P 2 _) HH.out.low HH.out.blk.lt
    have HNe:Hid (∀R,(w.setCell ⟨P,2,none⟩ (.int .i64 (arm-1))).heap.size≤R→(Value.slice ca n cc).ownBlock≠some R):=fun R hR=>HNe.out R (Nat.le_trans BY.out.size hR)
    go_enter Tryz.func92,Tryz.ntmps92
    go_wp2_with fail
    refine HR.mono ?_
    rintro e w1 ⟨rfl,hw1⟩
    obtain rfl:=hw1.symm
    go_upto_region 11 with fail
    generalize w.setCell ⟨P,2,none⟩ (.int .i64 (arm-1))=Y at *
    clear harm1 c2 f2 ha haz hgt hd hgl hhi HR
    ·skip
     have HBn:Hid (Blk (Y.alloc (.cells zWr.toArray 200)) Y.heap.size 200 zWr):=Blk.new Y _ _
     have hzz:Hid (zWr.toArray.size=(Value.int .i64 (iN:Int):: zSec).toArray.size):=by unfold Hid;rw[wz_size,List.size_toArray,zWr_length]
     have HIW:Hid ((Tryz.prog.info? 200).map (·.size)=some (Value.int .i64 (iN:Int):: zSec).toArray.size):=by unfold Hid;rw[wz_size];exact infoWr
     have HDZ:Hid (Below Y.heap.size Y ((Y.alloc (.cells zWr.toArray 200)).setRow Y.heap.size (Value.int .i64 (iN:Int):: zSec).toArray)):=bel_row ((Below.refl _ Y).alloc (Nat.le_refl _) _) (Nat.le_refl _) _
     have HBZ:Hid (Blk ((Y.alloc (.cells zWr.toArray 200)).setRow Y.heap.size (Value.int .i64 (iN:Int):: zSec).toArray) Y.heap.size 200 (Value.int .i64 (iN:Int):: zSec)):=HBn.out.row _
     go_upto_region 12 with(first|(refine list_buildWr rfl _ rfl (iN:Int) rfl ?_)|(refine wpList_store_row rfl 200 _ _ rfl Y.heap.size (Value.int .i64 (iN:Int):: zSec).toArray rfl rfl _ _ HBn.out HIW.out hzz.out (wz_all _) ?_))
     clear HBn hzz HIW
     generalize (Y.alloc (.cells zWr.toArray 200)).setRow Y.heap.size (Value.int .i64 (iN:Int):: zSec).toArray=Z at *
     obtain⟨R,hR⟩:∃R,R=Y.heap.size:=⟨_,rfl⟩
     have HR2:=mkHid hR
     rw[←hR] at HBZ HDZ ⊢
     clear hR
     have kZ:KeepB X w Z:=KY.out.trans (KeepB.of_below (by rw[←HR2.out];exact HDZ.out))
     have bZ:Below base w Z:=BY.out.trans (HDZ.out.mono (by rw[HR2.out];have:=HY.out.low;have:=HY.out.blk.lt;omega))
     obtain⟨Z2,hrun,hB2,hg2⟩:=copyB Z R 200 1 _ HBZ.out ba 512 bc b (by have:=HBy.out Z kZ bZ;rw[H512.out] at this;exact this) (by omega) (by rw[List.length_cons,zSec_length];omega)
     rw[putL_wr iN b H512.out] at hB2
     have HB2:=mkHid hB2
     have HD2:Hid (Below Y.heap.size Y Z2):=by rw[←HR2.out];exact HDZ.out.trans (bel_one hg2 (Nat.le_refl _) HBZ.out.lt)
     have hRt:R<Z2.heap.size:=hB2.lt
     clear hB2 hg2 HDZ HBZ kZ bZ
     go_upto_region 13 with fail
     clear hrun
     refine wp_region_noPanic ?_
     refine wp_region_held_drew (S:=fun w'=>Blk w' R 200 (wq (iN,b))) (by kernel_rfl) HB2.out (fun hHeld=>?_)
     refine takeH (some 45) (i:=0) (v:=?_) rfl (by kernel_rfl) (by kernel_rfl) (by kernel_rfl) (fun _ _ _ h=>h) (Or.inl ⟨by rfl,?_⟩) hHeld rfl ?_
     rotate_left
     ·intro w hSw;go_simp;with_reducible rfl
     (try simp only[Act.put]);(try simp only[sIx]);(try simp only[sZ0,sZ1])
     refine takeH (some 46) (i:=1) (v:=?_) rfl (by kernel_rfl) (by kernel_rfl) (by kernel_rfl) (fun _ _ _ h=>h) (Or.inl ⟨by rfl,?_⟩) hHeld rfl ?_
     rotate_left
     ·intro w hSw;go_simp;with_reducible rfl
     (try simp only[Act.put]);(try simp only[sIx]);(try simp only[sZ0,sZ1])
     refine takeH (some 47) (i:=2) (v:=?_) rfl (by kernel_rfl) (by kernel_rfl) (by kernel_rfl) (fun _ _ _ h=>h) (Or.inl ⟨by rfl,?_⟩) hHeld rfl ?_
     rotate_left
     ·intro w hSw;go_simp;with_reducible rfl
     (try simp only[Act.put]);(try simp only[sIx]);(try simp only[sZ0,sZ1])
     refine takeH (some 48) (i:=3) (v:=?_) rfl (by kernel_rfl) (by kernel_rfl) (by kernel_rfl) (fun _ _ _ h=>h) (Or.inl ⟨by rfl,?_⟩) hHeld rfl ?_
     rotate_left
     ·intro w hSw;go_simp;with_reducible rfl
     (try simp only[Act.put]);(try simp only[sIx]);(try simp only[sZ0,sZ1])
     refine takeH (some 50) (i:=5) (v:=.agg (wq (iN,b)).toArray) rfl (by kernel_rfl) (by kernel_rfl) (by kernel_rfl) (fun _ _ _ h=>h) (yieldsIf_load_mid (by rfl) 200 (.tmp 8) (by rfl) R 0 (by rfl) (wq (iN,b)) _ (fun w1 hw1=>Blk.whole hw1) Tryz.underlying200 rfl (by rw[wq_length (g:=(iN,b)) H512.out];exact infoWr)) hHeld rfl ?_
     (try simp only[Act.put]);(try simp only[sIx]);(try simp only[sZ0,sZ1])
     have DW:Below Y.heap.size Y Z2.drew:=HD2.out.drew
     clear HD2
     have hRt:R<Z2.drew.heap.size:=hRt
     generalize Z2.drew=Z3 at *
     refine wpAnyH_ready (rs:=[4,6]) (by kernel_rfl) (by simp) ?_
     refine AllReadyH.cons rfl (fun K hK=>?_) (AllReadyH.cons rfl (fun K hK=>?_) AllReadyH.nil)
     ·skip
      have hL:Z3.cell? ⟨P,1,none⟩=some (.slice ca n cc):=(HY.out.on DW).blk.cell 1
      go_simp
      clear hL
      refine hK.out _ _ hHeld (fun hHeld=>?_)
      (try simp only[Act.put]);(try simp only[sIx]);(try simp only[sZ0,sZ1])
      clear hK K
      refine wpAnyH_ready (rs:=[6]) (by kernel_rfl) (by simp) (AllReadyH.cons rfl (fun K hK=>?_) AllReadyH.nil)
      refine step_buildWr Z3 (by rfl) _ (by rfl) (wq (iN,b)) (wq_length (g:=(iN,b)) H512.out) (by rfl) 51 rfl ?_
      have D4:=DW.alloc DW.size (.cells (wq (iN,b)).toArray 200)
      have KM:Blk (Z3.alloc (.cells (wq (iN,b)).toArray 200)) Z3.heap.size 200 (wq (iN,b)):=Blk.new Z3 _ _
      refine hK.out _ _ (hHeld.alloc _) (fun hHeld=>?_)
      (try simp only[Act.put]);(try simp only[sIx]);(try simp only[sZ0,sZ1])
      clear hK K DW
      have hRm:R<Z3.heap.size:=hRt
      generalize Z3.heap.size=bM at *
      generalize Z3.alloc (.cells (wq (iN,b)).toArray 200)=Z4 at *
      have DW:=D4
      clear D4
      refine wpAnyH_ready (rs:=[7]) (by kernel_rfl) (by simp) (AllReadyH.cons rfl (fun K hK=>?_) AllReadyH.nil)
      have IW:=HY.out.on DW
      have hva:p.ca.length=n:=HN.out.symm
      refine step_appC Z4 (by rfl) _ _ (by rfl) base (.slice ca n cc) p.ca (by rfl) IW.ca bM (iN,b) H512.out (by rfl) KM (by rw[hva];exact HFn.out) (by have:=IW.low;have:=IW.blk.lt;omega) 52 rfl ?_
      intro kk cap2 Z5 ho2 hg2 hat
      have hat2:(Value.slice (some ⟨kk,0,none⟩) (p.ca.length+1) cap2).ownBlock=(Value.slice ca n cc).ownBlock∨(Value.slice (some ⟨kk,0,none⟩) (p.ca.length+1) cap2).ownBlock=some Z4.heap.size:=by
       rcases hat with h5|h5
       ·exact .inl h5.symm
       ·exact .inr (by rw[h5];rfl)
      obtain⟨I6,K6,B6,d1,f1⟩:=IW.push hg2 ho2 hat2
      rw[hva] at I6 K6 B6 ho2 hat2 ⊢
      have hHR:Blk Z5 R 200 (wq (iN,b)):=(hg2.block R hHeld.lt (fun e5=>HNe.out R (by rw[HR2.out];exact Nat.le_refl _) e5.symm)).trans hHeld
      refine hK.out _ _ hHR (fun hHeld=>?_)
      (try simp only[Act.put]);(try simp only[sIx]);(try simp only[sZ0,sZ1])
      clear hK K
      refine takeH (some 53) (i:=8) (v:=?_) rfl (by kernel_rfl) (by kernel_rfl) (by kernel_rfl) (fun _ _ _ h=>h) (Or.inl ⟨by rfl,?_⟩) hHeld rfl ?_
      rotate_left
      ·intro w hSw;go_simp;with_reducible rfl
      (try simp only[Act.put]);(try simp only[sIx]);(try simp only[sZ0,sZ1])
      refine takeH (some 54) (i:=9) (v:=?_) rfl (by kernel_rfl) (by kernel_rfl) (by kernel_rfl) (fun _ _ _ h=>h) (Or.inl ⟨by rfl,?_⟩) hHeld rfl ?_
      rotate_left
      ·intro w hSw;go_simp;with_reducible rfl
      (try simp only[Act.put]);(try simp only[sIx]);(try simp only[sZ0,sZ1])
      refine wpAnyH_ready (rs:=[10]) (by kernel_rfl) (by simp) (AllReadyH.cons rfl (fun K hK=>?_) AllReadyH.nil)
      have hRP:R≠P:=by rw[HR2.out];have:=HY.out.blk.lt;omega
      go_simp
      refine hK.out _ _ (hHR.other _ _ hRP) (fun _=>?_)
      (try simp only[Act.put]);(try simp only[sIx]);(try simp only[sZ0,sZ1])
      clear hK K
      refine wpAnyH_done (by kernel_rfl) ?_ _
      refine NoPanic.normal ?_
      have HI6:=mkHid I6
      have HK6:Hid (KeepB X w (Z5.setCell ⟨P,1,none⟩ (.slice (some ⟨kk,0,none⟩) (n+1) cap2))):=(KY.out.trans (KeepB.of_below DW)).trans K6
      have HB6:Hid (Below base w (Z5.setCell ⟨P,1,none⟩ (.slice (some ⟨kk,0,none⟩) (n+1) cap2))):=BY.out.trans ((DW.mono (by have:=HY.out.low;have:=HY.out.blk.lt;omega)).trans B6)
      clear I6 K6 B6 d1 f1 hHR hHeld IW ho2 hg2 hat hat2 KM DW
      generalize Z5.setCell ⟨P,1,none⟩ (.slice (some ⟨kk,0,none⟩) (n+1) cap2)=Z6 at *
      have HAd:=at64Add P 4 p.wr Z6 (HI6.out.blk.cell 4) (HI6.out.blk.frozen 4) (by have:=HFw.out;omega)
      go_wp2_with fail
      refine HAd.mono ?_
      rintro e7 Z7 ⟨rfl,hz7⟩
      have hg7:=gr_cell Z6 P 4 (.int .u64 ((p.wr+1:Nat):Int))
      rw[←hz7] at hg7
      have I7:IsPd X Z7 P base S (.slice (some ⟨kk,0,none⟩) (n+1) cap2) arm1 (p.write (iN:Int) b):=by
       rw[HWr.out]
       refine HI6.out.turn hg7 ?_ rfl rfl HI6.out.ca HI6.out.xC HI6.out.armd HI6.out.lo HI6.out.hi
       rw[hz7]
       exact HI6.out.blk.set 4 _
      have HI7:=mkHid I7
      have HK7:Hid (KeepB X w Z7):=HK6.out.trans (KeepB.one hg7 HI6.out.xP)
      have HB7:Hid (Below base w Z7):=HB6.out.trans (bel_one hg7 HI6.out.low HI6.out.blk.lt)
      clear I7 hg7 hz7 HAd HI6 HK6 HB6
      go_wp2_with fail
      go_ret
      exact⟨by rw[HE.out];rfl,⟨S,_,arm1,HI7.out⟩,HK7.out,HB7.out⟩
     ·skip
      refine step_buildWr Z3 (by rfl) _ (by rfl) (wq (iN,b)) (wq_length (g:=(iN,b)) H512.out) (by rfl) 51 rfl ?_
      have D4:=DW.alloc DW.size (.cells (wq (iN,b)).toArray 200)
      have KM:Blk (Z3.alloc (.cells (wq (iN,b)).toArray 200)) Z3.heap.size 200 (wq (iN,b)):=Blk.new Z3 _ _
      refine hK.out _ _ (hHeld.alloc _) (fun hHeld=>?_)
      (try simp only[Act.put]);(try simp only[sIx]);(try simp only[sZ0,sZ1])
      clear hK K DW
      have hRm:R<Z3.heap.size:=hRt
      generalize Z3.heap.size=bM at *
      generalize Z3.alloc (.cells (wq (iN,b)).toArray 200)=Z4 at *
      have DW:=D4
      clear D4
      refine wpAnyH_ready (rs:=[4]) (by kernel_rfl) (by simp) (AllReadyH.cons rfl (fun K hK=>?_) AllReadyH.nil)
      have hL:Z4.cell? ⟨P,1,none⟩=some (.slice ca n cc):=(HY.out.on DW).blk.cell 1
      go_simp
      clear hL
      refine hK.out _ _ hHeld (fun hHeld=>?_)
      (try simp only[Act.put]);(try simp only[sIx]);(try simp only[sZ0,sZ1])
      clear hK K
      refine wpAnyH_ready (rs:=[7]) (by kernel_rfl) (by simp) (AllReadyH.cons rfl (fun K hK=>?_) AllReadyH.nil)
      have IW:=HY.out.on DW
      have hva:p.ca.length=n:=HN.out.symm
      refine step_appC Z4 (by rfl) _ _ (by rfl) base (.slice ca n cc) p.ca (by rfl) IW.ca bM (iN,b) H512.out (by rfl) KM (by rw[hva];exact HFn.out) (by have:=IW.low;have:=IW.blk.lt;omega) 52 rfl ?_
      intro kk cap2 Z5 ho2 hg2 hat
      have hat2:(Value.slice (some ⟨kk,0,none⟩) (p.ca.length+1) cap2).ownBlock=(Value.slice ca n cc).ownBlock∨(Value.slice (some ⟨kk,0,none⟩) (p.ca.length+1) cap2).ownBlock=some Z4.heap.size:=by
       rcases hat with h5|h5
       ·exact .inl h5.symm
       ·exact .inr (by rw[h5];rfl)
      obtain⟨I6,K6,B6,d1,f1⟩:=IW.push hg2 ho2 hat2
      rw[hva] at I6 K6 B6 ho2 hat2 ⊢
      have hHR:Blk Z5 R 200 (wq (iN,b)):=(hg2.block R hHeld.lt (fun e5=>HNe.out R (by rw[HR2.out];exact Nat.le_refl _) e5.symm)).trans hHeld
      refine hK.out _ _ hHR (fun hHeld=>?_)
      (try simp only[Act.put]);(try simp only[sIx]);(try simp only[sZ0,sZ1])
      clear hK K
      refine takeH (some 53) (i:=8) (v:=?_) rfl (by kernel_rfl) (by kernel_rfl) (by kernel_rfl) (fun _ _ _ h=>h) (Or.inl ⟨by rfl,?_⟩) hHeld rfl ?_
      rotate_left
      ·intro w hSw;go_simp;with_reducible rfl
      (try simp only[Act.put]);(try simp only[sIx]);(try simp only[sZ0,sZ1])
      refine takeH (some 54) (i:=9) (v:=?_) rfl (by kernel_rfl) (by kernel_rfl) (by kernel_rfl) (fun _ _ _ h=>h) (Or.inl ⟨by rfl,?_⟩) hHeld rfl ?_
      rotate_left
      ·intro w hSw;go_simp;with_reducible rfl
      (try simp only[Act.put]);(try simp only[sIx]);(try simp only[sZ0,sZ1])
      refine wpAnyH_ready (rs:=[10]) (by kernel_rfl) (by simp) (AllReadyH.cons rfl (fun K hK=>?_) AllReadyH.nil)
      have hRP:R≠P:=by rw[HR2.out];have:=HY.out.blk.lt;omega
      go_simp
      refine hK.out _ _ (hHR.other _ _ hRP) (fun _=>?_)
      (try simp only[Act.put]);(try simp only[sIx]);(try simp only[sZ0,sZ1])
      clear hK K
      refine wpAnyH_done (by kernel_rfl) ?_ _
      refine NoPanic.normal ?_
      have HI6:=mkHid I6
      have HK6:Hid (KeepB X w (Z5.setCell ⟨P,1,none⟩ (.slice (some ⟨kk,0,none⟩) (n+1) cap2))):=(KY.out.trans (KeepB.of_below DW)).trans K6
      have HB6:Hid (Below base w (Z5.setCell ⟨P,1,none⟩ (.slice (some ⟨kk,0,none⟩) (n+1) cap2))):=BY.out.trans ((DW.mono (by have:=HY.out.low;have:=HY.out.blk.lt;omega)).trans B6)
      clear I6 K6 B6 d1 f1 hHR hHeld IW ho2 hg2 hat hat2 KM DW
      generalize Z5.setCell ⟨P,1,none⟩ (.slice (some ⟨kk,0,none⟩) (n+1) cap2)=Z6 at *
      have HAd:=at64Add P 4 p.wr Z6 (HI6.out.blk.cell 4) (HI6.out.blk.frozen 4) (by have:=HFw.out;omega)
      go_wp2_with fail
      refine HAd.mono ?_
      rintro e7 Z7 ⟨rfl,hz7⟩
      have hg7:=gr_cell Z6 P 4 (.int .u64 ((p.wr+1:Nat):Int))
      rw[←hz7] at hg7
      have I7:IsPd X Z7 P base S (.slice (some ⟨kk,0,none⟩) (n+1) cap2) arm1 (p.write (iN:Int) b):=by
       rw[HWr.out]
       refine HI6.out.turn hg7 ?_ rfl rfl HI6.out.ca HI6.out.xC HI6.out.armd HI6.out.lo HI6.out.hi
       rw[hz7]
       exact HI6.out.blk.set 4 _
      have HI7:=mkHid I7
      have HK7:Hid (KeepB X w Z7):=HK6.out.trans (KeepB.one hg7 HI6.out.xP)
      have HB7:Hid (Below base w Z7):=HB6.out.trans (bel_one hg7 HI6.out.low HI6.out.blk.lt)
      clear I7 hg7 hz7 HAd HI6 HK6 HB6
      go_wp2_with fail
      go_ret
      exact⟨by rw[HE.out];rfl,⟨S,_,arm1,HI7.out⟩,HK7.out,HB7.out⟩
 ·have HE:Hid (p.wrE i b=1∧p.write i b=p):=by unfold Hid Pl.wrE Pl.write;simp[hoff,hin,h512]
  have hbz:((b.length:Int)==512)=false:=by rw[beq_eq_false_iff_ne];omega
  have hbz':¬(b.length:Int)=512:=by omega
  clear hoff hin h512
  go_enter Tryz.func92,Tryz.ntmps92
  go_wp2_with fail
  refine HR.mono ?_
  rintro e w1 ⟨rfl,rfl⟩
  go_wp2_with fail
  go_ret
  exact⟨by rw[HE.out.1];rfl,by rw[HE.out.2];exact HD.out,KeepB.refl _ _,Below.refl _ _⟩
end
section
open Go.RowKit
attribute [local go_sem ↓] zvWr
theorem takeQ (l:List (Nat × List UInt8))(k:Nat)(h:k<l.length):l.take (k+1)=l.take k++[nthQ l k]:=by
 rw[nthQ_eq l k h,←List.take_append_getElem h]
theorem foldQ (l:List (Nat × List UInt8))(st:Nat→List UInt8)(k:Nat)(h:k<l.length):(l.take (k+1)).foldl Pl.put st=Pl.put ((l.take k).foldl Pl.put st) (nthQ l k):=by
 rw[takeQ l k h,List.foldl_append];rfl
theorem settle_facts {X:Nat→Prop}{Z:World}{P base S R:Nat}{vC:Value}{arm:Int}{p:Pl}(h:IsPd X Z P base S vC arm p){q:Nat × List UInt8}(hq:q.1<p.n)(h5:q.2.length=512)(hR:Blk Z R 200 (wq q)):
  Z.drew.there S (q.1 * 512) (bv q.2).toArray.size∧((Z.drew.setCells S (q.1 * 512) (bv q.2).toArray.toList).cell? ⟨P,0,none⟩=some (.slice (some ⟨S,0,none⟩) p.n p.n)∧(Z.drew.setCells S (q.1 * 512) (bv q.2).toArray.toList).cell? ⟨R,0,none⟩=some (.int .i64 (q.1:Int))∧(Z.drew.setCells S (q.1 * 512) (bv q.2).toArray.toList).rangeAt R 1 (bv q.2)) ∧
  IsPd X (Z.drew.setCells S (q.1 * 512) (bv q.2).toArray.toList) P base S vC arm { p with st:=Pl.put p.st q }∧KeepB X Z (Z.drew.setCells S (q.1 * 512) (bv q.2).toArray.toList)∧Below base Z (Z.drew.setCells S (q.1 * 512) (bv q.2).toArray.toList):=by
 have hd:IsPd X Z.drew P base S vC arm p:=h.on ((Below.refl _ Z).drew)
 have e:(bv q.2).toArray.toList=bv q.2:=rfl
 rw[e]
 have h2:=hd.settle q hq h5
 have hg:=gr_setCells S (bv q.2) Z.drew (q.1 * 512)
 have hRS:R≠S:=blk_ne (w:=Z.drew) hR hd.st (by decide)
 have hR2:Blk (Z.drew.setCells S (q.1 * 512) (bv q.2)) R 200 (wq q):=(hg.block R (Blk.lt (w:=Z.drew) hR) (fun e2=>hRS (Option.some.inj e2))).trans hR
 have hw:=range_data (Blk.whole hR2)
 refine⟨?_,⟨h2.blk.cell 0,hw.1,?_⟩,h2,(KeepB.of_below ((Below.refl _ Z).drew)).trans (KeepB.one hg hd.xS),((Below.refl _ Z).drew).trans (bel_one hg hd.lowS hd.st.lt)⟩
 ·refine hd.st.there9 _ _ ?_
  rw[List.size_toArray,bv_length,h5,stc_length]
  have:(q.1+1) * 512≤p.n * 512:=Nat.mul_le_mul_right _ hq
  omega
 ·have:=hw.2
  rwa [Nat.zero_add] at this
theorem codFlush (X:Nat→Prop)(w:World)(P base:Nat)(p:Pl)(h:IsD X w P base p)(hf:FewP p):
  Calls Tryz.prog 93 #[.pointer (some ⟨P,0,none⟩)] w fun e w'=>e=.returned (.int .i64 p.flE)∧IsD X w' P base p.flush∧KeepB X w w'∧Below base w w':=by
 have HD:=mkHid h
 obtain⟨S,vC,arm,h⟩:=h
 have HR:=codReady P p.off w (h.blk.cell 3)
 have HH:=mkHid h
 have HF:=mkHid hf
 clear h hf
 cases hoff:p.off with
 | true =>
  have HE:Hid (p.flE=51∧p.flush=p):=by unfold Hid Pl.flE Pl.flush;simp[hoff]
  rw[hoff,if_pos rfl] at HR
  clear hoff
  go_enter Tryz.func93,Tryz.ntmps93
  go_wp2_with fail
  refine HR.mono ?_
  rintro e w1 ⟨rfl,rfl⟩
  go_wp2_with fail
  go_ret
  exact⟨by rw[HE.out.1];rfl,by rw[HE.out.2];exact HD.out,KeepB.refl _ _,Below.refl _ _⟩
 | false =>
 rw[hoff,if_neg (by simp)] at HR
 have HE:Hid (p.flE=0∧p.flush={ p with st:=p.ca.foldl Pl.put p.st,ca:=[],fl:=p.fl+1 }):=by unfold Hid Pl.flE Pl.flush;simp[hoff]
 clear hoff
 obtain⟨ca,cc,hvC,hle,hmx,hnl,hcs⟩:=HH.out.ca.form (fun g hg=>(HF.out.at_ g hg).2)
 subst hvC
 have c1:w.cell? ⟨P,1,none⟩=some (.slice ca p.ca.length cc):=HH.out.blk.cell 1
 have HCs:Hid (∀W,IsPd X W P base S (.slice ca p.ca.length cc) arm { p with st:=fun _=>[] }→True):=fun _ _=>trivial
 clear HCs hcs
 obtain⟨n,hn⟩:∃n,n=p.ca.length:=⟨_,rfl⟩
 have HN:=mkHid hn
 have hn6:n≤1000000:=by rw[hn];exact HF.out.ca
 rw[←hn] at c1 HH
 obtain⟨N,hN⟩:∃N,N=p.n:=⟨_,rfl⟩
 have HNN:=mkHid hN
 have hN4:N≤4096:=by rw[hN];exact HF.out.n
 have HI0:Hid (IsPd X w P base S (.slice ca n cc) arm { p with st:=(p.ca.take 0).foldl Pl.put p.st }):=HH.out
 clear hn hN hle hmx hnl
 go_enter Tryz.func93,Tryz.ntmps93
 go_wp2_with fail
 refine HR.mono ?_
 rintro e w1 ⟨rfl,hw1⟩
 obtain rfl:=hw1.symm
 clear HR
 go_wp2_with fail
 go_loopw [16] (fun kv wr=>∃k:Nat,k≤n∧kv=.int .i64 (k:Int)∧Hid (IsPd X wr P base S (.slice ca n cc) arm { p with st:=(p.ca.take k).foldl Pl.put p.st })∧Hid (KeepB X w wr)∧Hid (Below base w wr)) (fun kv _=>n-(intOf kv).toNat)
 case atStart=>exact⟨0,Nat.zero_le _,rfl,HI0,KeepB.refl _ _,Below.refl _ _⟩
 case round =>
  obtain⟨k,hk,rfl,HI,HK,HB⟩:=hrel
  by_cases hlt:k<n
  ·have HkL:Hid (k<p.ca.length):=by unfold Hid;rw[←HN.out];exact hlt
   obtain⟨ca',cc',ev,_,_,_,hcs⟩:=HI.out.ca.form (fun g hg=>(HF.out.at_ g hg).2)
   obtain⟨g,eg,_,_,hr⟩:=hcs (by have:=HkL.out;show 0<p.ca.length;omega)
   have hcag:ca=some ⟨g,0,none⟩:=by injection ev with e1;rw[e1,eg]
   subst hcag
   have HRg:=mkHid (hr k HkL.out)
   have HQ:=mkHid (HF.out.at_ _ (nthQ_mem p.ca k HkL.out))
   have HFo:=mkHid (foldQ p.ca p.st k HkL.out)
   clear hr hcs ev eg
   have hk0:(0:Int)≤(k:Int):=by omega
   have hkn:(k:Int)<(n:Int):=by omega
   generalize hq:nthQ p.ca k=q at *
   clear hq
   have HS5:Hid ((Tryz.prog.info? 200).map (·.size)=some (wq q).length):=by unfold Hid;rw[wq_length HQ.out.2];exact infoWr
   have HS6:Hid ((Tryz.prog.info? 200).map (·.size)=some (wq q).toArray.size):=HS5.out
   have HS7:Hid (zWr.toArray.size=(wq q).toArray.size):=by unfold Hid;rw[List.size_toArray,List.size_toArray,zWr_length,wq_length HQ.out.2]
   have HBn:Hid (Blk (wr.alloc (.cells zWr.toArray 200)) wr.heap.size 200 zWr):=Blk.new wr _ _
   have HDZ:Hid (Below wr.heap.size wr ((wr.alloc (.cells zWr.toArray 200)).setRow wr.heap.size (wq q).toArray)):=bel_row ((Below.refl _ wr).alloc (Nat.le_refl _) _) (Nat.le_refl _) _
   have HBZ:Hid (Blk ((wr.alloc (.cells zWr.toArray 200)).setRow wr.heap.size (wq q).toArray) wr.heap.size 200 (wq q)):=HBn.out.row _
   go_upto_region 7 with(first|(refine wpList_load_mid rfl 200 _ rfl g (k * 513) rfl (wq q) _ HRg.out Tryz.underlying200 rfl HS5.out ?_)|(refine wpList_store_row rfl 200 _ _ rfl wr.heap.size (wq q).toArray rfl rfl _ _ HBn.out HS6.out HS7.out (all_oneCell_toArray (wq_one q)) ?_))
   generalize (wr.alloc (.cells zWr.toArray 200)).setRow wr.heap.size (wq q).toArray=Z at *
   have HZ:=mkHid (HI.out.on HDZ.out)
   have HKZ:Hid (KeepB X w Z):=HK.out.trans (KeepB.of_below HDZ.out)
   have HBeZ:Hid (Below base w Z):=HB.out.trans (HDZ.out.mono (by have:=HI.out.low;have:=HI.out.blk.lt;omega))
   clear HDZ HBn HS5 HS6 HS7 HRg HI HK HB
   generalize wr.heap.size=R at *
   obtain⟨f1,f2,f3,f4,f5⟩:=settle_facts HZ.out HQ.out.1 HQ.out.2 HBZ.out
   rw[←HFo.out] at f3
   have zc0:Z.drew.cell? ⟨P,0,none⟩=some (.slice (some ⟨S,0,none⟩) N N):=by rw[HNN.out];exact HZ.out.blk.cell 0
   have zr:=range_data (Blk.whole (w:=Z.drew) HBZ.out)
   obtain⟨zr0,zr1⟩:=zr
   rw[Nat.zero_add] at zr1
   have H512:=mkHid HQ.out.2
   have hq1:(q.1:Int)<(N:Int):=by rw[HNN.out];have:=HQ.out.1;simpa using this
   have hq0:(0:Int)≤(q.1:Int):=by omega
   have f2':(Z.drew.setCells S (q.1 * 512) (bv q.2).toArray.toList).cell? ⟨P,0,none⟩=some (.slice (some ⟨S,0,none⟩) N N):=by rw[HNN.out];exact f2.1
   have HTh:=mkHid f1
   have HF0:=mkHid (And.intro f2' f2.2)
   have HI3:=mkHid f3
   have HK3:Hid (KeepB X w (Z.drew.setCells S (q.1 * 512) (bv q.2).toArray.toList)):=HKZ.out.trans f4
   have HB3:Hid (Below base w (Z.drew.setCells S (q.1 * 512) (bv q.2).toArray.toList)):=HBeZ.out.trans f5
   clear f1 f2 f3 f4 f5 f2' HKZ HBeZ HBZ HFo HQ
   generalize q.1=q1 at *
   generalize q.2=q2 at *
   ·skip
    refine wp_region_noPanic ?_
    refine wp_region_held_drew (S:=fun w'=>w'.cell? ⟨P,0,none⟩=some (.slice (some ⟨S,0,none⟩) N N)∧w'.cell? ⟨R,0,none⟩=some (.int .i64 (q1:Int))∧w'.rangeAt R 1 (bv q2)) (by kernel_rfl) ⟨zc0,zr0,zr1⟩ (fun hHeld=>?_)
    refine takeH (some 20) (i:=0) (v:=?_) rfl (by kernel_rfl) (by kernel_rfl) (by kernel_rfl) (fun _ _ _ h=>h) (Or.inl ⟨by rfl,?_⟩) hHeld rfl ?_
    rotate_left
    ·intro w hSw;obtain⟨hS1,hS2,hS3⟩:=hSw;go_simp;with_reducible rfl
    (try simp only[Act.put]);(try simp only[sIx]);(try simp only[sZ0,sZ1])
    refine takeH (some 21) (i:=1) (v:=?_) rfl (by kernel_rfl) (by kernel_rfl) (by kernel_rfl) (fun _ _ _ h=>h) (Or.inl ⟨by rfl,?_⟩) hHeld rfl ?_
    rotate_left
    ·intro w hSw;obtain⟨hS1,hS2,hS3⟩:=hSw;go_simp;with_reducible rfl
    (try simp only[Act.put]);(try simp only[sIx]);(try simp only[sZ0,sZ1])
    refine takeH (some 22) (i:=2) (v:=?_) rfl (by kernel_rfl) (by kernel_rfl) (by kernel_rfl) (fun _ _ _ h=>h) (Or.inl ⟨by rfl,?_⟩) hHeld rfl ?_
    rotate_left
    ·intro w hSw;obtain⟨hS1,hS2,hS3⟩:=hSw;go_simp;with_reducible rfl
    (try simp only[Act.put]);(try simp only[sIx]);(try simp only[sZ0,sZ1])
    refine takeH (some 23) (i:=3) (v:=?_) rfl (by kernel_rfl) (by kernel_rfl) (by kernel_rfl) (fun _ _ _ h=>h) (Or.inl ⟨by rfl,?_⟩) hHeld rfl ?_
    rotate_left
    ·intro w hSw;obtain⟨hS1,hS2,hS3⟩:=hSw;go_simp;with_reducible rfl
    (try simp only[Act.put]);(try simp only[sIx]);(try simp only[sZ0,sZ1])
    refine takeH (some 24) (i:=4) (v:=?_) rfl (by kernel_rfl) (by kernel_rfl) (by kernel_rfl) (fun _ _ _ h=>h) (Or.inl ⟨by rfl,?_⟩) hHeld rfl ?_
    rotate_left
    ·intro w hSw;obtain⟨hS1,hS2,hS3⟩:=hSw;go_simp;with_reducible rfl
    (try simp only[Act.put]);(try simp only[sIx]);(try simp only[sZ0,sZ1])
    refine takeH (some 25) (i:=5) (v:=?_) rfl (by kernel_rfl) (by kernel_rfl) (by kernel_rfl) (fun _ _ _ h=>h) (Or.inl ⟨by rfl,?_⟩) hHeld rfl ?_
    rotate_left
    ·intro w hSw;obtain⟨hS1,hS2,hS3⟩:=hSw;go_simp;with_reducible rfl
    (try simp only[Act.put]);(try simp only[sIx]);(try simp only[sZ0,sZ1])
    refine takeH (some 26) (i:=6) (v:=?_) rfl (by kernel_rfl) (by kernel_rfl) (by kernel_rfl) (fun _ _ _ h=>h) (Or.inl ⟨by rfl,?_⟩) hHeld rfl ?_
    rotate_left
    ·intro w hSw;obtain⟨hS1,hS2,hS3⟩:=hSw;go_simp;with_reducible rfl
    (try simp only[Act.put]);(try simp only[sIx]);(try simp only[sZ0,sZ1])
    refine takeH (some 27) (i:=7) (v:=.agg (bv q2).toArray) rfl (by kernel_rfl) (by kernel_rfl) (by kernel_rfl) (fun _ _ _ h=>h) (yieldsIf_load_mid (by rfl) 159 (.tmp 26) (by rfl) R 1 (by rfl) (bv q2) _ (fun w1 hw1=>hw1.2.2) Tryz.underlying159 rfl (infoSecOf H512.out)) hHeld rfl ?_
    (try simp only[Act.put]);(try simp only[sIx]);(try simp only[sZ0,sZ1])
    refine takeH (some 28) (i:=8) (v:=?_) rfl (by kernel_rfl) (by kernel_rfl) (by kernel_rfl) (fun _ _ _ h=>h) (Or.inl ⟨by rfl,?_⟩) hHeld rfl ?_
    rotate_left
    ·intro w hSw;obtain⟨hS1,hS2,hS3⟩:=hSw;go_simp;with_reducible rfl
    (try simp only[Act.put]);(try simp only[sIx]);(try simp only[sZ0,sZ1])
    refine wpAnyH_ready (rs:=[9]) (by kernel_rfl) (by simp) (AllReadyH.cons rfl (fun K hK=>?_) AllReadyH.nil)
    rw[if_pos (by rfl)]
    refine wp_store_mid 159 _ _ (by rfl) S (q1 * 512) (bv q2).toArray (by rfl) (by rfl) HTh.out (infoSecOf' H512.out) (bvAll9 q2) ?_
    refine hK.out _ _ ⟨HF0.out.1,HF0.out.2.1,HF0.out.2.2⟩ (fun _=>?_)
    (try simp only[Act.put]);(try simp only[sIx]);(try simp only[sZ0,sZ1])
    clear hK K
    refine wpAnyH_done (by kernel_rfl) ?_ _
    refine NoPanic.normal ?_
    clear zc0 zr0 zr1 HTh HF0 HZ
    generalize Z.drew.setCells S (q1 * 512) (bv q2).toArray.toList=Z4 at *
    go_wp2_with fail
    go_roundw
    case rel=>exact⟨k+1,by omega,by go_num,HI3,HK3,HB3⟩
    case measure=>simp[intOf];omega
  ·have hge:¬(k:Int)<(n:Int):=by omega
   have hkn:k=n:=by omega
   subst hkn
   have HT:Hid (p.ca.take k=p.ca):=List.take_of_length_le (by rw[HN.out];exact Nat.le_refl _)
   rw[HT.out] at HI
   have d1:wr.cell? ⟨P,1,none⟩=some (.slice ca k cc):=HI.out.blk.cell 1
   have f1:=HI.out.blk.frozen 1
   have hg1:=gr_cell wr P 1 (.slice none 0 0)
   have HI2:Hid (IsPd X (wr.setCell ⟨P,1,none⟩ (.slice none 0 0)) P base S (.slice none 0 0) arm { p with st:=p.ca.foldl Pl.put p.st,ca:=[] }):=HI.out.turn hg1 (HI.out.blk.set 1 _) rfl rfl (OwnC.nil _ _) (fun k e=>by cases e) HI.out.armd HI.out.lo HI.out.hi
   have HK2:Hid (KeepB X w (wr.setCell ⟨P,1,none⟩ (.slice none 0 0))):=HK.out.trans (KeepB.one hg1 HI.out.xP)
   have HB2:Hid (Below base w (wr.setCell ⟨P,1,none⟩ (.slice none 0 0))):=HB.out.trans (bel_one hg1 HI.out.low HI.out.blk.lt)
   clear hg1 HI HK HB
   go_upto_region 10 with fail
   generalize wr.setCell ⟨P,1,none⟩ (.slice none 0 0)=Z at *
   have HAd:=at64Add P 5 p.fl Z (HI2.out.blk.cell 5) (HI2.out.blk.frozen 5) (by have:=HF.out.fl;omega)
   go_wp2_with fail
   refine HAd.mono ?_
   rintro e7 Z7 ⟨rfl,hz7⟩
   have hg7:=gr_cell Z P 5 (.int .u64 ((p.fl+1:Nat):Int))
   rw[←hz7] at hg7
   have HI7:Hid (IsPd X Z7 P base S (.slice none 0 0) arm p.flush):=by
    unfold Hid
    rw[HE.out.2]
    refine HI2.out.turn hg7 ?_ rfl rfl HI2.out.ca HI2.out.xC HI2.out.armd HI2.out.lo HI2.out.hi
    rw[hz7]
    exact HI2.out.blk.set 5 _
   have HK7:Hid (KeepB X w Z7):=HK2.out.trans (KeepB.one hg7 HI2.out.xP)
   have HB7:Hid (Below base w Z7):=HB2.out.trans (bel_one hg7 HI2.out.low HI2.out.blk.lt)
   clear hg7 hz7 HAd HI2 HK2 HB2
   go_wp2_with fail
   go_ret
   exact⟨by rw[HE.out.1];rfl,⟨S,_,arm,HI7.out⟩,HK7.out,HB7.out⟩
end
section
open Go.RowKit
attribute [local go_sem ↓] zvWr
end
section
open Go.RowKit
theorem IsD.on {X:Nat→Prop}{w w':World}{P base:Nat}{p:Pl}(h:IsD X w P base p)(hb:Below w.heap.size w w'):IsD X w' P base p:=by
 obtain⟨S,vC,arm,h⟩:=h
 exact⟨S,vC,arm,h.on hb⟩
theorem IsD.low {X:Nat→Prop}{w:World}{P base:Nat}{p:Pl}(h:IsD X w P base p):base≤w.heap.size:=by
 obtain⟨S,vC,arm,h⟩:=h
 have:=h.low
 have:=h.blk.lt
 omega
abbrev PD:List TypeId:=[109,159,200]
theorem IsPd.wide {X:Nat→Prop}{w:World}{P base S:Nat}{vC:Value}{arm:Int}{p:Pl}(h:IsPd X w P base S vC arm p):IsPd (fun k=>X k∨(k<w.heap.size∧k≠P∧k≠S∧vC.ownBlock≠some k)) w P base S vC arm p :=
 h.more _ (fun e=>e.elim h.xP (fun e=>e.2.1 rfl)) (fun e=>e.elim h.xS (fun e=>e.2.2.1 rfl)) (fun k hk e=>e.elim (h.xC k hk) (fun e=>e.2.2.2 hk)) (fun k hk=>hk.elim (h.xlt k) (fun e=>e.1))
theorem IsPd.toT {X:Nat→Prop}{w w':World}{P base S:Nat}{vC:Value}{arm:Int}{p:Pl}(h:IsPd X w P base S vC arm p)(hk:KeepB (fun k=>X k∨(k<w.heap.size∧k≠P∧k≠S∧vC.ownBlock≠some k)) w w'):KeepT PD w w' :=
 ⟨hk.size,fun k o ho hn=>by
  have hl:=(Array.getElem?_eq_some_iff.1 ho).1
  refine(hk.x k (.inr ⟨hl,fun e=>?_,fun e=>?_,fun e=>?_⟩) hl).trans ho
  ·subst e;exact hn _ _ _ (Option.some.inj (ho.symm.trans h.blk)) (by simp)
  ·subst e;exact hn _ _ _ (Option.some.inj (ho.symm.trans h.st)) (by simp)
  ·rcases h.ca.2 with⟨h1,_⟩|⟨g,cap,cur,h1,_,hg,_⟩
   ·rw[h1] at e;cases e
   ·rw[h1] at e
    have e2:g=k:=by simpa [Value.ownBlock] using e
    subst e2
    exact hn _ _ _ (Option.some.inj (ho.symm.trans hg)) (by simp)⟩
theorem IsPd.thin {X Y:Nat→Prop}{w:World}{P base S:Nat}{vC:Value}{arm:Int}{p:Pl}(h:IsPd Y w P base S vC arm p)(hy:∀k,X k→Y k):IsPd X w P base S vC arm p :=
 h.more X (fun e=>h.xP (hy _ e)) (fun e=>h.xS (hy _ e)) (fun k hk e=>h.xC k hk (hy _ e)) (fun k hk=>h.xlt k (hy k hk))
theorem IsD.thin {X Y:Nat→Prop}{w:World}{P base:Nat}{p:Pl}(h:IsD Y w P base p)(hy:∀k,X k→Y k):IsD X w P base p:=by
 obtain⟨S,vC,arm,h⟩:=h
 exact⟨S,vC,arm,h.thin hy⟩
theorem IsD.keep {X:Nat→Prop}{w w':World}{P base:Nat}{p:Pl}(h:IsD X w P base p){ts:List TypeId}(hk:KeepT ts w w')(h1:109∉ts)(h2:159∉ts)(h3:200∉ts):IsD X w' P base p:=by
 obtain⟨S,vC,arm,h⟩:=h
 exact⟨S,vC,arm,h.keep hk h1 h2 h3⟩
theorem writeT (X:Nat→Prop)(w:World)(P base:Nat)(p:Pl)(i:Int)(ba:Option Addr)(bc:Nat)(b:List UInt8)(h:IsD X w P base p)(hf:FewP p)(hB:∀W,KeepT PD w W→Below base w W→IsB W ba b.length bc b):
  Calls Tryz.prog 92 #[.pointer (some ⟨P,0,none⟩),.int .i64 i,.slice ba b.length bc] w fun e w'=>e=.returned (.int .i64 (p.wrE i b))∧IsD X w' P base (p.write i b)∧KeepT PD w w'∧KeepB X w w'∧Below base w w':=by
 obtain⟨S,vC,arm,h⟩:=h
 exact(codWrite _ w P base p i ba bc b ⟨S,vC,arm,h.wide⟩ hf (fun W hW hb=>hB W (h.toT hW) hb)).mono fun _ _ ⟨h1,h2,h3,h4⟩=>⟨h1,h2.thin (fun _ e=>.inl e),h.toT h3,h3.less (fun _ e=>.inl e),h4⟩
theorem flushT (X:Nat→Prop)(w:World)(P base:Nat)(p:Pl)(h:IsD X w P base p)(hf:FewP p):
  Calls Tryz.prog 93 #[.pointer (some ⟨P,0,none⟩)] w fun e w'=>e=.returned (.int .i64 p.flE)∧IsD X w' P base p.flush∧KeepT PD w w'∧KeepB X w w'∧Below base w w':=by
 obtain⟨S,vC,arm,h⟩:=h
 exact(codFlush _ w P base p ⟨S,vC,arm,h.wide⟩ hf).mono fun _ _ ⟨h1,h2,h3,h4⟩=>⟨h1,h2.thin (fun _ e=>.inl e),h.toT h3,h3.less (fun _ e=>.inl e),h4⟩
def secL (by' odd:UInt8):List UInt8:=(List.replicate 512 by').set odd.toNat odd
abbrev IsD0 (w:World)(P base:Nat)(p:Pl):Prop:=IsD (fun _=>False) w P base p
abbrev U10:List TypeId:=[25,5,4,84,3,30,33,26,133,64,87,144,50,215,91,35,71,152]
structure KP (base:Nat)(w w':World):Prop where
 o:KeepO U10 w w'
 b:Below base w w'
theorem KP.of_below {base:Nat}{w w':World}(h:Below w.heap.size w w')(hb:base≤w.heap.size):KP base w w':=⟨KeepO.of_below h,h.mono hb⟩
theorem KP.ofPD {base:Nat}{w w':World}(h:KeepT PD w w')(hb:Below base w w'):KP base w w':=⟨KeepO.ofT h (by decide),hb⟩
theorem make_run512 (w:World):∃w',(Instr.makeSlice 33 (.int .i64 512) (.int .i64 512)).run Tryz.prog w=.ok (.slice (some ⟨w.heap.size,0,none⟩) 512 512) w'∧OwnB w' w.heap.size (.slice (some ⟨w.heap.size,0,none⟩) 512 512) zero512∧Below w.heap.size w w':=by
 obtain⟨i0,hi,hz0,hz1,hz2⟩:=info_parts info8
 obtain⟨w',hrun,r1,r2⟩:=run_make_full (P:=Tryz.prog) w w.heap.size 33 5 i0 (.int .u8 0) 1 Tryz.underlying33 hi hz0 hz1 .i64 .i64 512 (by rw[hz2];omega) (by unfold maxLen;omega) (Nat.le_refl _)
 refine⟨w',hrun,?_,(Below.refl _ _).grown r2 (Nat.le_refl _) (fun k h=>by cases h)⟩
 rw[made_zeros] at r1
 unfold OwnB zero512
 rw[List.length_replicate]
 exact r1
structure JrnOK (JA:World→Nat→Nat→Nat→Jl→Prop)(TA:World→Nat→Nat→Nat→Nat→Tl→Jl→Prop):Prop where
 disk:∀ {w:World} {J P base:Nat} {j:Jl},JA w J P base j→IsD0 w P base j.p
 toJ:∀ {w:World} {T J P base:Nat} {t:Tl} {j:Jl},TA w T J P base t j→JA w J P base j
 turn:∀ {w w':World} {J P base:Nat} {j:Jl} {p':Pl},JA w J P base j→KeepT PD w w'→IsD0 w' P base p'→JA w' J P base ⟨p',j.seq,j.dead⟩
 keepJ:∀ {w w':World} {J P base:Nat} {j:Jl},JA w J P base j→KeepT CT w w'→JA w' J P base j
 keepT:∀ {w w':World} {T J P base:Nat} {t:Tl} {j:Jl},TA w T J P base t j→KeepT CT w w'→TA w' T J P base t j
 mount:∀(w:World) (P base m:Nat) (p:Pl),IsD0 w P base p→FewM p m→m≤80000 →
  Calls Tryz.prog 35 #[.pointer (some ⟨P,0,none⟩)] w fun e w'=>(if mountE p=0 then ∃J,e=.returned (.tuple #[.pointer (some ⟨J,0,none⟩),.int .i64 0])∧JA w' J P base ⟨mountP p,mountS p,false⟩ else e=.returned (.tuple #[.pointer none,.int .i64 (mountE p)])∧IsD0 w' P base (mountP p))∧KeepT PD w w'∧Below base w w'
 begin_:∀(w:World) (J P base m:Nat) (j:Jl),JA w J P base j→FewM j.p m→m≤80000 →
  Calls Tryz.prog 37 #[.pointer (some ⟨J,0,none⟩)] w fun e w'=>(∃T,e=.returned (.pointer (some ⟨T,0,none⟩))∧TA w' T J P base ⟨[],false⟩ j)∧KP base w w'
 write:∀(w:World) (T J P base m:Nat) (t:Tl) (j:Jl) (i:Int) (ba:Option Addr) (bc:Nat) (b:List UInt8),TA w T J P base t j→t.l.length≤48→FewM j.p m→m≤80000 → -9223372036854775808≤i→i≤9223372036854775807→b.length≤140737488351232→(∀W,KeepO [5] w W→Below base w W→IsB W ba b.length bc b) →
  Calls Tryz.prog 56 #[.pointer (some ⟨T,0,none⟩),.int .i64 i,.slice ba b.length bc] w fun e w'=>e=.returned (.int .i64 (t.wrE j i b))∧TA w' T J P base (t.write j i b) j∧KP base w w'
 read:∀(w:World) (T J P base m:Nat) (t:Tl) (j:Jl) (i:Int),TA w T J P base t j→t.l.length≤48→FewM j.p m→m≤80000 → -9223372036854775808≤i→i≤9223372036854775807→j.p.off=false →
  Calls Tryz.prog 140 #[.pointer (some ⟨T,0,none⟩),.int .i64 i] w fun e w'=>(∃v,e=.returned (.tuple #[v,.int .i64 (t.rdE j i)])∧IsV w' v (t.rdB j i))∧TA w' T J P base t j∧KP base w w'
 commit:∀(w:World) (T J P base m:Nat) (t:Tl) (j:Jl),TA w T J P base t j→t.l.length≤48→FewM j.p m→m≤80000→j.seq<18446744073709551616 →
  Calls Tryz.prog 54 #[.pointer (some ⟨T,0,none⟩)] w fun e w'=>e=.returned (.int .i64 (cmE t j))∧TA w' T J P base (cmT t j) (cmJ t j)∧KP base w w'
 size:∀(w:World) (J P base:Nat) (j:Jl),JA w J P base j →
  Calls Tryz.prog 38 #[.pointer (some ⟨J,0,none⟩)] w fun e w'=>e=.returned (.int .i64 (j.p.n:Int))∧Below w.heap.size w w'
 jread:∀(w:World) (J P base m:Nat) (j:Jl) (i:Int),JA w J P base j→FewM j.p m→m≤80000 → -9223372036854775808≤i→i≤9223372036854775807→j.p.off=false →
  Calls Tryz.prog 36 #[.pointer (some ⟨J,0,none⟩),.int .i64 i] w fun e w'=>(∃v,e=.returned (.tuple #[v,.int .i64 (jrE j.p i)])∧IsV w' v (jrB j.p i))∧Below w.heap.size w w'
end
end Go.Proofs.YtpecobmfabmpkaaGreatDoor
