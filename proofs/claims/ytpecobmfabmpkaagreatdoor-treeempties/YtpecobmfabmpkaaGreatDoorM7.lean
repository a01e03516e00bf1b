/- Pd7 -/
import Derived.Test.YtpecobmfabmpkaaGreatDoorM6
set_option maxRecDepth 20000
set_option maxHeartbeats 4000000
namespace Go.Proofs.YtpecobmfabmpkaaGreatDoor
open Go.RowKit
attribute [local go_sem ↓] zvWr
theorem Blk.whole {w:World}{R t:Nat}{cs:List Value}(h:Blk w R t cs):w.rangeAt R 0 cs:=fun j v hv=>by rw[h.cell,Nat.zero_add];exact hv
theorem codWrite (X:Nat→Prop)(w:World)(P base:Nat)(p:Pl)(i:Int)(ba:Option Addr)(bc:Nat)(b:List UInt8)(h:IsD X w P base p)(hf:FewP p)(hB:∀W,KeepB X w W→Below base w W→IsB W ba b.length bc b):
  Calls Tryz.prog 92 #[.pointer (some ⟨P,0,none⟩),.int .i64 i,.slice ba b.length bc] w fun e w'=>e=.returned (.int .i64 (p.wrE i b))∧IsD X w' P base (p.write i b)∧KeepB X w w'∧Below base w w':=by
 have HD:=mkHid h
 obtain⟨S,vC,arm,h⟩:=h
 have HR:=codReach P S p.n p.off i w (h.blk.cell 0) (h.blk.cell 3)
 have HH:=mkHid h
 have HF:=mkHid hf
 have HBy:=mkHid hB
 clear h hf hB
 cases hoff:p.off with
 | true =>
  have HE:Hid (p.wrE i b=51∧p.write i b=p):=by unfold Hid Pl.wrE Pl.write;simp[hoff]
  rw[hoff,if_pos rfl] at HR
  clear hoff
  go_enter Tryz.func92,Tryz.ntmps92
  go_wp2_with fail
  refine HR.mono ?_
  rintro e w1 ⟨rfl,rfl⟩
  go_wp2_with fail
  go_ret
  exact⟨by rw[HE.out.1];rfl,by rw[HE.out.2];exact HD.out,KeepB.refl _ _,Below.refl _ _⟩
 | false =>
 rw[hoff,if_neg (by simp)] at HR
 cases hin:inR p.n i with
 | false =>
  have HE:Hid (p.wrE i b=50∧p.write i b=p):=by unfold Hid Pl.wrE Pl.write;simp[hoff,hin]
  rw[hin,if_neg (by simp)] at HR
  clear hoff hin
  go_enter Tryz.func92,Tryz.ntmps92
  go_wp2_with fail
  refine HR.mono ?_
  rintro e w1 ⟨rfl,rfl⟩
  go_wp2_with fail
  go_ret
  exact⟨by rw[HE.out.1];rfl,by rw[HE.out.2];exact HD.out,KeepB.refl _ _,Below.refl _ _⟩
 | true =>
 rw[hin,if_pos rfl] at HR
 by_cases h512:b.length=512
 ·have hbz:(b.length:Int)=512:=by omega
  have c2:w.cell? ⟨P,2,none⟩=some (.int .i64 arm):=HH.out.blk.cell 2
  have f2:=HH.out.blk.frozen 2
  by_cases ha:arm=0
  ·have harm:p.arm=some 0:=by rw[HH.out.armd,ha];rfl
   have HE:Hid (p.wrE i b=51∧p.write i b={ p with off:=true }):=by unfold Hid Pl.wrE Pl.write;simp[hoff,hin,h512,harm]
   rw[ha] at c2
   have HSt:=atStoreAt P 3 true _ w (HH.out.blk.cell 3) (HH.out.blk.frozen 3)
   clear hoff hin harm
   go_enter Tryz.func92,Tryz.ntmps92
   go_wp2_with fail
   refine HR.mono ?_
   rintro e w1 ⟨rfl,hw1⟩
   obtain rfl:=hw1.symm
   go_wp2_with fail
   refine HSt.mono ?_
   rintro e w2 ⟨rfl,hw2⟩
   have hg:=gr_drewCell w P 3 (.int .u32 (flag true))
   rw[←hw2] at hg
   have HI2:Hid (IsPd X w2 P base S vC arm { p with off:=true }):=HH.out.turn hg (by rw[hw2];exact Blk.set (w:=w.drew) HH.out.blk 3 _) rfl rfl HH.out.ca HH.out.xC HH.out.armd HH.out.lo HH.out.hi
   have HK2:Hid (KeepB X w w2):=KeepB.one hg HH.out.xP
   have HB2:Hid (Below base w w2):=bel_one hg HH.out.low HH.out.blk.lt
   clear hg hw2 HSt
   go_wp2_with fail
   go_ret
   exact⟨by rw[HE.out.1];rfl,by rw[HE.out.2];exact⟨S,vC,arm,HI2.out⟩,HK2.out,HB2.out⟩
  ·have harm:¬p.arm=some 0:=by
    rw[HH.out.armd]
    unfold armOf
    split
    ·intro e
     have:=Option.some.inj e
     omega
    ·intro e;cases e
   have HE:Hid (p.wrE i b=0):=by unfold Hid Pl.wrE;simp[hoff,hin,h512,harm]
   have HWr:Hid (p.write i b={ p with arm:=p.arm.map (· - 1),wr:=p.wr+1,ca:=p.ca++[(i.toNat,b)] }):=by unfold Hid Pl.write;simp[hoff,hin,h512,harm]
   have hir:0≤i∧i<p.n:=by simpa [inR] using hin
   obtain⟨iN,rfl⟩:∃k:Nat,i=(k:Int):=⟨i.toNat,by omega⟩
   rw[Int.toNat_natCast] at HWr
   obtain⟨ca,cc,hvC,_⟩:=HH.out.ca.form (fun g hg=>(HF.out.at_ g hg).2)
   subst hvC
   have H512:=mkHid h512
   have HFn:=mkHid HF.out.ca
   have HFw:=mkHid HF.out.wr
   have HNe:Hid (∀R,w.heap.size≤R→(Value.slice ca p.ca.length cc).ownBlock≠some R):=fun R hR e=>by
    have:=(World.ownsRow.lt HH.out.ca R e).2
    omega
   obtain⟨n,hn⟩:∃n,n=p.ca.length:=⟨_,rfl⟩
   have HN:=mkHid hn
   rw[←hn] at HH HFn HNe
   have haz:¬(arm:Int)=0:=ha
   rw[h512]
   clear hoff hin harm hir hn h512 hbz
   rcases Int.lt_or_gt_of_ne ha with hlt|hgt
   ·have hd:decide (0<arm)=false:=decide_eq_false (by omega)
    have hnl:¬0<arm:=by omega
    obtain⟨Y,hY⟩:∃Y,Y=w:=⟨_,rfl⟩
    obtain⟨arm1,harm1⟩:∃a1,a1=arm:=⟨_,rfl⟩
    have HY:Hid (IsPd X Y P base S (.slice ca n cc) arm1 { p with arm:=p.arm.map (· - 1) }):=by
     rw[hY,harm1]
     exact { HH.out with armd:=armOf_neg HH.out.armd hlt }
    have KY:Hid (KeepB X w Y):=by rw[hY];exact KeepB.refl _ w
    have BY:Hid (Below base w Y):=by rw[hY];exact Below.refl _ w
    have HNe:Hid (∀R,Y.heap.size≤R→(Value.slice ca n cc).ownBlock≠some R):=by rw[hY];exact HNe.out
    go_enter Tryz.func92,Tryz.ntmps92
    go_wp2_with fail
    refine HR.mono ?_
    rintro e w1 ⟨rfl,hw1⟩
    obtain rfl:=hw1.symm
    go_upto_region 11 with fail
    rw[←hY]
    clear hY harm1 c2 f2 ha haz hlt hd hnl HR
    ·skip
     have HBn:Hid (Blk (Y.alloc (.cells zWr.toArray 200)) Y.heap.size 200 zWr):=Blk.new Y _ _
     have hzz:Hid (zWr.toArray.size=(Value.int .i64 (iN:Int):: zSec).toArray.size):=by unfold Hid;rw[wz_size,List.size_toArray,zWr_length]
     have HIW:Hid ((Tryz.prog.info? 200).map (·.size)=some (Value.int .i64 (iN:Int):: zSec).toArray.size):=by unfold Hid;rw[wz_size];exact infoWr
     have HDZ:Hid (Below Y.heap.size Y ((Y.alloc (.cells zWr.toArray 200)).setRow Y.heap.size (Value.int .i64 (iN:Int):: zSec).toArray)):=bel_row ((Below.refl _ Y).alloc (Nat.le_refl _) _) (Nat.le_refl _) _
     have HBZ:Hid (Blk ((Y.alloc (.cells zWr.toArray 200)).setRow Y.heap.size (Value.int .i64 (iN:Int):: zSec).toArray) Y.heap.size 200 (Value.int .i64 (iN:Int):: zSec)):=HBn.out.row _
     go_upto_region 12 with(first|(refine list_buildWr rfl _ rfl (iN:Int) rfl ?_)|(refine wpList_store_row rfl 200 _ _ rfl Y.heap.size (Value.int .i64 (iN:Int):: zSec).toArray rfl rfl _ _ HBn.out HIW.out hzz.out (wz_all _) ?_))
     clear HBn hzz HIW
     generalize (Y.alloc (.cells zWr.toArray 200)).setRow Y.heap.size (Value.int .i64 (iN:Int):: zSec).toArray=Z at *
     obtain⟨R,hR⟩:∃R,R=Y.heap.size:=⟨_,rfl⟩
     have HR2:=mkHid hR
     rw[←hR] at HBZ HDZ ⊢
     clear hR
     have kZ:KeepB X w Z:=KY.out.trans (KeepB.of_below (by rw[←HR2.out];exact HDZ.out))
     have bZ:Below base w Z:=BY.out.trans (HDZ.out.mono (by rw[HR2.out];have:=HY.out.low;have:=HY.out.blk.lt;omega))
     obtain⟨Z2,hrun,hB2,hg2⟩:=copyB Z R 200 1 _ HBZ.out ba 512 bc b (by have:=HBy.out Z kZ bZ;rw[H512.out] at this;exact this) (by omega) (by rw[List.length_cons,zSec_length];omega)
     rw[putL_wr iN b H512.out] at hB2
     have HB2:=mkHid hB2
     have HD2:Hid (Below Y.heap.size Y Z2):=by rw[←HR2.out];exact HDZ.out.trans (bel_one hg2 (Nat.le_refl _) HBZ.out.lt)
     have hRt:R<Z2.heap.size:=hB2.lt
     clear hB2 hg2 HDZ HBZ kZ bZ
     go_upto_region 13 with fail
     clear hrun
     refine wp_region_noPanic ?_
     refine wp_region_held_drew (S:=fun w'=>Blk w' R 200 (wq (iN,b))) (by kernel_rfl) HB2.out (fun hHeld=>?_)
     refine takeH (some 45) (i:=0) (v:=?_) rfl (by kernel_rfl) (by kernel_rfl) (by kernel_rfl) (fun _ _ _ h=>h) (Or.inl ⟨by rfl,?_⟩) hHeld rfl ?_
     rotate_left
     ·intro w hSw;go_simp;with_reducible rfl
     (try simp only[Act.put]);(try simp only[List.setIfInBounds_toArray]);(try simp only[List.set_cons_zero,List.set_cons_succ])
     refine takeH (some 46) (i:=1) (v:=?_) rfl (by kernel_rfl) (by kernel_rfl) (by kernel_rfl) (fun _ _ _ h=>h) (Or.inl ⟨by rfl,?_⟩) hHeld rfl ?_
     rotate_left
     ·intro w hSw;go_simp;with_reducible rfl
     (try simp only[Act.put]);(try simp only[List.setIfInBounds_toArray]);(try simp only[List.set_cons_zero,List.set_cons_succ])
     refine takeH (some 47) (i:=2) (v:=?_) rfl (by kernel_rfl) (by kernel_rfl) (by kernel_rfl) (fun _ _ _ h=>h) (Or.inl ⟨by rfl,?_⟩) hHeld rfl ?_
     rotate_left
     ·intro w hSw;go_simp;with_reducible rfl
     (try simp only[Act.put]);(try simp only[List.setIfInBounds_toArray]);(try simp only[List.set_cons_zero,List.set_cons_succ])
     refine takeH (some 48) (i:=3) (v:=?_) rfl (by kernel_rfl) (by kernel_rfl) (by kernel_rfl) (fun _ _ _ h=>h) (Or.inl ⟨by rfl,?_⟩) hHeld rfl ?_
     rotate_left
     ·intro w hSw;go_simp;with_reducible rfl
     (try simp only[Act.put]);(try simp only[List.setIfInBounds_toArray]);(try simp only[List.set_cons_zero,List.set_cons_succ])
     refine takeH (some 50) (i:=5) (v:=.agg (wq (iN,b)).toArray) rfl (by kernel_rfl) (by kernel_rfl) (by kernel_rfl) (fun _ _ _ h=>h) (yieldsIf_load_mid (by rfl) 200 (.tmp 8) (by rfl) R 0 (by rfl) (wq (iN,b)) _ (fun w1 hw1=>Blk.whole hw1) Tryz.underlying200 rfl (by rw[wq_length (g:=(iN,b)) H512.out];exact infoWr)) hHeld rfl ?_
     (try simp only[Act.put]);(try simp only[List.setIfInBounds_toArray]);(try simp only[List.set_cons_zero,List.set_cons_succ])
     have DW:Below Y.heap.size Y Z2.drew:=HD2.out.drew
     clear HD2
     have hRt:R<Z2.drew.heap.size:=hRt
     generalize Z2.drew=Z3 at *
     refine wpAnyH_ready (rs:=[4,6]) (by kernel_rfl) (by simp) ?_
     refine AllReadyH.cons rfl (fun K hK=>?_) (AllReadyH.cons rfl (fun K hK=>?_) AllReadyH.nil)
     ·skip
      have hL:Z3.cell? ⟨P,1,none⟩=some (.slice ca n cc):=(HY.out.on DW).blk.cell 1
      go_simp
      clear hL
      refine hK.out _ _ hHeld (fun hHeld=>?_)
      (try simp only[Act.put]);(try simp only[List.setIfInBounds_toArray]);(try simp only[List.set_cons_zero,List.set_cons_succ])
      clear hK K
      refine wpAnyH_ready (rs:=[6]) (by kernel_rfl) (by simp) (AllReadyH.cons rfl (fun K hK=>?_) AllReadyH.nil)
      refine step_buildWr Z3 (by rfl) _ (by rfl) (wq (iN,b)) (wq_length (g:=(iN,b)) H512.out) (by rfl) 51 rfl ?_
      have D4:=DW.alloc DW.size (.cells (wq (iN,b)).toArray 200)
      have KM:Blk (Z3.alloc (.cells (wq (iN,b)).toArray 200)) Z3.heap.size 200 (wq (iN,b)):=Blk.new Z3 _ _
      refine hK.out _ _ (hHeld.alloc _) (fun hHeld=>?_)
      (try simp only[Act.put]);(try simp only[List.setIfInBounds_toArray]);(try simp only[List.set_cons_zero,List.set_cons_succ])
      clear hK K DW
      have hRm:R<Z3.heap.size:=hRt
      generalize Z3.heap.size=bM at *
      generalize Z3.alloc (.cells (wq (iN,b)).toArray 200)=Z4 at *
      have DW:=D4
      clear D4
      refine wpAnyH_ready (rs:=[7]) (by kernel_rfl) (by simp) (AllReadyH.cons rfl (fun K hK=>?_) AllReadyH.nil)
      have IW:=HY.out.on DW
      have hva:p.ca.length=n:=HN.out.symm
      refine step_appC Z4 (by rfl) _ _ (by rfl) base (.slice ca n cc) p.ca (by rfl) IW.ca bM (iN,b) H512.out (by rfl) KM (by rw[hva];exact HFn.out) (by have:=IW.low;have:=IW.blk.lt;omega) 52 rfl ?_
      intro kk cap2 Z5 ho2 hg2 hat
      have hat2:(Value.slice (some ⟨kk,0,none⟩) (p.ca.length+1) cap2).ownBlock=(Value.slice ca n cc).ownBlock∨(Value.slice (some ⟨kk,0,none⟩) (p.ca.length+1) cap2).ownBlock=some Z4.heap.size:=by
       rcases hat with h5|h5
       ·exact .inl h5.symm
       ·exact .inr (by rw[h5];rfl)
      obtain⟨I6,K6,B6,d1,f1⟩:=IW.push hg2 ho2 hat2
      rw[hva] at I6 K6 B6 ho2 hat2 ⊢
      have hHR:Blk Z5 R 200 (wq (iN,b)):=(hg2.block R hHeld.lt (fun e5=>HNe.out R (by rw[HR2.out];exact Nat.le_refl _) e5.symm)).trans hHeld
      refine hK.out _ _ hHR (fun hHeld=>?_)
      (try simp only[Act.put]);(try simp only[List.setIfInBounds_toArray]);(try simp only[List.set_cons_zero,List.set_cons_succ])
      clear hK K
      refine takeH (some 53) (i:=8) (v:=?_) rfl (by kernel_rfl) (by kernel_rfl) (by kernel_rfl) (fun _ _ _ h=>h) (Or.inl ⟨by rfl,?_⟩) hHeld rfl ?_
      rotate_left
      ·intro w hSw;go_simp;with_reducible rfl
      (try simp only[Act.put]);(try simp only[List.setIfInBounds_toArray]);(try simp only[List.set_cons_zero,List.set_cons_succ])
      refine takeH (some 54) (i:=9) (v:=?_) rfl (by kernel_rfl) (by kernel_rfl) (by kernel_rfl) (fun _ _ _ h=>h) (Or.inl ⟨by rfl,?_⟩) hHeld rfl ?_
      rotate_left
      ·intro w hSw;go_simp;with_reducible rfl
      (try simp only[Act.put]);(try simp only[List.setIfInBounds_toArray]);(try simp only[List.set_cons_zero,List.set_cons_succ])
      refine wpAnyH_ready (rs:=[10]) (by kernel_rfl) (by simp) (AllReadyH.cons rfl (fun K hK=>?_) AllReadyH.nil)
      have hRP:R≠P:=by rw[HR2.out];have:=HY.out.blk.lt;omega
      go_simp
      refine hK.out _ _ (hHR.other _ _ hRP) (fun _=>?_)
      (try simp only[Act.put]);(try simp only[List.setIfInBounds_toArray]);(try simp only[List.set_cons_zero,List.set_cons_succ])
      clear hK K
      refine wpAnyH_done (by kernel_rfl) ?_ _
      refine NoPanic.normal ?_
      have HI6:=mkHid I6
      have HK6:Hid (KeepB X w (Z5.setCell ⟨P,1,none⟩ (.slice (some ⟨kk,0,none⟩) (n+1) cap2))):=(KY.out.trans (KeepB.of_below DW)).trans K6
      have HB6:Hid (Below base w (Z5.setCell ⟨P,1,none⟩ (.slice (some ⟨kk,0,none⟩) (n+1) cap2))):=BY.out.trans ((DW.mono (by have:=HY.out.low;have:=HY.out.blk.lt;omega)).trans B6)
      clear I6 K6 B6 d1 f1 hHR hHeld IW ho2 hg2 hat hat2 KM DW
      generalize Z5.setCell ⟨P,1,none⟩ (.slice (some ⟨kk,0,none⟩) (n+1) cap2)=Z6 at *
      have HAd:=at64Add P 4 p.wr Z6 (HI6.out.blk.cell 4) (HI6.out.blk.frozen 4) (by have:=HFw.out;omega)
      go_wp2_with fail
      refine HAd.mono ?_
      rintro e7 Z7 ⟨rfl,hz7⟩
      have hg7:=gr_cell Z6 P 4 (.int .u64 ((p.wr+1:Nat):Int))
      rw[←hz7] at hg7
      have I7:IsPd X Z7 P base S (.slice (some ⟨kk,0,none⟩) (n+1) cap2) arm1 (p.write (iN:Int) b):=by
       rw[HWr.out]
       refine HI6.out.turn hg7 ?_ rfl rfl HI6.out.ca HI6.out.xC HI6.out.armd HI6.out.lo HI6.out.hi
       rw[hz7]
       exact HI6.out.blk.set 4 _
      have HI7:=mkHid I7
      have HK7:Hid (KeepB X w Z7):=HK6.out.trans (KeepB.one hg7 HI6.out.xP)
      have HB7:Hid (Below base w Z7):=HB6.out.trans (bel_one hg7 HI6.out.low HI6.out.blk.lt)
      clear I7 hg7 hz7 HAd HI6 HK6 HB6
      go_wp2_with fail
      go_ret
      exact⟨by rw[HE.out];rfl,⟨S,_,arm1,HI7.out⟩,HK7.out,HB7.out⟩
     ·skip
      refine step_buildWr Z3 (by rfl) _ (by rfl) (wq (iN,b)) (wq_length (g:=(iN,b)) H512.out) (by rfl) 51 rfl ?_
      have D4:=DW.alloc DW.size (.cells (wq (iN,b)).toArray 200)
      have KM:Blk (Z3.alloc (.cells (wq (iN,b)).toArray 200)) Z3.heap.size 200 (wq (iN,b)):=Blk.new Z3 _ _
      refine hK.out _ _ (hHeld.alloc _) (fun hHeld=>?_)
      (try simp only[Act.put]);(try simp only[List.setIfInBounds_toArray]);(try simp only[List.set_cons_zero,List.set_cons_succ])
      clear hK K DW
      have hRm:R<Z3.heap.size:=hRt
      generalize Z3.heap.size=bM at *
      generalize Z3.alloc (.cells (wq (iN,b)).toArray 200)=Z4 at *
      have DW:=D4
      clear D4
      refine wpAnyH_ready (rs:=[4]) (by kernel_rfl) (by simp) (AllReadyH.cons rfl (fun K hK=>?_) AllReadyH.nil)
      have hL:Z4.cell? ⟨P,1,none⟩=some (.slice ca n cc):=(HY.out.on DW).blk.cell 1
      go_simp
      clear hL
      refine hK.out _ _ hHeld (fun hHeld=>?_)
      (try simp only[Act.put]);(try simp only[List.setIfInBounds_toArray]);(try simp only[List.set_cons_zero,List.set_cons_succ])
      clear hK K
      refine wpAnyH_ready (rs:=[7]) (by kernel_rfl) (by simp) (AllReadyH.cons rfl (fun K hK=>?_) AllReadyH.nil)
      have IW:=HY.out.on DW
      have hva:p.ca.length=n:=HN.out.symm
      refine step_appC Z4 (by rfl) _ _ (by rfl) base (.slice ca n cc) p.ca (by rfl) IW.ca bM (iN,b) H512.out (by rfl) KM (by rw[hva];exact HFn.out) (by have:=IW.low;have:=IW.blk.lt;omega) 52 rfl ?_
      intro kk cap2 Z5 ho2 hg2 hat
      have hat2:(Value.slice (some ⟨kk,0,none⟩) (p.ca.length+1) cap2).ownBlock=(Value.slice ca n cc).ownBlock∨(Value.slice (some ⟨kk,0,none⟩) (p.ca.length+1) cap2).ownBlock=some Z4.heap.size:=by
       rcases hat with h5|h5
       ·exact .inl h5.symm
       ·exact .inr (by rw[h5];rfl)
      obtain⟨I6,K6,B6,d1,f1⟩:=IW.push hg2 ho2 hat2
      rw[hva] at I6 K6 B6 ho2 hat2 ⊢
      have hHR:Blk Z5 R 200 (wq (iN,b)):=(hg2.block R hHeld.lt (fun e5=>HNe.out R (by rw[HR2.out];exact Nat.le_refl _) e5.symm)).trans hHeld
      refine hK.out _ _ hHR (fun hHeld=>?_)
      (try simp only[Act.put]);(try simp only[List.setIfInBounds_toArray]);(try simp only[List.set_cons_zero,List.set_cons_succ])
      clear hK K
      refine takeH (some 53) (i:=8) (v:=?_) rfl (by kernel_rfl) (by kernel_rfl) (by kernel_rfl) (fun _ _ _ h=>h) (Or.inl ⟨by rfl,?_⟩) hHeld rfl ?_
      rotate_left
      ·intro w hSw;go_simp;with_reducible rfl
      (try simp only[Act.put]);(try simp only[List.setIfInBounds_toArray]);(try simp only[List.set_cons_zero,List.set_cons_succ])
      refine takeH (some 54) (i:=9) (v:=?_) rfl (by kernel_rfl) (by kernel_rfl) (by kernel_rfl) (fun _ _ _ h=>h) (Or.inl ⟨by rfl,?_⟩) hHeld rfl ?_
      rotate_left
      ·intro w hSw;go_simp;with_reducible rfl
      (try simp only[Act.put]);(try simp only[List.setIfInBounds_toArray]);(try simp only[List.set_cons_zero,List.set_cons_succ])
      refine wpAnyH_ready (rs:=[10]) (by kernel_rfl) (by simp) (AllReadyH.cons rfl (fun K hK=>?_) AllReadyH.nil)
      have hRP:R≠P:=by rw[HR2.out];have:=HY.out.blk.lt;omega
      go_simp
      refine hK.out _ _ (hHR.other _ _ hRP) (fun _=>?_)
      (try simp only[Act.put]);(try simp only[List.setIfInBounds_toArray]);(try simp only[List.set_cons_zero,List.set_cons_succ])
      clear hK K
      refine wpAnyH_done (by kernel_rfl) ?_ _
      refine NoPanic.normal ?_
      have HI6:=mkHid I6
      have HK6:Hid (KeepB X w (Z5.setCell ⟨P,1,none⟩ (.slice (some ⟨kk,0,none⟩) (n+1) cap2))):=(KY.out.trans (KeepB.of_below DW)).trans K6
      have HB6:Hid (Below base w (Z5.setCell ⟨P,1,none⟩ (.slice (some ⟨kk,0,none⟩) (n+1) cap2))):=BY.out.trans ((DW.mono (by have:=HY.out.low;have:=HY.out.blk.lt;omega)).trans B6)
      clear I6 K6 B6 d1 f1 hHR hHeld IW ho2 hg2 hat hat2 KM DW
      generalize Z5.setCell ⟨P,1,none⟩ (.slice (some ⟨kk,0,none⟩) (n+1) cap2)=Z6 at *
      have HAd:=at64Add P 4 p.wr Z6 (HI6.out.blk.cell 4) (HI6.out.blk.frozen 4) (by have:=HFw.out;omega)
      go_wp2_with fail
      refine HAd.mono ?_
      rintro e7 Z7 ⟨rfl,hz7⟩
      have hg7:=gr_cell Z6 P 4 (.int .u64 ((p.wr+1:Nat):Int))
      rw[←hz7] at hg7
      have I7:IsPd X Z7 P base S (.slice (some ⟨kk,0,none⟩) (n+1) cap2) arm1 (p.write (iN:Int) b):=by
       rw[HWr.out]
       refine HI6.out.turn hg7 ?_ rfl rfl HI6.out.ca HI6.out.xC HI6.out.armd HI6.out.lo HI6.out.hi
       rw[hz7]
       exact HI6.out.blk.set 4 _
      have HI7:=mkHid I7
      have HK7:Hid (KeepB X w Z7):=HK6.out.trans (KeepB.one hg7 HI6.out.xP)
      have HB7:Hid (Below base w Z7):=HB6.out.trans (bel_one hg7 HI6.out.low HI6.out.blk.lt)
      clear I7 hg7 hz7 HAd HI6 HK6 HB6
      go_wp2_with fail
      go_ret
      exact⟨by rw[HE.out];rfl,⟨S,_,arm1,HI7.out⟩,HK7.out,HB7.out⟩
   ·have hd:decide (0<arm)=true:=decide_eq_true (by omega)
    have hgl:0<arm:=by omega
    have hhi:=HH.out.hi
    obtain⟨arm1,harm1⟩:∃a1,a1=arm-1:=⟨_,rfl⟩
    have HY:Hid (IsPd X (w.setCell ⟨P,2,none⟩ (.int .i64 (arm-1))) P base S (.slice ca n cc) arm1 { p with arm:=p.arm.map (· - 1) }):=by
     rw[harm1]
     exact HH.out.turn (gr_cell w P 2 _) (HH.out.blk.set 2 _) rfl rfl HH.out.ca HH.out.xC (armOf_less HH.out.armd hgl) (by omega) (by omega)
    have KY:Hid (KeepB X w (w.setCell ⟨P,2,none⟩ (.int .i64 (arm-1)))):=KeepB.one (gr_cell w P 2 _) HH.out.xP
    have BY:Hid (Below base w (w.setCell ⟨P,2,none⟩ (.int .i64 (arm-1)))):=bel_one (gr_cell w P 2 _) HH.out.low HH.out.blk.lt
    have HNe:Hid (∀R,(w.setCell ⟨P,2,none⟩ (.int .i64 (arm-1))).heap.size≤R→(Value.slice ca n cc).ownBlock≠some R):=fun R hR=>HNe.out R (Nat.le_trans BY.out.size hR)
    go_enter Tryz.func92,Tryz.ntmps92
    go_wp2_with fail
    refine HR.mono ?_
    rintro e w1 ⟨rfl,hw1⟩
    obtain rfl:=hw1.symm
    go_upto_region 11 with fail
    generalize w.setCell ⟨P,2,none⟩ (.int .i64 (arm-1))=Y at *
    clear harm1 c2 f2 ha haz hgt hd hgl hhi HR
    ·skip
     have HBn:Hid (Blk (Y.alloc (.cells zWr.toArray 200)) Y.heap.size 200 zWr):=Blk.new Y _ _
     have hzz:Hid (zWr.toArray.size=(Value.int .i64 (iN:Int):: zSec).toArray.size):=by unfold Hid;rw[wz_size,List.size_toArray,zWr_length]
     have HIW:Hid ((Tryz.prog.info? 200).map (·.size)=some (Value.int .i64 (iN:Int):: zSec).toArray.size):=by unfold Hid;rw[wz_size];exact infoWr
     have HDZ:Hid (Below Y.heap.size Y ((Y.alloc (.cells zWr.toArray 200)).setRow Y.heap.size (Value.int .i64 (iN:Int):: zSec).toArray)):=bel_row ((Below.refl _ Y).alloc (Nat.le_refl _) _) (Nat.le_refl _) _
     have HBZ:Hid (Blk ((Y.alloc (.cells zWr.toArray 200)).setRow Y.heap.size (Value.int .i64 (iN:Int):: zSec).toArray) Y.heap.size 200 (Value.int .i64 (iN:Int):: zSec)):=HBn.out.row _
     go_upto_region 12 with(first|(refine list_buildWr rfl _ rfl (iN:Int) rfl ?_)|(refine wpList_store_row rfl 200 _ _ rfl Y.heap.size (Value.int .i64 (iN:Int):: zSec).toArray rfl rfl _ _ HBn.out HIW.out hzz.out (wz_all _) ?_))
     clear HBn hzz HIW
     generalize (Y.alloc (.cells zWr.toArray 200)).setRow Y.heap.size (Value.int .i64 (iN:Int):: zSec).toArray=Z at *
     obtain⟨R,hR⟩:∃R,R=Y.heap.size:=⟨_,rfl⟩
     have HR2:=mkHid hR
     rw[←hR] at HBZ HDZ ⊢
     clear hR
     have kZ:KeepB X w Z:=KY.out.trans (KeepB.of_below (by rw[←HR2.out];exact HDZ.out))
     have bZ:Below base w Z:=BY.out.trans (HDZ.out.mono (by rw[HR2.out];have:=HY.out.low;have:=HY.out.blk.lt;omega))
     obtain⟨Z2,hrun,hB2,hg2⟩:=copyB Z R 200 1 _ HBZ.out ba 512 bc b (by have:=HBy.out Z kZ bZ;rw[H512.out] at this;exact this) (by omega) (by rw[List.length_cons,zSec_length];omega)
     rw[putL_wr iN b H512.out] at hB2
     have HB2:=mkHid hB2
     have HD2:Hid (Below Y.heap.size Y Z2):=by rw[←HR2.out];exact HDZ.out.trans (bel_one hg2 (Nat.le_refl _) HBZ.out.lt)
     have hRt:R<Z2.heap.size:=hB2.lt
     clear hB2 hg2 HDZ HBZ kZ bZ
     go_upto_region 13 with fail
     clear hrun
     refine wp_region_noPanic ?_
     refine wp_region_held_drew (S:=fun w'=>Blk w' R 200 (wq (iN,b))) (by kernel_rfl) HB2.out (fun hHeld=>?_)
     refine takeH (some 45) (i:=0) (v:=?_) rfl (by kernel_rfl) (by kernel_rfl) (by kernel_rfl) (fun _ _ _ h=>h) (Or.inl ⟨by rfl,?_⟩) hHeld rfl ?_
     rotate_left
     ·intro w hSw;go_simp;with_reducible rfl
     (try simp only[Act.put]);(try simp only[List.setIfInBounds_toArray]);(try simp only[List.set_cons_zero,List.set_cons_succ])
     refine takeH (some 46) (i:=1) (v:=?_) rfl (by kernel_rfl) (by kernel_rfl) (by kernel_rfl) (fun _ _ _ h=>h) (Or.inl ⟨by rfl,?_⟩) hHeld rfl ?_
     rotate_left
     ·intro w hSw;go_simp;with_reducible rfl
     (try simp only[Act.put]);(try simp only[List.setIfInBounds_toArray]);(try simp only[List.set_cons_zero,List.set_cons_succ])
     refine takeH (some 47) (i:=2) (v:=?_) rfl (by kernel_rfl) (by kernel_rfl) (by kernel_rfl) (fun _ _ _ h=>h) (Or.inl ⟨by rfl,?_⟩) hHeld rfl ?_
     rotate_left
     ·intro w hSw;go_simp;with_reducible rfl
     (try simp only[Act.put]);(try simp only[List.setIfInBounds_toArray]);(try simp only[List.set_cons_zero,List.set_cons_succ])
     refine takeH (some 48) (i:=3) (v:=?_) rfl (by kernel_rfl) (by kernel_rfl) (by kernel_rfl) (fun _ _ _ h=>h) (Or.inl ⟨by rfl,?_⟩) hHeld rfl ?_
     rotate_left
     ·intro w hSw;go_simp;with_reducible rfl
     (try simp only[Act.put]);(try simp only[List.setIfInBounds_toArray]);(try simp only[List.set_cons_zero,List.set_cons_succ])
     refine takeH (some 50) (i:=5) (v:=.agg (wq (iN,b)).toArray) rfl (by kernel_rfl) (by kernel_rfl) (by kernel_rfl) (fun _ _ _ h=>h) (yieldsIf_load_mid (by rfl) 200 (.tmp 8) (by rfl) R 0 (by rfl) (wq (iN,b)) _ (fun w1 hw1=>Blk.whole hw1) Tryz.underlying200 rfl (by rw[wq_length (g:=(iN,b)) H512.out];exact infoWr)) hHeld rfl ?_
     (try simp only[Act.put]);(try simp only[List.setIfInBounds_toArray]);(try simp only[List.set_cons_zero,List.set_cons_succ])
     have DW:Below Y.heap.size Y Z2.drew:=HD2.out.drew
     clear HD2
     have hRt:R<Z2.drew.heap.size:=hRt
     generalize Z2.drew=Z3 at *
     refine wpAnyH_ready (rs:=[4,6]) (by kernel_rfl) (by simp) ?_
     refine AllReadyH.cons rfl (fun K hK=>?_) (AllReadyH.cons rfl (fun K hK=>?_) AllReadyH.nil)
     ·skip
      have hL:Z3.cell? ⟨P,1,none⟩=some (.slice ca n cc):=(HY.out.on DW).blk.cell 1
      go_simp
      clear hL
      refine hK.out _ _ hHeld (fun hHeld=>?_)
      (try simp only[Act.put]);(try simp only[List.setIfInBounds_toArray]);(try simp only[List.set_cons_zero,List.set_cons_succ])
      clear hK K
      refine wpAnyH_ready (rs:=[6]) (by kernel_rfl) (by simp) (AllReadyH.cons rfl (fun K hK=>?_) AllReadyH.nil)
      refine step_buildWr Z3 (by rfl) _ (by rfl) (wq (iN,b)) (wq_length (g:=(iN,b)) H512.out) (by rfl) 51 rfl ?_
      have D4:=DW.alloc DW.size (.cells (wq (iN,b)).toArray 200)
      have KM:Blk (Z3.alloc (.cells (wq (iN,b)).toArray 200)) Z3.heap.size 200 (wq (iN,b)):=Blk.new Z3 _ _
      refine hK.out _ _ (hHeld.alloc _) (fun hHeld=>?_)
      (try simp only[Act.put]);(try simp only[List.setIfInBounds_toArray]);(try simp only[List.set_cons_zero,List.set_cons_succ])
      clear hK K DW
      have hRm:R<Z3.heap.size:=hRt
      generalize Z3.heap.size=bM at *
      generalize Z3.alloc (.cells (wq (iN,b)).toArray 200)=Z4 at *
      have DW:=D4
      clear D4
      refine wpAnyH_ready (rs:=[7]) (by kernel_rfl) (by simp) (AllReadyH.cons rfl (fun K hK=>?_) AllReadyH.nil)
      have IW:=HY.out.on DW
      have hva:p.ca.length=n:=HN.out.symm
      refine step_appC Z4 (by rfl) _ _ (by rfl) base (.slice ca n cc) p.ca (by rfl) IW.ca bM (iN,b) H512.out (by rfl) KM (by rw[hva];exact HFn.out) (by have:=IW.low;have:=IW.blk.lt;omega) 52 rfl ?_
      intro kk cap2 Z5 ho2 hg2 hat
      have hat2:(Value.slice (some ⟨kk,0,none⟩) (p.ca.length+1) cap2).ownBlock=(Value.slice ca n cc).ownBlock∨(Value.slice (some ⟨kk,0,none⟩) (p.ca.length+1) cap2).ownBlock=some Z4.heap.size:=by
       rcases hat with h5|h5
       ·exact .inl h5.symm
       ·exact .inr (by rw[h5];rfl)
      obtain⟨I6,K6,B6,d1,f1⟩:=IW.push hg2 ho2 hat2
      rw[hva] at I6 K6 B6 ho2 hat2 ⊢
      have hHR:Blk Z5 R 200 (wq (iN,b)):=(hg2.block R hHeld.lt (fun e5=>HNe.out R (by rw[HR2.out];exact Nat.le_refl _) e5.symm)).trans hHeld
      refine hK.out _ _ hHR (fun hHeld=>?_)
      (try simp only[Act.put]);(try simp only[List.setIfInBounds_toArray]);(try simp only[List.set_cons_zero,List.set_cons_succ])
      clear hK K
      refine takeH (some 53) (i:=8) (v:=?_) rfl (by kernel_rfl) (by kernel_rfl) (by kernel_rfl) (fun _ _ _ h=>h) (Or.inl ⟨by rfl,?_⟩) hHeld rfl ?_
      rotate_left
      ·intro w hSw;go_simp;with_reducible rfl
      (try simp only[Act.put]);(try simp only[List.setIfInBounds_toArray]);(try simp only[List.set_cons_zero,List.set_cons_succ])
      refine takeH (some 54) (i:=9) (v:=?_) rfl (by kernel_rfl) (by kernel_rfl) (by kernel_rfl) (fun _ _ _ h=>h) (Or.inl ⟨by rfl,?_⟩) hHeld rfl ?_
      rotate_left
      ·intro w hSw;go_simp;with_reducible rfl
      (try simp only[Act.put]);(try simp only[List.setIfInBounds_toArray]);(try simp only[List.set_cons_zero,List.set_cons_succ])
      refine wpAnyH_ready (rs:=[10]) (by kernel_rfl) (by simp) (AllReadyH.cons rfl (fun K hK=>?_) AllReadyH.nil)
      have hRP:R≠P:=by rw[HR2.out];have:=HY.out.blk.lt;omega
      go_simp
      refine hK.out _ _ (hHR.other _ _ hRP) (fun _=>?_)
      (try simp only[Act.put]);(try simp only[List.setIfInBounds_toArray]);(try simp only[List.set_cons_zero,List.set_cons_succ])
      clear hK K
      refine wpAnyH_done (by kernel_rfl) ?_ _
      refine NoPanic.normal ?_
      have HI6:=mkHid I6
      have HK6:Hid (KeepB X w (Z5.setCell ⟨P,1,none⟩ (.slice (some ⟨kk,0,none⟩) (n+1) cap2))):=(KY.out.trans (KeepB.of_below DW)).trans K6
      have HB6:Hid (Below base w (Z5.setCell ⟨P,1,none⟩ (.slice (some ⟨kk,0,none⟩) (n+1) cap2))):=BY.out.trans ((DW.mono (by have:=HY.out.low;have:=HY.out.blk.lt;omega)).trans B6)
      clear I6 K6 B6 d1 f1 hHR hHeld IW ho2 hg2 hat hat2 KM DW
      generalize Z5.setCell ⟨P,1,none⟩ (.slice (some ⟨kk,0,none⟩) (n+1) cap2)=Z6 at *
      have HAd:=at64Add P 4 p.wr Z6 (HI6.out.blk.cell 4) (HI6.out.blk.frozen 4) (by have:=HFw.out;omega)
      go_wp2_with fail
      refine HAd.mono ?_
      rintro e7 Z7 ⟨rfl,hz7⟩
      have hg7:=gr_cell Z6 P 4 (.int .u64 ((p.wr+1:Nat):Int))
      rw[←hz7] at hg7
      have I7:IsPd X Z7 P base S (.slice (some ⟨kk,0,none⟩) (n+1) cap2) arm1 (p.write (iN:Int) b):=by
       rw[HWr.out]
       refine HI6.out.turn hg7 ?_ rfl rfl HI6.out.ca HI6.out.xC HI6.out.armd HI6.out.lo HI6.out.hi
       rw[hz7]
       exact HI6.out.blk.set 4 _
      have HI7:=mkHid I7
      have HK7:Hid (KeepB X w Z7):=HK6.out.trans (KeepB.one hg7 HI6.out.xP)
      have HB7:Hid (Below base w Z7):=HB6.out.trans (bel_one hg7 HI6.out.low HI6.out.blk.lt)
      clear I7 hg7 hz7 HAd HI6 HK6 HB6
      go_wp2_with fail
      go_ret
      exact⟨by rw[HE.out];rfl,⟨S,_,arm1,HI7.out⟩,HK7.out,HB7.out⟩
     ·skip
      refine step_buildWr Z3 (by rfl) _ (by rfl) (wq (iN,b)) (wq_length (g:=(iN,b)) H512.out) (by rfl) 51 rfl ?_
      have D4:=DW.alloc DW.size (.cells (wq (iN,b)).toArray 200)
      have KM:Blk (Z3.alloc (.cells (wq (iN,b)).toArray 200)) Z3.heap.size 200 (wq (iN,b)):=Blk.new Z3 _ _
      refine hK.out _ _ (hHeld.alloc _) (fun hHeld=>?_)
      (try simp only[Act.put]);(try simp only[List.setIfInBounds_toArray]);(try simp only[List.set_cons_zero,List.set_cons_succ])
      clear hK K DW
      have hRm:R<Z3.heap.size:=hRt
      generalize Z3.heap.size=bM at *
      generalize Z3.alloc (.cells (wq (iN,b)).toArray 200)=Z4 at *
      have DW:=D4
      clear D4
      refine wpAnyH_ready (rs:=[4]) (by kernel_rfl) (by simp) (AllReadyH.cons rfl (fun K hK=>?_) AllReadyH.nil)
      have hL:Z4.cell? ⟨P,1,none⟩=some (.slice ca n cc):=(HY.out.on DW).blk.cell 1
      go_simp
      clear hL
      refine hK.out _ _ hHeld (fun hHeld=>?_)
      (try simp only[Act.put]);(try simp only[List.setIfInBounds_toArray]);(try simp only[List.set_cons_zero,List.set_cons_succ])
      clear hK K
      refine wpAnyH_ready (rs:=[7]) (by kernel_rfl) (by simp) (AllReadyH.cons rfl (fun K hK=>?_) AllReadyH.nil)
      have IW:=HY.out.on DW
      have hva:p.ca.length=n:=HN.out.symm
      refine step_appC Z4 (by rfl) _ _ (by rfl) base (.slice ca n cc) p.ca (by rfl) IW.ca bM (iN,b) H512.out (by rfl) KM (by rw[hva];exact HFn.out) (by have:=IW.low;have:=IW.blk.lt;omega) 52 rfl ?_
      intro kk cap2 Z5 ho2 hg2 hat
      have hat2:(Value.slice (some ⟨kk,0,none⟩) (p.ca.length+1) cap2).ownBlock=(Value.slice ca n cc).ownBlock∨(Value.slice (some ⟨kk,0,none⟩) (p.ca.length+1) cap2).ownBlock=some Z4.heap.size:=by
       rcases hat with h5|h5
       ·exact .inl h5.symm
       ·exact .inr (by rw[h5];rfl)
      obtain⟨I6,K6,B6,d1,f1⟩:=IW.push hg2 ho2 hat2
      rw[hva] at I6 K6 B6 ho2 hat2 ⊢
      have hHR:Blk Z5 R 200 (wq (iN,b)):=(hg2.block R hHeld.lt (fun e5=>HNe.out R (by rw[HR2.out];exact Nat.le_refl _) e5.symm)).trans hHeld
      refine hK.out _ _ hHR (fun hHeld=>?_)
      (try simp only[Act.put]);(try simp only[List.setIfInBounds_toArray]);(try simp only[List.set_cons_zero,List.set_cons_succ])
      clear hK K
      refine takeH (some 53) (i:=8) (v:=?_) rfl (by kernel_rfl) (by kernel_rfl) (by kernel_rfl) (fun _ _ _ h=>h) (Or.inl ⟨by rfl,?_⟩) hHeld rfl ?_
      rotate_left
      ·intro w hSw;go_simp;with_reducible rfl
      (try simp only[Act.put]);(try simp only[List.setIfInBounds_toArray]);(try simp only[List.set_cons_zero,List.set_cons_succ])
      refine takeH (some 54) (i:=9) (v:=?_) rfl (by kernel_rfl) (by kernel_rfl) (by kernel_rfl) (fun _ _ _ h=>h) (Or.inl ⟨by rfl,?_⟩) hHeld rfl ?_
      rotate_left
      ·intro w hSw;go_simp;with_reducible rfl
      (try simp only[Act.put]);(try simp only[List.setIfInBounds_toArray]);(try simp only[List.set_cons_zero,List.set_cons_succ])
      refine wpAnyH_ready (rs:=[10]) (by kernel_rfl) (by simp) (AllReadyH.cons rfl (fun K hK=>?_) AllReadyH.nil)
      have hRP:R≠P:=by rw[HR2.out];have:=HY.out.blk.lt;omega
      go_simp
      refine hK.out _ _ (hHR.other _ _ hRP) (fun _=>?_)
      (try simp only[Act.put]);(try simp only[List.setIfInBounds_toArray]);(try simp only[List.set_cons_zero,List.set_cons_succ])
      clear hK K
      refine wpAnyH_done (by kernel_rfl) ?_ _
      refine NoPanic.normal ?_
      have HI6:=mkHid I6
      have HK6:Hid (KeepB X w (Z5.setCell ⟨P,1,none⟩ (.slice (some ⟨kk,0,none⟩) (n+1) cap2))):=(KY.out.trans (KeepB.of_below DW)).trans K6
      have HB6:Hid (Below base w (Z5.setCell ⟨P,1,none⟩ (.slice (some ⟨kk,0,none⟩) (n+1) cap2))):=BY.out.trans ((DW.mono (by have:=HY.out.low;have:=HY.out.blk.lt;omega)).trans B6)
      clear I6 K6 B6 d1 f1 hHR hHeld IW ho2 hg2 hat hat2 KM DW
      generalize Z5.setCell ⟨P,1,none⟩ (.slice (some ⟨kk,0,none⟩) (n+1) cap2)=Z6 at *
      have HAd:=at64Add P 4 p.wr Z6 (HI6.out.blk.cell 4) (HI6.out.blk.frozen 4) (by have:=HFw.out;omega)
      go_wp2_with fail
      refine HAd.mono ?_
      rintro e7 Z7 ⟨rfl,hz7⟩
      have hg7:=gr_cell Z6 P 4 (.int .u64 ((p.wr+1:Nat):Int))
      rw[←hz7] at hg7
      have I7:IsPd X Z7 P base S (.slice (some ⟨kk,0,none⟩) (n+1) cap2) arm1 (p.write (iN:Int) b):=by
       rw[HWr.out]
       refine HI6.out.turn hg7 ?_ rfl rfl HI6.out.ca HI6.out.xC HI6.out.armd HI6.out.lo HI6.out.hi
       rw[hz7]
       exact HI6.out.blk.set 4 _
      have HI7:=mkHid I7
      have HK7:Hid (KeepB X w Z7):=HK6.out.trans (KeepB.one hg7 HI6.out.xP)
      have HB7:Hid (Below base w Z7):=HB6.out.trans (bel_one hg7 HI6.out.low HI6.out.blk.lt)
      clear I7 hg7 hz7 HAd HI6 HK6 HB6
      go_wp2_with fail
      go_ret
      exact⟨by rw[HE.out];rfl,⟨S,_,arm1,HI7.out⟩,HK7.out,HB7.out⟩
 ·have HE:Hid (p.wrE i b=1∧p.write i b=p):=by unfold Hid Pl.wrE Pl.write;simp[hoff,hin,h512]
  have hbz:((b.length:Int)==512)=false:=by rw[beq_eq_false_iff_ne];omega
  have hbz':¬(b.length:Int)=512:=by omega
  clear hoff hin h512
  go_enter Tryz.func92,Tryz.ntmps92
  go_wp2_with fail
  refine HR.mono ?_
  rintro e w1 ⟨rfl,rfl⟩
  go_wp2_with fail
  go_ret
  exact⟨by rw[HE.out.1];rfl,by rw[HE.out.2];exact HD.out,KeepB.refl _ _,Below.refl _ _⟩
end Go.Proofs.YtpecobmfabmpkaaGreatDoor
