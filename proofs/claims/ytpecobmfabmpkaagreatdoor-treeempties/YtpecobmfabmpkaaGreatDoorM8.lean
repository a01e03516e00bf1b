/- Pd8 Pd9 PdA Dk8 Dk9 JsK Dk10 Dk11 Dk12 Dk13 Js2 -/
import Derived.Test.YtpecobmfabmpkaaGreatDoorM7
set_option maxRecDepth 20000
set_option maxHeartbeats 4000000
namespace Go.Proofs.YtpecobmfabmpkaaGreatDoor
open Go.RowKit
attribute [local go_sem ↓] zvWr
theorem takeQ (l:List (Nat × List UInt8))(k:Nat)(h:k<l.length):l.take (k+1)=l.take k++[nthQ l k]:=by
 rw[nthQ_eq l k h,←List.take_append_getElem h]
theorem foldQ (l:List (Nat × List UInt8))(st:Nat→List UInt8)(k:Nat)(h:k<l.length):(l.take (k+1)).foldl Pl.put st=Pl.put ((l.take k).foldl Pl.put st) (nthQ l k):=by
 rw[takeQ l k h,List.foldl_append];rfl
theorem settle_facts {X:Nat→Prop}{Z:World}{P base S R:Nat}{vC:Value}{arm:Int}{p:Pl}(h:IsPd X Z P base S vC arm p){q:Nat × List UInt8}(hq:q.1<p.n)(h5:q.2.length=512)(hR:Blk Z R 200 (wq q)):
  Z.drew.there S (q.1 * 512) (bv q.2).toArray.size∧((Z.drew.setCells S (q.1 * 512) (bv q.2).toArray.toList).cell? ⟨P,0,none⟩=some (.slice (some ⟨S,0,none⟩) p.n p.n)∧(Z.drew.setCells S (q.1 * 512) (bv q.2).toArray.toList).cell? ⟨R,0,none⟩=some (.int .i64 (q.1:Int))∧(Z.drew.setCells S (q.1 * 512) (bv q.2).toArray.toList).rangeAt R 1 (bv q.2)) ∧
  IsPd X (Z.drew.setCells S (q.1 * 512) (bv q.2).toArray.toList) P base S vC arm { p with st:=Pl.put p.st q }∧KeepB X Z (Z.drew.setCells S (q.1 * 512) (bv q.2).toArray.toList)∧Below base Z (Z.drew.setCells S (q.1 * 512) (bv q.2).toArray.toList):=by
 have hd:IsPd X Z.drew P base S vC arm p:=h.on ((Below.refl _ Z).drew)
 have e:(bv q.2).toArray.toList=bv q.2:=rfl
 rw[e]
 have h2:=hd.settle q hq h5
 have hg:=gr_setCells S (bv q.2) Z.drew (q.1 * 512)
 have hRS:R≠S:=blk_ne (w:=Z.drew) hR hd.st (by decide)
 have hR2:Blk (Z.drew.setCells S (q.1 * 512) (bv q.2)) R 200 (wq q):=(hg.block R (Blk.lt (w:=Z.drew) hR) (fun e2=>hRS (Option.some.inj e2))).trans hR
 have hw:=range_data (Blk.whole hR2)
 refine⟨?_,⟨h2.blk.cell 0,hw.1,?_⟩,h2,(KeepB.of_below ((Below.refl _ Z).drew)).trans (KeepB.one hg hd.xS),((Below.refl _ Z).drew).trans (bel_one hg hd.lowS hd.st.lt)⟩
 ·refine hd.st.there9 _ _ ?_
  rw[List.size_toArray,bv_length,h5,stc_length]
  have:(q.1+1) * 512≤p.n * 512:=Nat.mul_le_mul_right _ hq
  omega
 ·have:=hw.2
  rwa [Nat.zero_add] at this
theorem codFlush (X:Nat→Prop)(w:World)(P base:Nat)(p:Pl)(h:IsD X w P base p)(hf:FewP p):
  Calls Tryz.prog 93 #[.pointer (some ⟨P,0,none⟩)] w fun e w'=>e=.returned (.int .i64 p.flE)∧IsD X w' P base p.flush∧KeepB X w w'∧Below base w w':=by
 have HD:=mkHid h
 obtain⟨S,vC,arm,h⟩:=h
 have HR:=codReady P p.off w (h.blk.cell 3)
 have HH:=mkHid h
 have HF:=mkHid hf
 clear h hf
 cases hoff:p.off with
 | true =>
  have HE:Hid (p.flE=51∧p.flush=p):=by unfold Hid Pl.flE Pl.flush;simp[hoff]
  rw[hoff,if_pos rfl] at HR
  clear hoff
  go_enter Tryz.func93,Tryz.ntmps93
  go_wp2_with fail
  refine HR.mono ?_
  rintro e w1 ⟨rfl,rfl⟩
  go_wp2_with fail
  go_ret
  exact⟨by rw[HE.out.1];rfl,by rw[HE.out.2];exact HD.out,KeepB.refl _ _,Below.refl _ _⟩
 | false =>
 rw[hoff,if_neg (by simp)] at HR
 have HE:Hid (p.flE=0∧p.flush={ p with st:=p.ca.foldl Pl.put p.st,ca:=[],fl:=p.fl+1 }):=by unfold Hid Pl.flE Pl.flush;simp[hoff]
 clear hoff
 obtain⟨ca,cc,hvC,hle,hmx,hnl,hcs⟩:=HH.out.ca.form (fun g hg=>(HF.out.at_ g hg).2)
 subst hvC
 have c1:w.cell? ⟨P,1,none⟩=some (.slice ca p.ca.length cc):=HH.out.blk.cell 1
 have HCs:Hid (∀W,IsPd X W P base S (.slice ca p.ca.length cc) arm { p with st:=fun _=>[] }→True):=fun _ _=>trivial
 clear HCs hcs
 obtain⟨n,hn⟩:∃n,n=p.ca.length:=⟨_,rfl⟩
 have HN:=mkHid hn
 have hn6:n≤1000000:=by rw[hn];exact HF.out.ca
 rw[←hn] at c1 HH
 obtain⟨N,hN⟩:∃N,N=p.n:=⟨_,rfl⟩
 have HNN:=mkHid hN
 have hN4:N≤4096:=by rw[hN];exact HF.out.n
 have HI0:Hid (IsPd X w P base S (.slice ca n cc) arm { p with st:=(p.ca.take 0).foldl Pl.put p.st }):=HH.out
 clear hn hN hle hmx hnl
 go_enter Tryz.func93,Tryz.ntmps93
 go_wp2_with fail
 refine HR.mono ?_
 rintro e w1 ⟨rfl,hw1⟩
 obtain rfl:=hw1.symm
 clear HR
 go_wp2_with fail
 go_loopw [16] (fun kv wr=>∃k:Nat,k≤n∧kv=.int .i64 (k:Int)∧Hid (IsPd X wr P base S (.slice ca n cc) arm { p with st:=(p.ca.take k).foldl Pl.put p.st })∧Hid (KeepB X w wr)∧Hid (Below base w wr)) (fun kv _=>n-(intOf kv).toNat)
 case atStart=>exact⟨0,Nat.zero_le _,rfl,HI0,KeepB.refl _ _,Below.refl _ _⟩
 case round =>
  obtain⟨k,hk,rfl,HI,HK,HB⟩:=hrel
  by_cases hlt:k<n
  ·have HkL:Hid (k<p.ca.length):=by unfold Hid;rw[←HN.out];exact hlt
   obtain⟨ca',cc',ev,_,_,_,hcs⟩:=HI.out.ca.form (fun g hg=>(HF.out.at_ g hg).2)
   obtain⟨g,eg,_,_,hr⟩:=hcs (by have:=HkL.out;show 0<p.ca.length;omega)
   have hcag:ca=some ⟨g,0,none⟩:=by injection ev with e1;rw[e1,eg]
   subst hcag
   have HRg:=mkHid (hr k HkL.out)
   have HQ:=mkHid (HF.out.at_ _ (nthQ_mem p.ca k HkL.out))
   have HFo:=mkHid (foldQ p.ca p.st k HkL.out)
   clear hr hcs ev eg
   have hk0:(0:Int)≤(k:Int):=by omega
   have hkn:(k:Int)<(n:Int):=by omega
   generalize hq:nthQ p.ca k=q at *
   clear hq
   have HS5:Hid ((Tryz.prog.info? 200).map (·.size)=some (wq q).length):=by unfold Hid;rw[wq_length HQ.out.2];exact infoWr
   have HS6:Hid ((Tryz.prog.info? 200).map (·.size)=some (wq q).toArray.size):=HS5.out
   have HS7:Hid (zWr.toArray.size=(wq q).toArray.size):=by unfold Hid;rw[List.size_toArray,List.size_toArray,zWr_length,wq_length HQ.out.2]
   have HBn:Hid (Blk (wr.alloc (.cells zWr.toArray 200)) wr.heap.size 200 zWr):=Blk.new wr _ _
   have HDZ:Hid (Below wr.heap.size wr ((wr.alloc (.cells zWr.toArray 200)).setRow wr.heap.size (wq q).toArray)):=bel_row ((Below.refl _ wr).alloc (Nat.le_refl _) _) (Nat.le_refl _) _
   have HBZ:Hid (Blk ((wr.alloc (.cells zWr.toArray 200)).setRow wr.heap.size (wq q).toArray) wr.heap.size 200 (wq q)):=HBn.out.row _
   go_upto_region 7 with(first|(refine wpList_load_mid rfl 200 _ rfl g (k * 513) rfl (wq q) _ HRg.out Tryz.underlying200 rfl HS5.out ?_)|(refine wpList_store_row rfl 200 _ _ rfl wr.heap.size (wq q).toArray rfl rfl _ _ HBn.out HS6.out HS7.out (all_oneCell_toArray (wq_one q)) ?_))
   generalize (wr.alloc (.cells zWr.toArray 200)).setRow wr.heap.size (wq q).toArray=Z at *
   have HZ:=mkHid (HI.out.on HDZ.out)
   have HKZ:Hid (KeepB X w Z):=HK.out.trans (KeepB.of_below HDZ.out)
   have HBeZ:Hid (Below base w Z):=HB.out.trans (HDZ.out.mono (by have:=HI.out.low;have:=HI.out.blk.lt;omega))
   clear HDZ HBn HS5 HS6 HS7 HRg HI HK HB
   generalize wr.heap.size=R at *
   obtain⟨f1,f2,f3,f4,f5⟩:=settle_facts HZ.out HQ.out.1 HQ.out.2 HBZ.out
   rw[←HFo.out] at f3
   have zc0:Z.drew.cell? ⟨P,0,none⟩=some (.slice (some ⟨S,0,none⟩) N N):=by rw[HNN.out];exact HZ.out.blk.cell 0
   have zr:=range_data (Blk.whole (w:=Z.drew) HBZ.out)
   obtain⟨zr0,zr1⟩:=zr
   rw[Nat.zero_add] at zr1
   have H512:=mkHid HQ.out.2
   have hq1:(q.1:Int)<(N:Int):=by rw[HNN.out];have:=HQ.out.1;simpa using this
   have hq0:(0:Int)≤(q.1:Int):=by omega
   have f2':(Z.drew.setCells S (q.1 * 512) (bv q.2).toArray.toList).cell? ⟨P,0,none⟩=some (.slice (some ⟨S,0,none⟩) N N):=by rw[HNN.out];exact f2.1
   have HTh:=mkHid f1
   have HF0:=mkHid (And.intro f2' f2.2)
   have HI3:=mkHid f3
   have HK3:Hid (KeepB X w (Z.drew.setCells S (q.1 * 512) (bv q.2).toArray.toList)):=HKZ.out.trans f4
   have HB3:Hid (Below base w (Z.drew.setCells S (q.1 * 512) (bv q.2).toArray.toList)):=HBeZ.out.trans f5
   clear f1 f2 f3 f4 f5 f2' HKZ HBeZ HBZ HFo HQ
   generalize q.1=q1 at *
   generalize q.2=q2 at *
   ·skip
    refine wp_region_noPanic ?_
    refine wp_region_held_drew (S:=fun w'=>w'.cell? ⟨P,0,none⟩=some (.slice (some ⟨S,0,none⟩) N N)∧w'.cell? ⟨R,0,none⟩=some (.int .i64 (q1:Int))∧w'.rangeAt R 1 (bv q2)) (by kernel_rfl) ⟨zc0,zr0,zr1⟩ (fun hHeld=>?_)
    refine takeH (some 20) (i:=0) (v:=?_) rfl (by kernel_rfl) (by kernel_rfl) (by kernel_rfl) (fun _ _ _ h=>h) (Or.inl ⟨by rfl,?_⟩) hHeld rfl ?_
    rotate_left
    ·intro w hSw;obtain⟨hS1,hS2,hS3⟩:=hSw;go_simp;with_reducible rfl
    (try simp only[Act.put]);(try simp only[List.setIfInBounds_toArray]);(try simp only[List.set_cons_zero,List.set_cons_succ])
    refine takeH (some 21) (i:=1) (v:=?_) rfl (by kernel_rfl) (by kernel_rfl) (by kernel_rfl) (fun _ _ _ h=>h) (Or.inl ⟨by rfl,?_⟩) hHeld rfl ?_
    rotate_left
    ·intro w hSw;obtain⟨hS1,hS2,hS3⟩:=hSw;go_simp;with_reducible rfl
    (try simp only[Act.put]);(try simp only[List.setIfInBounds_toArray]);(try simp only[List.set_cons_zero,List.set_cons_succ])
    refine takeH (some 22) (i:=2) (v:=?_) rfl (by kernel_rfl) (by kernel_rfl) (by kernel_rfl) (fun _ _ _ h=>h) (Or.inl ⟨by rfl,?_⟩) hHeld rfl ?_
    rotate_left
    ·intro w hSw;obtain⟨hS1,hS2,hS3⟩:=hSw;go_simp;with_reducible rfl
    (try simp only[Act.put]);(try simp only[List.setIfInBounds_toArray]);(try simp only[List.set_cons_zero,List.set_cons_succ])
    refine takeH (some 23) (i:=3) (v:=?_) rfl (by kernel_rfl) (by kernel_rfl) (by kernel_rfl) (fun _ _ _ h=>h) (Or.inl ⟨by rfl,?_⟩) hHeld rfl ?_
    rotate_left
    ·intro w hSw;obtain⟨hS1,hS2,hS3⟩:=hSw;go_simp;with_reducible rfl
    (try simp only[Act.put]);(try simp only[List.setIfInBounds_toArray]);(try simp only[List.set_cons_zero,List.set_cons_succ])
    refine takeH (some 24) (i:=4) (v:=?_) rfl (by kernel_rfl) (by kernel_rfl) (by kernel_rfl) (fun _ _ _ h=>h) (Or.inl ⟨by rfl,?_⟩) hHeld rfl ?_
    rotate_left
    ·intro w hSw;obtain⟨hS1,hS2,hS3⟩:=hSw;go_simp;with_reducible rfl
    (try simp only[Act.put]);(try simp only[List.setIfInBounds_toArray]);(try simp only[List.set_cons_zero,List.set_cons_succ])
    refine takeH (some 25) (i:=5) (v:=?_) rfl (by kernel_rfl) (by kernel_rfl) (by kernel_rfl) (fun _ _ _ h=>h) (Or.inl ⟨by rfl,?_⟩) hHeld rfl ?_
    rotate_left
    ·intro w hSw;obtain⟨hS1,hS2,hS3⟩:=hSw;go_simp;with_reducible rfl
    (try simp only[Act.put]);(try simp only[List.setIfInBounds_toArray]);(try simp only[List.set_cons_zero,List.set_cons_succ])
    refine takeH (some 26) (i:=6) (v:=?_) rfl (by kernel_rfl) (by kernel_rfl) (by kernel_rfl) (fun _ _ _ h=>h) (Or.inl ⟨by rfl,?_⟩) hHeld rfl ?_
    rotate_left
    ·intro w hSw;obtain⟨hS1,hS2,hS3⟩:=hSw;go_simp;with_reducible rfl
    (try simp only[Act.put]);(try simp only[List.setIfInBounds_toArray]);(try simp only[List.set_cons_zero,List.set_cons_succ])
    refine takeH (some 27) (i:=7) (v:=.agg (bv q2).toArray) rfl (by kernel_rfl) (by kernel_rfl) (by kernel_rfl) (fun _ _ _ h=>h) (yieldsIf_load_mid (by rfl) 159 (.tmp 26) (by rfl) R 1 (by rfl) (bv q2) _ (fun w1 hw1=>hw1.2.2) Tryz.underlying159 rfl (infoSecOf H512.out)) hHeld rfl ?_
    (try simp only[Act.put]);(try simp only[List.setIfInBounds_toArray]);(try simp only[List.set_cons_zero,List.set_cons_succ])
    refine takeH (some 28) (i:=8) (v:=?_) rfl (by kernel_rfl) (by kernel_rfl) (by kernel_rfl) (fun _ _ _ h=>h) (Or.inl ⟨by rfl,?_⟩) hHeld rfl ?_
    rotate_left
    ·intro w hSw;obtain⟨hS1,hS2,hS3⟩:=hSw;go_simp;with_reducible rfl
    (try simp only[Act.put]);(try simp only[List.setIfInBounds_toArray]);(try simp only[List.set_cons_zero,List.set_cons_succ])
    refine wpAnyH_ready (rs:=[9]) (by kernel_rfl) (by simp) (AllReadyH.cons rfl (fun K hK=>?_) AllReadyH.nil)
    rw[if_pos (by rfl)]
    refine wp_store_mid 159 _ _ (by rfl) S (q1 * 512) (bv q2).toArray (by rfl) (by rfl) HTh.out (infoSecOf' H512.out) (bvAll9 q2) ?_
    refine hK.out _ _ ⟨HF0.out.1,HF0.out.2.1,HF0.out.2.2⟩ (fun _=>?_)
    (try simp only[Act.put]);(try simp only[List.setIfInBounds_toArray]);(try simp only[List.set_cons_zero,List.set_cons_succ])
    clear hK K
    refine wpAnyH_done (by kernel_rfl) ?_ _
    refine NoPanic.normal ?_
    clear zc0 zr0 zr1 HTh HF0 HZ
    generalize Z.drew.setCells S (q1 * 512) (bv q2).toArray.toList=Z4 at *
    go_wp2_with fail
    go_roundw
    case rel=>exact⟨k+1,by omega,by go_num,HI3,HK3,HB3⟩
    case measure=>simp[intOf];omega
  ·have hge:¬(k:Int)<(n:Int):=by omega
   have hkn:k=n:=by omega
   subst hkn
   have HT:Hid (p.ca.take k=p.ca):=List.take_of_length_le (by rw[HN.out];exact Nat.le_refl _)
   rw[HT.out] at HI
   have d1:wr.cell? ⟨P,1,none⟩=some (.slice ca k cc):=HI.out.blk.cell 1
   have f1:=HI.out.blk.frozen 1
   have hg1:=gr_cell wr P 1 (.slice none 0 0)
   have HI2:Hid (IsPd X (wr.setCell ⟨P,1,none⟩ (.slice none 0 0)) P base S (.slice none 0 0) arm { p with st:=p.ca.foldl Pl.put p.st,ca:=[] }):=HI.out.turn hg1 (HI.out.blk.set 1 _) rfl rfl (OwnC.nil _ _) (fun k e=>by cases e) HI.out.armd HI.out.lo HI.out.hi
   have HK2:Hid (KeepB X w (wr.setCell ⟨P,1,none⟩ (.slice none 0 0))):=HK.out.trans (KeepB.one hg1 HI.out.xP)
   have HB2:Hid (Below base w (wr.setCell ⟨P,1,none⟩ (.slice none 0 0))):=HB.out.trans (bel_one hg1 HI.out.low HI.out.blk.lt)
   clear hg1 HI HK HB
   go_upto_region 10 with fail
   generalize wr.setCell ⟨P,1,none⟩ (.slice none 0 0)=Z at *
   have HAd:=at64Add P 5 p.fl Z (HI2.out.blk.cell 5) (HI2.out.blk.frozen 5) (by have:=HF.out.fl;omega)
   go_wp2_with fail
   refine HAd.mono ?_
   rintro e7 Z7 ⟨rfl,hz7⟩
   have hg7:=gr_cell Z P 5 (.int .u64 ((p.fl+1:Nat):Int))
   rw[←hz7] at hg7
   have HI7:Hid (IsPd X Z7 P base S (.slice none 0 0) arm p.flush):=by
    unfold Hid
    rw[HE.out.2]
    refine HI2.out.turn hg7 ?_ rfl rfl HI2.out.ca HI2.out.xC HI2.out.armd HI2.out.lo HI2.out.hi
    rw[hz7]
    exact HI2.out.blk.set 5 _
   have HK7:Hid (KeepB X w Z7):=HK2.out.trans (KeepB.one hg7 HI2.out.xP)
   have HB7:Hid (Below base w Z7):=HB2.out.trans (bel_one hg7 HI2.out.low HI2.out.blk.lt)
   clear hg7 hz7 HAd HI2 HK2 HB2
   go_wp2_with fail
   go_ret
   exact⟨by rw[HE.out.1];rfl,⟨S,_,arm,HI7.out⟩,HK7.out,HB7.out⟩
end Go.Proofs.YtpecobmfabmpkaaGreatDoor
namespace Go.Proofs.YtpecobmfabmpkaaGreatDoor
open Go.RowKit
attribute [local go_sem ↓] zvWr
end Go.Proofs.YtpecobmfabmpkaaGreatDoor
namespace Go.Proofs.YtpecobmfabmpkaaGreatDoor
open Go.RowKit
theorem IsD.on {X:Nat→Prop}{w w':World}{P base:Nat}{p:Pl}(h:IsD X w P base p)(hb:Below w.heap.size w w'):IsD X w' P base p:=by
 obtain⟨S,vC,arm,h⟩:=h
 exact⟨S,vC,arm,h.on hb⟩
theorem IsD.low {X:Nat→Prop}{w:World}{P base:Nat}{p:Pl}(h:IsD X w P base p):base≤w.heap.size:=by
 obtain⟨S,vC,arm,h⟩:=h
 have:=h.low
 have:=h.blk.lt
 omega
abbrev PD:List TypeId:=[109,159,200]
theorem IsPd.wide {X:Nat→Prop}{w:World}{P base S:Nat}{vC:Value}{arm:Int}{p:Pl}(h:IsPd X w P base S vC arm p):IsPd (fun k=>X k∨(k<w.heap.size∧k≠P∧k≠S∧vC.ownBlock≠some k)) w P base S vC arm p :=
 h.more _ (fun e=>e.elim h.xP (fun e=>e.2.1 rfl)) (fun e=>e.elim h.xS (fun e=>e.2.2.1 rfl)) (fun k hk e=>e.elim (h.xC k hk) (fun e=>e.2.2.2 hk)) (fun k hk=>hk.elim (h.xlt k) (fun e=>e.1))
theorem IsPd.toT {X:Nat→Prop}{w w':World}{P base S:Nat}{vC:Value}{arm:Int}{p:Pl}(h:IsPd X w P base S vC arm p)(hk:KeepB (fun k=>X k∨(k<w.heap.size∧k≠P∧k≠S∧vC.ownBlock≠some k)) w w'):KeepT PD w w' :=
 ⟨hk.size,fun k o ho hn=>by
  have hl:=(Array.getElem?_eq_some_iff.1 ho).1
  refine(hk.x k (.inr ⟨hl,fun e=>?_,fun e=>?_,fun e=>?_⟩) hl).trans ho
  ·subst e;exact hn _ _ _ (Option.some.inj (ho.symm.trans h.blk)) (by simp)
  ·subst e;exact hn _ _ _ (Option.some.inj (ho.symm.trans h.st)) (by simp)
  ·rcases h.ca.2 with⟨h1,_⟩|⟨g,cap,cur,h1,_,hg,_⟩
   ·rw[h1] at e;cases e
   ·rw[h1] at e
    have e2:g=k:=by simpa [Value.ownBlock] using e
    subst e2
    exact hn _ _ _ (Option.some.inj (ho.symm.trans hg)) (by simp)⟩
theorem IsPd.thin {X Y:Nat→Prop}{w:World}{P base S:Nat}{vC:Value}{arm:Int}{p:Pl}(h:IsPd Y w P base S vC arm p)(hy:∀k,X k→Y k):IsPd X w P base S vC arm p :=
 h.more X (fun e=>h.xP (hy _ e)) (fun e=>h.xS (hy _ e)) (fun k hk e=>h.xC k hk (hy _ e)) (fun k hk=>h.xlt k (hy k hk))
theorem IsD.thin {X Y:Nat→Prop}{w:World}{P base:Nat}{p:Pl}(h:IsD Y w P base p)(hy:∀k,X k→Y k):IsD X w P base p:=by
 obtain⟨S,vC,arm,h⟩:=h
 exact⟨S,vC,arm,h.thin hy⟩
theorem IsD.keep {X:Nat→Prop}{w w':World}{P base:Nat}{p:Pl}(h:IsD X w P base p){ts:List TypeId}(hk:KeepT ts w w')(h1:109∉ts)(h2:159∉ts)(h3:200∉ts):IsD X w' P base p:=by
 obtain⟨S,vC,arm,h⟩:=h
 exact⟨S,vC,arm,h.keep hk h1 h2 h3⟩
theorem writeT (X:Nat→Prop)(w:World)(P base:Nat)(p:Pl)(i:Int)(ba:Option Addr)(bc:Nat)(b:List UInt8)(h:IsD X w P base p)(hf:FewP p)(hB:∀W,KeepT PD w W→Below base w W→IsB W ba b.length bc b):
  Calls Tryz.prog 92 #[.pointer (some ⟨P,0,none⟩),.int .i64 i,.slice ba b.length bc] w fun e w'=>e=.returned (.int .i64 (p.wrE i b))∧IsD X w' P base (p.write i b)∧KeepT PD w w'∧KeepB X w w'∧Below base w w':=by
 obtain⟨S,vC,arm,h⟩:=h
 exact(codWrite _ w P base p i ba bc b ⟨S,vC,arm,h.wide⟩ hf (fun W hW hb=>hB W (h.toT hW) hb)).mono fun _ _ ⟨h1,h2,h3,h4⟩=>⟨h1,h2.thin (fun _ e=>.inl e),h.toT h3,h3.less (fun _ e=>.inl e),h4⟩
theorem flushT (X:Nat→Prop)(w:World)(P base:Nat)(p:Pl)(h:IsD X w P base p)(hf:FewP p):
  Calls Tryz.prog 93 #[.pointer (some ⟨P,0,none⟩)] w fun e w'=>e=.returned (.int .i64 p.flE)∧IsD X w' P base p.flush∧KeepT PD w w'∧KeepB X w w'∧Below base w w':=by
 obtain⟨S,vC,arm,h⟩:=h
 exact(codFlush _ w P base p ⟨S,vC,arm,h.wide⟩ hf).mono fun _ _ ⟨h1,h2,h3,h4⟩=>⟨h1,h2.thin (fun _ e=>.inl e),h.toT h3,h3.less (fun _ e=>.inl e),h4⟩
def secL (by' odd:UInt8):List UInt8:=(List.replicate 512 by').set odd.toNat odd
abbrev IsD0 (w:World)(P base:Nat)(p:Pl):Prop:=IsD (fun _=>False) w P base p
abbrev U10:List TypeId:=[5,4,84,3,30,33,26,133,64,87,144,50,215,91,35,71,152]
structure KP (base:Nat)(w w':World):Prop where
 o:KeepO U10 w w'
 b:Below base w w'
theorem KP.of_below {base:Nat}{w w':World}(h:Below w.heap.size w w')(hb:base≤w.heap.size):KP base w w':=⟨KeepO.of_below h,h.mono hb⟩
theorem KP.ofPD {base:Nat}{w w':World}(h:KeepT PD w w')(hb:Below base w w'):KP base w w':=⟨KeepO.ofT h (by decide),hb⟩
theorem make_run512 (w:World):∃w',(Instr.makeSlice 33 (.int .i64 512) (.int .i64 512)).run Tryz.prog w=.ok (.slice (some ⟨w.heap.size,0,none⟩) 512 512) w'∧OwnB w' w.heap.size (.slice (some ⟨w.heap.size,0,none⟩) 512 512) zero512∧Below w.heap.size w w':=by
 obtain⟨i0,hi,hz0,hz1,hz2⟩:=info_parts info8
 obtain⟨w',hrun,r1,r2⟩:=run_make_full (P:=Tryz.prog) w w.heap.size 33 5 i0 (.int .u8 0) 1 Tryz.underlying33 hi hz0 hz1 .i64 .i64 512 (by rw[hz2];omega) (by unfold maxLen;omega) (Nat.le_refl _)
 refine⟨w',hrun,?_,(Below.refl _ _).grown r2 (Nat.le_refl _) (fun k h=>by cases h)⟩
 rw[made_zeros] at r1
 unfold OwnB zero512
 rw[List.length_replicate]
 exact r1
structure JrnOK (JA:World→Nat→Nat→Nat→Jl→Prop)(TA:World→Nat→Nat→Nat→Nat→Tl→Jl→Prop):Prop where
 disk:∀ {w:World} {J P base:Nat} {j:Jl},JA w J P base j→IsD0 w P base j.p
 toJ:∀ {w:World} {T J P base:Nat} {t:Tl} {j:Jl},TA w T J P base t j→JA w J P base j
 turn:∀ {w w':World} {J P base:Nat} {j:Jl} {p':Pl},JA w J P base j→KeepT PD w w'→IsD0 w' P base p'→JA w' J P base ⟨p',j.seq,j.dead⟩
 keepJ:∀ {w w':World} {J P base:Nat} {j:Jl},JA w J P base j→KeepT CT w w'→JA w' J P base j
 keepT:∀ {w w':World} {T J P base:Nat} {t:Tl} {j:Jl},TA w T J P base t j→KeepT CT w w'→TA w' T J P base t j
 mount:∀(w:World) (P base m:Nat) (p:Pl),IsD0 w P base p→FewM p m→m≤80000 →
  Calls Tryz.prog 35 #[.pointer (some ⟨P,0,none⟩)] w fun e w'=>(if mountE p=0 then ∃J,e=.returned (.tuple #[.pointer (some ⟨J,0,none⟩),.int .i64 0])∧JA w' J P base ⟨mountP p,mountS p,false⟩ else e=.returned (.tuple #[.pointer none,.int .i64 (mountE p)])∧IsD0 w' P base (mountP p))∧KeepT PD w w'∧Below base w w'
 begin_:∀(w:World) (J P base m:Nat) (j:Jl),JA w J P base j→FewM j.p m→m≤80000 →
  Calls Tryz.prog 37 #[.pointer (some ⟨J,0,none⟩)] w fun e w'=>(∃T,e=.returned (.pointer (some ⟨T,0,none⟩))∧TA w' T J P base ⟨[],false⟩ j)∧KP base w w'
 write:∀(w:World) (T J P base m:Nat) (t:Tl) (j:Jl) (i:Int) (ba:Option Addr) (bc:Nat) (b:List UInt8),TA w T J P base t j→t.l.length≤48→FewM j.p m→m≤80000 → -9223372036854775808≤i→i≤9223372036854775807→b.length≤140737488351232→(∀W,KeepO [5] w W→Below base w W→IsB W ba b.length bc b) →
  Calls Tryz.prog 56 #[.pointer (some ⟨T,0,none⟩),.int .i64 i,.slice ba b.length bc] w fun e w'=>e=.returned (.int .i64 (t.wrE j i b))∧TA w' T J P base (t.write j i b) j∧KP base w w'
 read:∀(w:World) (T J P base m:Nat) (t:Tl) (j:Jl) (i:Int),TA w T J P base t j→t.l.length≤48→FewM j.p m→m≤80000 → -9223372036854775808≤i→i≤9223372036854775807→j.p.off=false →
  Calls Tryz.prog 140 #[.pointer (some ⟨T,0,none⟩),.int .i64 i] w fun e w'=>(∃v,e=.returned (.tuple #[v,.int .i64 (t.rdE j i)])∧IsV w' v (t.rdB j i))∧TA w' T J P base t j∧KP base w w'
 commit:∀(w:World) (T J P base m:Nat) (t:Tl) (j:Jl),TA w T J P base t j→t.l.length≤48→FewM j.p m→m≤80000→j.seq<18446744073709551616 →
  Calls Tryz.prog 54 #[.pointer (some ⟨T,0,none⟩)] w fun e w'=>e=.returned (.int .i64 (cmE t j))∧TA w' T J P base (cmT t j) (cmJ t j)∧KP base w w'
 size:∀(w:World) (J P base:Nat) (j:Jl),JA w J P base j →
  Calls Tryz.prog 38 #[.pointer (some ⟨J,0,none⟩)] w fun e w'=>e=.returned (.int .i64 (j.p.n:Int))∧Below w.heap.size w w'
 jread:∀(w:World) (J P base m:Nat) (j:Jl) (i:Int),JA w J P base j→FewM j.p m→m≤80000 → -9223372036854775808≤i→i≤9223372036854775807→j.p.off=false →
  Calls Tryz.prog 36 #[.pointer (some ⟨J,0,none⟩),.int .i64 i] w fun e w'=>(∃v,e=.returned (.tuple #[v,.int .i64 (jrE j.p i)])∧IsV w' v (jrB j.p i))∧Below w.heap.size w w'
end Go.Proofs.YtpecobmfabmpkaaGreatDoor
