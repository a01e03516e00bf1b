/- TsJ OpenK13 OpenO13 RLaid Env13 -/
import Derived.Test.YtpecobmfabmpkaaGreatDoorM22
import Derived.ChangeMaps5
import Derived.Stop.LaidErr
import Derived.Shelf.Vars
import Derived.Lib.LaidTab
import Derived.MakeChecks
import Derived.SizedLaws
import Derived.Test.YtpecobmfabmpkaaGreatDoorRows
set_option maxRecDepth 100000
set_option maxHeartbeats 8000000
namespace Go.Proofs.YtpecobmfabmpkaaGreatDoor
section
open Go.RowKit
def cntO (L i:Nat):Nat:=min i 100+(i-L)
theorem cnt_mono (L i:Nat):cntO L i≤cntO L (i+1):=by unfold cntO;omega
theorem cnt_le (L n i:Nat)(h:i≤L+n):cntO L i≤100+n:=by unfold cntO;omega
theorem KsAt.app {base:Nat}{w w':World}{v v':Value}{ks:List Bq}{x:Bq}(h:KsAt base w v ks)(hx:BsP base w x.2.1 x.1.length x.2.2 x.1)(hs:base≤w.heap.size)(ho:OwnRw rtB13 w' base v' (ks++[x]))(hg:w.grownBy w' v.ownBlock):KsAt base w' v' (ks++[x]):=by
 have hb:Below base w w':=(Below.refl base w).grown hg hs (fun j hj=>(h.own.lt hj).1)
 have hu:KeepU base UB w w':=KeepU.ofB (KeepO.ofT (KeepT.grownC h.own hg) (by decide)) hb (Nat.le_refl _)
 refine⟨ho,fun y hy=>?_⟩
 rcases List.mem_append.1 hy with h1|h1
 ·exact(h.b y h1).keep hu
 ·obtain rfl:=List.mem_singleton.1 h1
  exact hx.keep hu
theorem TJ.keepB {w w':World}{J P base m n:Nat}{j:Jl}{root:Nat}{l:List Et}{SS:List Int}(h:TJ w J P base m n j root l SS)(hk:KeepT [33] w w'):TJ w' J P base m n j root l SS:=⟨⟨hk.blk h.ja.blk (by decide),h.ja.low,h.ja.d.keep hk (by decide) (by decide) (by decide),h.ja.seq⟩,h.tk,h.tr,h.n⟩
theorem order13 (ks:List Kq)(a:Option Addr)(n cap:Nat)(os:List Int)(a1:Option Addr)(m1 cap1:Nat)(w:World)(h:IsK13 w.heap.size w a n ks)(hr:∀x∈ks,KqR x)(hn:n≤140737488351232)(ho:RowC 1 (fun z:Int=>[Value.int .i64 z]) w a1 m1 os)(hm1:m1≤140737488351232):
  Calls Tryz.prog 4 #[.slice a n cap,.slice a1 m1 cap1] w fun e w'=>e=.returned (.bool true)∧Below w.heap.size w w':=by
 have HAl:=lawAlive13
 have HLt:=lawLight13 ks a n cap w h (by omega)
 cases hlt0:lightK ks with
 | false =>
  rw[hlt0] at HLt
  go_enter Tryz.func4,Tryz.ntmps4
  go_wp2_with fail
  refine HLt.mono ?_
  rintro e x1 ⟨rfl,hb1⟩
  go_wp2_with fail
  refine(HAl x1).mono ?_
  rintro e x2 ⟨rfl,hb2⟩
  go_wp2_with fail
  go_ret
  exact⟨rfl,hb1.trans (hb2.mono hb1.size)⟩
 | true =>
 rw[hlt0] at HLt
 by_cases h60:60<n
 ·have h60':(60:Int)<(n:Int):=by omega
  go_enter Tryz.func4,Tryz.ntmps4
  go_wp2_with fail
  refine HLt.mono ?_
  rintro e x1 ⟨rfl,hb1⟩
  go_wp2_with fail
  refine(HAl x1).mono ?_
  rintro e x2 ⟨rfl,hb2⟩
  go_wp2_with fail
  go_ret
  exact⟨rfl,hb1.trans (hb2.mono hb1.size)⟩
 have h60':¬(60:Int)<(n:Int):=by omega
 have hli:∀x∈ks,x.1.key.length+x.1.value.length≤1000:=by
  unfold lightK at hlt0
  rw[Bool.and_eq_true] at hlt0
  exact of_decide_eq_true hlt0.1
 have HLi:=mkHid hli
 have HR:=mkHid hr
 have HH:=mkHid h
 have HOs:=mkHid ho
 clear hlt0 hli hr h ho
 have hmf:=mkF0
 have hfn:∀args w,(callFunc 28 args).run Tryz.prog w=.ok (.enter 28 args) w:=fun args w=>by simp[callFunc,Tryz.func28];rfl
 go_enter Tryz.func4,Tryz.ntmps4
 go_wp2_with fail
 refine HLt.mono ?_
 rintro e x1 ⟨rfl,hb1⟩
 have HB1:=mkHid hb1
 have HFr:=lawFreshN 4096 (by omega) (by omega) x1 w.heap.size hb1.size
 rw[show ((4096:Nat):Int)=4096 from rfl] at HFr
 clear HLt hb1
 go_wp2_with fail
 refine HFr.mono ?_
 rintro e x2 ⟨⟨J,S0,P,rfl,hS2⟩,hk2⟩
 have HT2:=tj_new (by omega) (by omega) hS2.out
 have hbA:Below x2.heap.size x2 (x2.alloc (.cells #[.pointer (some ⟨J,0,none⟩)] 25)):=(Below.refl _ x2).alloc (Nat.le_refl _) _
 have HT3:=mkHid (HT2.on hbA)
 have HB3:=mkHid (HB1.out.trans (hk2.out.b.trans (hbA.mono (Nat.le_trans HB1.out.size hk2.out.b.size))))
 have HBx:=mkHid (Blk.new x2 25 [.pointer (some ⟨J,0,none⟩)])
 clear HFr hS2 hk2 HB1 HT2 hbA
 go_upto_region 4 with fail
 generalize hY:x2.alloc (.cells #[.pointer (some ⟨J,0,none⟩)] 25)=Y at *
 obtain⟨BX,hBX⟩:∃BX,BX=x2.heap.size:=⟨_,rfl⟩
 rw[←hBX] at HBx ⊢
 clear hY hBX
 have c0:Y.cell? ⟨BX,0,none⟩=some (.pointer (some ⟨J,0,none⟩)):=HBx.out.cell 0
 have HBc:=mkHid (And.intro HB3.out HBx.out)
 go_wp2_with fail
 clear c0
 go_loopw [7,9,10,11] (fun v7 v9 v10 v11 wr=>∃(i m:Nat) (j:Jl) (root:Nat) (SS:List Int) (l:List Et) (kl:List Bq),i≤m1+n∧m≤50+150 * cntO m1 i∧v9=.int .i64 (root:Int)∧v10=.bool true∧v11=.int .i64 (i:Int)∧Hid (l.length≤cntO m1 i)∧Hid (Keys13 kl l)∧Hid (KsAt w.heap.size wr v7 kl)∧Hid (TJ wr J P w.heap.size m 4096 j root l SS)∧Hid (Below w.heap.size w wr∧Blk wr BX 25 [.pointer (some ⟨J,0,none⟩)])) (fun _ _ _ v _=>m1+n-(Go.RowKit.intOf v).toNat)
 case atStart=>exact⟨0,50,⟨Pl.new 4096,0,false⟩,0,[],[],[],Nat.zero_le _,Nat.le_add_right _ _,rfl,rfl,rfl,Nat.zero_le _,Keys13.nil,KsAt.nil _ _,HT3,HBc⟩
 case round =>
  clear HT3 HBc HB3 HBx
  obtain⟨i,m,j,root,SS,l,kl,hi,hm,rfl,rfl,rfl,HL,HK,HKs,HT,HB⟩:=hrel
  obtain⟨ka0,kc0,hv7,-⟩:=HKs.out.form
  subst hv7
  have f1:IntKind.i64.wrap ((m1:Int)+(n:Int))=(m1:Int)+(n:Int):=wrapi64_in _ (by omega) (by omega)
  by_cases hgo:i<m1+n∧0<n
  ·obtain⟨hgo,hn0⟩:=hgo
   have g1:(i:Int)<(m1:Int)+(n:Int):=by omega
   have g2:(0:Int)<(n:Int):=by omega
   have f2:IntKind.i64.wrap ((i:Int)-(m1:Int))=(i:Int)-(m1:Int):=wrapi64_in _ (by omega) (by omega)
   obtain⟨g,off,hga,hc⟩:=HH.out.cells hn0
   subst hga
   have HCell:Hid (∀kk,kk<n→∃x:Kq,ks[kk]?=some x∧∀W,Below w.heap.size w W→∀j,j<5→W.cell? ⟨g,off+kk * 5+j,none⟩=(kpc x.1 x.2)[j]?):=fun kk hkk=>by
    have hx:ks[kk]?=some (ks[kk]'(by rw[HH.out.len];exact hkk)):=List.getElem?_eq_getElem _
    refine⟨_,hx,fun W hW j hj=>?_⟩
    have h1:=hc kk _ hx j hj
    obtain⟨u,hu⟩:∃u,(kpc (ks[kk]'(by rw[HH.out.len];exact hkk)).1 (ks[kk]'(by rw[HH.out.len];exact hkk)).2)[j]?=some u:=⟨_,List.getElem?_eq_getElem (show j<5 from hj)⟩
    rw[hu] at h1 ⊢
    exact(hW.cell (p:=⟨g,off+kk * 5+j,none⟩) (cell_lt h1)).trans h1
   clear hc
   by_cases hEff:(∃(b1 o1:Nat) (z:Int) (kk:Nat),a1=some ⟨b1,o1,none⟩∧(i:Int)<(m1:Int)∧(i:Int)<100∧wr.cell? ⟨b1,o1+i,none⟩=some (.int .i64 z)∧z.tmod (n:Int)=(kk:Int)∧kk<n∧¬(n:Int)=0∧(0:Int)≤(i:Int))∨(∃kk:Nat,¬(i:Int)<(m1:Int)∧(i:Int)-(m1:Int)=(kk:Int)∧kk<n)
   ·have hc1:cntO m1 i+1≤cntO m1 (i+1):=by
     rcases hEff with⟨_,_,_,_,_,_,_,_⟩|⟨_,_,_⟩<;>(unfold cntO;omega)
    rcases hEff with⟨b1,o1,z,kk,rfl,g3,g4,cz,hq',hkk,hn1,hi0⟩|⟨kk,g3,hkke,hkk⟩
    all_goals
     (try rw[hkke] at f2)
     have g5:¬((kk:Int)<0):=by omega
     as_aux_lemma =>
      have HCk:=HCell.out kk hkk
      obtain⟨x,hx,hckx⟩:=HCk
      have hxm:=List.mem_of_getElem? hx
      have HKx:=mkHid (And.intro (HH.out.ok x hxm) (And.intro (HR.out x hxm) (HLi.out x hxm)))
      clear hx hxm
      obtain⟨⟨kind,key,nn,mm,val⟩,⟨qa,qc,qb,qd⟩⟩:=x
      have HC5:Hid (∀W,Below w.heap.size w W→W.cell? ⟨g,off+kk * 5,none⟩=some (.int .i64 kind)∧W.cell? ⟨g,off+kk * 5+1,none⟩=some (.slice qa key.length qc)∧W.cell? ⟨g,off+kk * 5+2,none⟩=some (.int .i64 nn)∧W.cell? ⟨g,off+kk * 5+3,none⟩=some (.int .i64 mm)∧W.cell? ⟨g,off+kk * 5+4,none⟩=some (.slice qb val.length qd)):=fun W hW=>⟨hckx W hW 0 (by omega),hckx W hW 1 (by omega),hckx W hW 2 (by omega),hckx W hW 3 (by omega),hckx W hW 4 (by omega)⟩
      clear hckx
      obtain⟨c0,c1,c2,c3,c4⟩:=HC5.out wr HB.out.1
      have hkk0:(0:Int)≤(kk:Int):=by omega
      have hkkn:(kk:Int)<(n:Int):=by omega
      have hcl:=cnt_le m1 n i (by omega)
      have HOr:=orderPut w.heap.size wr J P w.heap.size m BX j root l SS ⟨kind,key,nn,mm,val⟩ ⟨qa,qc,qb,qd⟩ HT.out (Nat.le_refl _) (HB.out.2.cell 0) (HKx.out.1.keep (KeepU.of_below HB.out.1)) HKx.out.2.1 HKx.out.2.2 (by have:=HL.out;omega) (by omega)
      change Calls Tryz.prog 28 #[.int .i64 (root:Int),.agg #[.int .i64 kind,.slice qa key.length qc,.int .i64 nn,.int .i64 mm,.slice qb val.length qd],.pointer (some ⟨BX,0,none⟩)] wr _ at HOr
      obtain⟨K,hK⟩:∃K,K=keyP ⟨kind,key,nn,mm,val⟩:=⟨_,rfl⟩
      obtain⟨V,hV⟩:∃V,V=valP ⟨kind,key,nn,mm,val⟩:=⟨_,rfl⟩
      rw[←hK,←hV] at HOr
      have HKV:=mkHid (And.intro hK hV)
      clear hK hV
      go_upto_region 19 with(go_at_fn 28;refine HOr.mono ?_;rintro e y1 ⟨⟨m',j',root',SS',rfl,hm',hT'⟩,hk'⟩)
      have HBy1:=mkHid (HB.out.1.trans hk'.b)
      have hbox1:Blk y1 BX 25 [.pointer (some ⟨J,0,none⟩)]:=hk'.o.blk HB.out.2 (by decide)
      have HT1:=mkHid hT'
      have HKs1:=mkHid (HKs.out.ks hk')
      have HBox:=mkHid hbox1
      have hKy:∀W,Below y1.heap.size y1 W→KpK w.heap.size W ⟨kind,key,nn,mm,val⟩ ⟨qa,qc,qb,qd⟩:=fun W hW=>HKx.out.1.keep (KeepU.of_below (HBy1.out.trans (hW.mono HBy1.out.size)))
      have hkv:key.length+val.length≤1000:=HKx.out.2.2
      have HKey:∀W,Below y1.heap.size y1 W→Calls Tryz.prog 11 #[.agg #[.int .i64 kind,.slice qa key.length qc,.int .i64 nn,.int .i64 mm,.slice qb val.length qd]] W fun e w'=>KeyPost w.heap.size K e w'∧Below W.heap.size W w':=fun W hW=>by
       rw[HKV.out.1]
       exact lawKey13 ⟨kind,key,nn,mm,val⟩ ⟨qa,qc,qb,qd⟩ W (hKy W hW) HKx.out.2.1.n0 HKx.out.2.1.n1 (by show key.length≤_;omega)
      have HVal:∀W,Below y1.heap.size y1 W→Calls Tryz.prog 12 #[.agg #[.int .i64 kind,.slice qa key.length qc,.int .i64 nn,.int .i64 mm,.slice qb val.length qd]] W fun e w'=>KeyPost w.heap.size V e w'∧Below W.heap.size W w':=fun W hW=>by
       rw[HKV.out.2]
       exact lawValue13 ⟨kind,key,nn,mm,val⟩ ⟨qa,qc,qb,qd⟩ W (hKy W hW) HKx.out.2.1.m0 HKx.out.2.1.m1 (by show val.length≤_;omega)
      have HLn:Hid (K.length≤1000∧V.length≤1000):=⟨by rw[HKV.out.1];exact keyP_len _ (by show key.length≤_;omega),by rw[HKV.out.2];exact valP_len _ (by show val.length≤_;omega)⟩
      clear HKs HT hT' hk' hbox1 c0 c1 c2 c3 c4 HOr hKy hkv HKx HKV HB
      have hD:Below y1.heap.size y1 y1.drew:=(Below.refl _ y1).drew
      refine wp_region_noPanic ?_
      refine wp_region_held_drew (S:=fun w'=>Below y1.heap.size y1 w') (by kernel_rfl) hD (fun hHeld=>?_)
      refine takeH (some 88) (i:=0) (v:=?_) rfl (by kernel_rfl) (by kernel_rfl) (by kernel_rfl) (fun _ _ _ h=>h) (Or.inl ⟨by rfl,?_⟩) hHeld rfl ?_
      rotate_left
      ·intro w' hSw;go_simp;with_reducible rfl
      (try simp only[Act.put,sIx,sZ0,sZ1])
      refine takeH (some 89) (i:=1) (v:=?_) rfl (by kernel_rfl) (by kernel_rfl) (by kernel_rfl) (fun _ _ _ h=>h) (Or.inl ⟨by rfl,?_⟩) hHeld rfl ?_
      rotate_left
      ·intro w' hSw;go_simp;with_reducible rfl
      (try simp only[Act.put,sIx,sZ0,sZ1])
      refine takeH (some 90) (i:=2) (v:=?_) rfl (by kernel_rfl) (by kernel_rfl) (by kernel_rfl) (fun _ _ _ h=>h) (Or.inl ⟨by rfl,?_⟩) hHeld rfl ?_
      rotate_left
      ·intro w' hSw;go_simp;with_reducible rfl
      (try simp only[Act.put,sIx,sZ0,sZ1])
      refine takeH (some 91) (i:=3) (v:=.agg #[.int .i64 kind,.slice qa key.length qc,.int .i64 nn,.int .i64 mm,.slice qb val.length qd]) rfl (by kernel_rfl) (by kernel_rfl) (by kernel_rfl) (fun _ _ _ h=>h) (Or.inl ⟨by rfl,?_⟩) hHeld rfl ?_
      ·intro w' hSw;have hq:=HC5.out w' (HBy1.out.trans (hSw.mono HBy1.out.size));obtain⟨s0,s1,s2,s3,s4⟩:=hq;go_simp
      (try simp only[Act.put,sIx,sZ0,sZ1])
      refine takeH (some 93) (i:=5) (v:=?_) rfl (by kernel_rfl) (by kernel_rfl) (by kernel_rfl) (fun _ _ _ h=>h) (Or.inl ⟨by rfl,?_⟩) hHeld rfl ?_
      rotate_left
      ·intro w' hSw;go_simp;with_reducible rfl
      (try simp only[Act.put,sIx,sZ0,sZ1])
      refine takeH (some 94) (i:=6) (v:=?_) rfl (by kernel_rfl) (by kernel_rfl) (by kernel_rfl) (fun _ _ _ h=>h) (Or.inl ⟨by rfl,?_⟩) hHeld rfl ?_
      rotate_left
      ·intro w' hSw;go_simp;with_reducible rfl
      (try simp only[Act.put,sIx,sZ0,sZ1])
      refine takeH (some 95) (i:=7) (v:=?_) rfl (by kernel_rfl) (by kernel_rfl) (by kernel_rfl) (fun _ _ _ h=>h) (Or.inl ⟨by rfl,?_⟩) hHeld rfl ?_
      rotate_left
      ·intro w' hSw;go_simp;with_reducible rfl
      (try simp only[Act.put,sIx,sZ0,sZ1])
      refine takeH (some 96) (i:=8) (v:=.agg #[.int .i64 kind,.slice qa key.length qc,.int .i64 nn,.int .i64 mm,.slice qb val.length qd]) rfl (by kernel_rfl) (by kernel_rfl) (by kernel_rfl) (fun _ _ _ h=>h) (Or.inl ⟨by rfl,?_⟩) hHeld rfl ?_
      ·intro w' hSw;have hq:=HC5.out w' (HBy1.out.trans (hSw.mono HBy1.out.size));obtain⟨s0,s1,s2,s3,s4⟩:=hq;go_simp
      (try simp only[Act.put,sIx,sZ0,sZ1])
      refine wpAnyH_ready (rs:=[4]) (by kernel_rfl) (by simp) (AllReadyH.cons rfl (fun KK hK=>?_) AllReadyH.nil)
      go_simp
      refine(HKey y1.drew hD).mono ?_
      rintro e z1 ⟨⟨ka,kc,rfl,-⟩,hz1⟩
      go_simp
      have hz01:Below y1.heap.size y1 z1:=hD.trans (hz1.mono hD.size)
      refine hK.out _ _ hz01 (fun hHeld=>?_)
      (try simp only[Act.put,sIx,sZ0,sZ1])
      clear hK KK
      refine wpAnyH_ready (rs:=[9]) (by kernel_rfl) (by simp) (AllReadyH.cons rfl (fun KK hK=>?_) AllReadyH.nil)
      go_simp
      refine(HVal z1 hz01).mono ?_
      rintro e z2 ⟨⟨va,vc,rfl,-⟩,hz2⟩
      go_simp
      have hz02:Below y1.heap.size y1 z2:=hz01.trans (hz2.mono hz01.size)
      refine hK.out _ _ hz02 (fun hHeld=>?_)
      (try simp only[Act.put,sIx,sZ0,sZ1])
      clear hK KK
      cases hit:itemOk K V with
      | true =>
       have HIt:=refItem13 K V ka va kc vc z2 (by have:=HLn.out;omega) (by have:=HLn.out;omega)
       rw[hit] at HIt
       refine wpAnyH_ready (rs:=[10]) (by kernel_rfl) (by simp) (AllReadyH.cons rfl (fun KK hK=>?_) AllReadyH.nil)
       go_simp
       refine HIt.mono ?_
       rintro e u3 ⟨rfl,hu3⟩
       obtain rfl:=hu3.symm
       clear hu3 HIt
       go_simp
       refine hK.out _ _ hz02 (fun hHeld=>?_)
       (try simp only[Act.put,sIx,sZ0,sZ1])
       clear hK KK
       refine takeH (some 99) (i:=11) (v:=?_) rfl (by kernel_rfl) (by kernel_rfl) (by kernel_rfl) (fun _ _ _ h=>h) (Or.inl ⟨by rfl,?_⟩) hHeld rfl ?_
       rotate_left
       ·intro w' hSw;go_simp;with_reducible rfl
       (try simp only[Act.put,sIx,sZ0,sZ1])
       refine takeH (some 100) (i:=12) (v:=?_) rfl (by kernel_rfl) (by kernel_rfl) (by kernel_rfl) (fun _ _ _ h=>h) (Or.inl ⟨by rfl,?_⟩) hHeld rfl ?_
       rotate_left
       ·intro w' hSw;go_simp;with_reducible rfl
       (try simp only[Act.put,sIx,sZ0,sZ1])
       refine takeH (some 101) (i:=13) (v:=?_) rfl (by kernel_rfl) (by kernel_rfl) (by kernel_rfl) (fun _ _ _ h=>h) (Or.inl ⟨by rfl,?_⟩) hHeld rfl ?_
       rotate_left
       ·intro w' hSw;go_simp;with_reducible rfl
       (try simp only[Act.put,sIx,sZ0,sZ1])
       refine takeH (some 102) (i:=14) (v:=?_) rfl (by kernel_rfl) (by kernel_rfl) (by kernel_rfl) (fun _ _ _ h=>h) (Or.inl ⟨by rfl,?_⟩) hHeld rfl ?_
       rotate_left
       ·intro w' hSw;go_simp;with_reducible rfl
       (try simp only[Act.put,sIx,sZ0,sZ1])
       refine takeH (some 103) (i:=15) (v:=?_) rfl (by kernel_rfl) (by kernel_rfl) (by kernel_rfl) (fun _ _ _ h=>h) (Or.inl ⟨by rfl,?_⟩) hHeld rfl ?_
       rotate_left
       ·intro w' hSw;go_simp;with_reducible rfl
       (try simp only[Act.put,sIx,sZ0,sZ1])
       refine takeH (some 104) (i:=16) (v:=.agg #[.int .i64 kind,.slice qa key.length qc,.int .i64 nn,.int .i64 mm,.slice qb val.length qd]) rfl (by kernel_rfl) (by kernel_rfl) (by kernel_rfl) (fun _ _ _ h=>h) (Or.inl ⟨by rfl,?_⟩) hHeld rfl ?_
       ·intro w' hSw;have hq:=HC5.out w' (HBy1.out.trans (hSw.mono HBy1.out.size));obtain⟨s0,s1,s2,s3,s4⟩:=hq;go_simp
       (try simp only[Act.put,sIx,sZ0,sZ1])
       refine wpAnyH_ready (rs:=[17]) (by kernel_rfl) (by simp) (AllReadyH.cons rfl (fun KK hK=>?_) AllReadyH.nil)
       go_simp
       refine(HKey z2 hz02).mono ?_
       rintro e z3 ⟨⟨ka3,kc3,rfl,hkk3⟩,hz3⟩
       go_simp
       have hz03:Below y1.heap.size y1 z3:=hz02.trans (hz3.mono hz02.size)
       refine hK.out _ _ hz03 (fun hHeld=>?_)
       (try simp only[Act.put,sIx,sZ0,sZ1])
       clear hK KK
       obtain⟨_,_,hfe,hbs⟩:=(HKs1.out.on hz03).form
       injection hfe with hf1 hf2 hf3
       subst hf1 hf3
       have HIn:=lawIn13 kl K ka0 ka3 kl.length kc0 K.length kc3 z3 hbs (hkk3 z3 (KeepU.refl _ _ _)) (by have:=HK.out.len;have:=HL.out;omega)
       rw[HK.out.inB] at HIn
       refine wpAnyH_ready (rs:=[18]) (by kernel_rfl) (by simp) (AllReadyH.cons rfl (fun KK hK=>?_) AllReadyH.nil)
       go_simp
       refine HIn.mono ?_
       rintro e z4 ⟨rfl,hz4⟩
       go_simp
       have hz04:Below y1.heap.size y1 z4:=hz03.trans (hz4.mono hz03.size)
       refine hK.out _ _ hz04 (fun hHeld=>?_)
       (try simp only[Act.put,sIx,sZ0,sZ1])
       clear hK KK
       have HPt:=mkHid (HK.out.put hit)
       have HT4:=mkHid (show TJ z4 J P w.heap.size m' 4096 j' root' (putE13 l K V) SS' from by have h9:=HT1.out.on hz04;rw[if_pos hit] at h9;exact h9)
       have HKs4:=mkHid (HKs1.out.on hz04)
       have HB4:=mkHid (And.intro (HBy1.out.trans (hz04.mono HBy1.out.size)) (HBox.out.on hz04))
       have HL4:Hid ((putE13 l K V).length≤cntO m1 (i+1)):=by
        have h1:=put_len l K V
        have:=HL.out
        unfold Hid;omega
       cases hin:hasE13 l K with
       | true =>
        rw[hin] at HPt
        refine takeH (some 107) (i:=19) (v:=?_) rfl (by kernel_rfl) (by kernel_rfl) (by kernel_rfl) (fun _ _ _ h=>h) (Or.inl ⟨by rfl,?_⟩) hHeld rfl ?_
        rotate_left
        ·intro w' hSw;go_simp;with_reducible rfl
        (try simp only[Act.put,sIx,sZ0,sZ1])
        refine takeH (some 108) (i:=20) (v:=?_) rfl (by kernel_rfl) (by kernel_rfl) (by kernel_rfl) (fun _ _ _ h=>h) (Or.inl ⟨by rfl,?_⟩) hHeld rfl ?_
        rotate_left
        ·intro w' hSw;go_simp;with_reducible rfl
        (try simp only[Act.put,sIx,sZ0,sZ1])
        refine wpAnyH_done (by kernel_rfl) ?_ _
        refine NoPanic.normal ?_
        clear hD hz01 hz02 hz03 hz04 hz1 hz2 hz3 hz4 hkk3 hbs HIn HT1 HKs1 HBy1 HBox HKey HVal
        go_wp2_with fail
        go_roundw
        case rel=>exact⟨i+1,m',j',root',SS',putE13 l K V,kl,by omega,by omega,rfl,rfl,by go_num,HL4,by have h9:=HPt.out (none,0);rw[if_pos rfl] at h9;exact h9,HKs4,HT4,HB4⟩
        case measure=>simp[Go.RowKit.intOf];omega
       | false =>
        rw[hin] at HPt
        refine takeH (some 107) (i:=19) (v:=?_) rfl (by kernel_rfl) (by kernel_rfl) (by kernel_rfl) (fun _ _ _ h=>h) (Or.inl ⟨by rfl,?_⟩) hHeld rfl ?_
        rotate_left
        ·intro w' hSw;go_simp;with_reducible rfl
        (try simp only[Act.put,sIx,sZ0,sZ1])
        refine takeH (some 108) (i:=20) (v:=?_) rfl (by kernel_rfl) (by kernel_rfl) (by kernel_rfl) (fun _ _ _ h=>h) (Or.inl ⟨by rfl,?_⟩) hHeld rfl ?_
        rotate_left
        ·intro w' hSw;go_simp;with_reducible rfl
        (try simp only[Act.put,sIx,sZ0,sZ1])
        refine wpAnyH_done (by kernel_rfl) ?_ _
        refine NoPanic.normal ?_
        obtain⟨s0,s1,s2,s3,s4⟩:=HC5.out z4 HB4.out.1
        have HKe4:=HKey z4 hz04
        have hbs4:w.heap.size≤z4.heap.size:=HB4.out.1.size
        have HSa:Hid (∀(Z:World) (qa qc),SrcC rtB13 (Z.alloc (.cells #[.slice qa K.length qc] 33)) (some ⟨Z.heap.size,0,none⟩) 1 1 [((K,(qa,qc)):Bq)]):=fun Z qa qc=>Blk.srcC (R:=rtB13) (Blk.new Z _ _)
        have HKl:Hid (kl.length≤200):=by have:=HK.out.len;have:=HL.out;unfold Hid;omega
        clear hD hz01 hz02 hz03 hz04 hz1 hz2 hz3 hz4 hkk3 hbs HIn HT1 HKs1 HBy1 HBox HKey HVal
        go_wp2_with (first|(go_at_call 11;refine HKe4.mono ?_;rintro e z5 ⟨⟨ka5,kc5,rfl,hkk5⟩,hz5⟩;have hbA:=(Below.refl _ z5).alloc (Nat.le_refl _) (.cells #[.slice ka5 K.length kc5] 33);have HKs5:=mkHid ((HKs4.out.on hz5).on hbA);have HT5:=mkHid ((HT4.out.on hz5).on hbA);have HBl5:=mkHid ((HB4.out.2.on hz5).on hbA);have h51:=HB4.out.1.trans (hz5.mono hbs4);have HBw5:=mkHid (h51.trans (hbA.mono h51.size));have HBs5:Hid (BsP w.heap.size (z5.alloc (.cells #[.slice ka5 K.length kc5] 33)) ka5 K.length kc5 K):=(fun W hW=>hkk5 W ((KeepU.of_below hbA).trans (hW.less (by decide))));clear hkk5 hz5 hbA h51)|(at_builtin;refine list_appC okB13 _ rfl (.tmp 109) (.tmp 115) rfl w.heap.size _ kl rfl HKs5.out.own _ 1 1 [((K,(ka5,kc5)):Bq)] rfl (HSa.out _ _ _) (by show (kl.length+1) * 24≤_;have:=HKl.out;omega) HBw5.out.size ?_;intro v2 V2 ho2 hg2))
        have HT2:=KeepT.grownC HKs5.out.own hg2
        (try rw[show (Value.tuple #[]:Value)=undef from rfl])
        go_roundw
        case rel=>exact⟨i+1,m',j',root',SS',putE13 l K V,kl++[((K,(ka5,kc5)):Bq)],by omega,by omega,rfl,rfl,by go_num,HL4,by have h9:=HPt.out (ka5,kc5);rw[if_neg (by simp)] at h9;exact h9,HKs5.out.app HBs5.out HBw5.out.size ho2 hg2,HT5.out.keepB HT2,HBw5.out.grown hg2 HBw5.out.size (fun j hj=>(HKs5.out.own.lt hj).1),HT2.blk HBl5.out (by decide)⟩
        case measure=>simp[Go.RowKit.intOf];omega
      | false =>
       have HIt:=refItem13 K V ka va kc vc z2 (by have:=HLn.out;omega) (by have:=HLn.out;omega)
       rw[hit] at HIt
       refine wpAnyH_ready (rs:=[10]) (by kernel_rfl) (by simp) (AllReadyH.cons rfl (fun KK hK=>?_) AllReadyH.nil)
       go_simp
       refine HIt.mono ?_
       rintro e u3 ⟨rfl,hu3⟩
       obtain rfl:=hu3.symm
       clear hu3 HIt
       go_simp
       refine hK.out _ _ hz02 (fun hHeld=>?_)
       (try simp only[Act.put,sIx,sZ0,sZ1])
       clear hK KK
       refine takeH (some 99) (i:=11) (v:=?_) rfl (by kernel_rfl) (by kernel_rfl) (by kernel_rfl) (fun _ _ _ h=>h) (Or.inl ⟨by rfl,?_⟩) hHeld rfl ?_
       rotate_left
       ·intro w' hSw;go_simp;with_reducible rfl
       (try simp only[Act.put,sIx,sZ0,sZ1])
       refine takeH (some 100) (i:=12) (v:=undef) rfl (by kernel_rfl) (by kernel_rfl) (by kernel_rfl) (fun _ _ _ h=>h) (Or.inr ⟨by rfl,rfl⟩) hHeld rfl ?_
       (try simp only[Act.put,sIx,sZ0,sZ1])
       refine takeH (some 101) (i:=13) (v:=undef) rfl (by kernel_rfl) (by kernel_rfl) (by kernel_rfl) (fun _ _ _ h=>h) (Or.inr ⟨by rfl,rfl⟩) hHeld rfl ?_
       (try simp only[Act.put,sIx,sZ0,sZ1])
       refine takeH (some 102) (i:=14) (v:=undef) rfl (by kernel_rfl) (by kernel_rfl) (by kernel_rfl) (fun _ _ _ h=>h) (Or.inr ⟨by rfl,rfl⟩) hHeld rfl ?_
       (try simp only[Act.put,sIx,sZ0,sZ1])
       refine takeH (some 103) (i:=15) (v:=undef) rfl (by kernel_rfl) (by kernel_rfl) (by kernel_rfl) (fun _ _ _ h=>h) (Or.inr ⟨by rfl,rfl⟩) hHeld rfl ?_
       (try simp only[Act.put,sIx,sZ0,sZ1])
       refine takeH (some 104) (i:=16) (v:=undef) rfl (by kernel_rfl) (by kernel_rfl) (by kernel_rfl) (fun _ _ _ h=>h) (Or.inr ⟨by rfl,rfl⟩) hHeld rfl ?_
       (try simp only[Act.put,sIx,sZ0,sZ1])
       refine takeH (some 105) (i:=17) (v:=undef) rfl (by kernel_rfl) (by kernel_rfl) (by kernel_rfl) (fun _ _ _ h=>h) (Or.inr ⟨by rfl,rfl⟩) hHeld rfl ?_
       (try simp only[Act.put,sIx,sZ0,sZ1])
       refine takeH (some 106) (i:=18) (v:=undef) rfl (by kernel_rfl) (by kernel_rfl) (by kernel_rfl) (fun _ _ _ h=>h) (Or.inr ⟨by rfl,rfl⟩) hHeld rfl ?_
       (try simp only[Act.put,sIx,sZ0,sZ1])
       refine takeH (some 107) (i:=19) (v:=undef) rfl (by kernel_rfl) (by kernel_rfl) (by kernel_rfl) (fun _ _ _ h=>h) (Or.inr ⟨by rfl,rfl⟩) hHeld rfl ?_
       (try simp only[Act.put,sIx,sZ0,sZ1])
       refine takeH (some 108) (i:=20) (v:=?_) rfl (by kernel_rfl) (by kernel_rfl) (by kernel_rfl) (fun _ _ _ h=>h) (Or.inl ⟨by rfl,?_⟩) hHeld rfl ?_
       rotate_left
       ·intro w' hSw;go_simp;with_reducible rfl
       (try simp only[Act.put,sIx,sZ0,sZ1])
       refine wpAnyH_done (by kernel_rfl) ?_ _
       refine NoPanic.normal ?_
       have HT4:=mkHid (show TJ z2 J P w.heap.size m' 4096 j' root' l SS' from by have h9:=HT1.out.on hz02;rw[if_neg (by rw[hit];simp)] at h9;exact h9)
       have HKs4:=mkHid (HKs1.out.on hz02)
       have HB4:=mkHid (And.intro (HBy1.out.trans (hz02.mono HBy1.out.size)) (HBox.out.on hz02))
       have HL4:Hid (l.length≤cntO m1 (i+1)):=by
        have:=HL.out
        unfold Hid;omega
       clear hD hz01 hz02 hz1 hz2 HT1 HKs1 HBy1 HBox HKey HVal
       go_wp2_with fail
       go_roundw
       case rel=>exact⟨i+1,m',j',root',SS',l,kl,by omega,by omega,rfl,rfl,by go_num,HL4,HK,HKs4,HT4,HB4⟩
       case measure=>simp[Go.RowKit.intOf];omega
   ·by_cases hA:i<m1
    ·have g3:(i:Int)<(m1:Int):=by omega
     by_cases hA1:i<100
     ·have g4:(i:Int)<100:=by omega
      obtain⟨b1,o1,z,hb1e,_,hz,hzc⟩:=HOs.out.at i hA
      subst hb1e
      have cz:wr.cell? ⟨b1,o1+i,none⟩=some (.int .i64 z):=by
       have h1:=hzc 0 _ rfl
       rw[Nat.mul_one,Nat.add_zero] at h1
       exact(HB.out.1.cell (p:=⟨b1,o1+i,none⟩) (cell_lt h1)).trans h1
      have hn1:¬(n:Int)=0:=by omega
      have hi0:(0:Int)≤(i:Int):=by omega
      clear hzc hz
      obtain⟨q,hq⟩:∃q,q=z.tmod (n:Int):=⟨_,rfl⟩
      have hq':z.tmod (n:Int)=q:=hq.symm
      have hql:q<(n:Int):=by rw[hq];exact Int.tmod_lt_of_pos _ g2
      clear hq
      have hq0:q<0:=by
       rcases Int.lt_or_le q 0 with h9|h9
       ·exact h9
       ·exact absurd (Or.inl ⟨b1,o1,z,q.toNat,rfl,g3,g4,cz,by omega,by omega,hn1,hi0⟩) hEff
      clear hEff
      go_wp2_with fail
      go_roundw
      case rel=>exact⟨i+1,m,j,root,SS,l,kl,by omega,by have:=cnt_mono m1 i;omega,rfl,rfl,by go_num,by have:=HL.out;have:=cnt_mono m1 i;unfold Hid;omega,HK,HKs,HT,HB⟩
      case measure=>simp[Go.RowKit.intOf];omega
     ·have g4:¬(i:Int)<100:=by omega
      have g5:(i:Int)-(m1:Int)<0:=by omega
      clear hEff
      go_wp2_with fail
      go_roundw
      case rel=>exact⟨i+1,m,j,root,SS,l,kl,by omega,by have:=cnt_mono m1 i;omega,rfl,rfl,by go_num,by have:=HL.out;have:=cnt_mono m1 i;unfold Hid;omega,HK,HKs,HT,HB⟩
      case measure=>simp[Go.RowKit.intOf];omega
    ·exact absurd (Or.inr ⟨i-m1,by omega,by omega,by omega⟩) hEff
  ·have HLl:Hid (l.length≤160):=by have h1:=cnt_le m1 n i hi;have:=HL.out;unfold Hid;omega
   have HOp:=treeOpen HT.out
   have c0:wr.cell? ⟨BX,0,none⟩=some (.pointer (some ⟨J,0,none⟩)):=HB.out.2.cell 0
   have HTr:=mkHid (And.intro HT.out.tk HT.out.tr)
   have hex:((i:Int)<(m1:Int)+(n:Int)∧¬(0:Int)<(n:Int))∨¬((i:Int)<(m1:Int)+(n:Int)):=by omega
   clear hgo
   rcases hex with⟨g1,g2⟩|g1
   all_goals
    as_aux_lemma =>
     go_wp2_with fail
     refine HOp.mono ?_
     rintro e y1 ⟨⟨S,rfl,hS1⟩,hk1⟩
     have HB1:=mkHid (HB.out.1.trans hk1.b)
     have HSx:=mkHid hS1
     have HKs1:=mkHid (HKs.out.ks hk1)
     have HSc:=codScan13 y1 S J P w.heap.size m t0 j root l SS none 0 0 [] 1000 hS1 HTr.out.1 HTr.out.2 (fl:=0) (fun W _=>isB_none W) (Nat.zero_le _)
     clear HOp hS1 hk1 HT HB HKs c0
     go_wp2_with fail
     refine HSc.mono ?_
     rintro e y2 ⟨⟨sv,rfl,hsc⟩,hb2⟩
     obtain⟨sa,sc,L,hsv,hIs,hLe,hLn0⟩:=hsc.isEs
     subst hsv
     rw[scan_all _ (by have:=HLl.out;omega)] at hLe
     have hln:L.length=l.length:=by have h1:=congrArg List.length hLe;rw[List.length_map] at h1;exact h1
     have e1:kl.length=L.length:=by rw[hln];exact HK.out.len
     have HKs2:=mkHid (HKs1.out.on hb2)
     have HB2:=mkHid (HB1.out.trans (hb2.mono HB1.out.size))
     have HS2:=mkHid (SpAx.keep HSx.out (KeepT.of_below hb2))
     obtain⟨ln,hlne⟩:∃ln,ln=L.length:=⟨_,rfl⟩
     rw[e1] at HKs2 ⊢
     rw[←hlne] at HKs2 hIs ⊢
     have HEs:=mkHid hIs
     have HLe:=mkHid hLe
     have HLn:=mkHid hlne
     have hl160:ln≤160:=by have:=HLl.out;omega
     have HKl:Hid (kl.length=ln):=by unfold Hid;omega
     clear HSc hb2 hIs hLe hlne hln e1 HB1 HSx HKs1 hsc hLn0
     go_wp2_with fail
     go_loopw [17] (fun v17 wz=>∃k:Nat,k≤ln∧v17=.int .i64 (k:Int)∧Hid (Below y2.heap.size y2 wz)) (fun v _=>ln-(Go.RowKit.intOf v).toNat)
     case atStart=>exact⟨0,Nat.zero_le _,rfl,Below.refl _ _⟩
     case round =>
      obtain⟨k,hk,rfl,HW⟩:=hrel
      rename World=>wz
      by_cases hlt:k<ln
      ·have hlt':(k:Int)<(ln:Int):=by omega
       have hk0:(0:Int)≤(k:Int):=by omega
       obtain⟨gs,go_,rfl,hc⟩:=HEs.out.cells (by omega)
       obtain⟨x,hx⟩:∃x,L[k]?=some x:=⟨L[k]'(by rw[←HLn.out];exact hlt),List.getElem?_eq_getElem _⟩
       have hxl:x.1∈l:=by rw[←HLe.out];exact List.mem_map.2 ⟨x,List.mem_of_getElem? hx,rfl⟩
       obtain⟨hgm,hhm⟩:=get_mem HK.out.srt hxl
       have hok:=HK.out.ok _ hxl
       obtain⟨cA,cB,hIx⟩:=hc k x hx
       have d0:wz.cell? ⟨gs,go_+k * 2,none⟩=some (.slice x.2.a x.1.k.length x.2.c):=(HW.out.cell (p:=⟨gs,go_+k * 2,none⟩) (cell_lt cA)).trans cA
       have hIk:=hIx.k.below HW.out rfl
       have HGt:=codGet13 wz S J P w.heap.size m t0 j root l SS x.2.a x.1.k.length x.2.c x.1.k (SpAx.keep HS2.out (KeepT.of_below HW.out)) HTr.out.1 HTr.out.2 hIk
       go_wp2_with fail
       refine HGt.mono ?_
       rintro e y4 ⟨⟨gv,gh,rfl,hgt⟩,hb4⟩
       rw[hok] at hgt ⊢
       obtain⟨rfl,hv⟩:=hgt rfl
       rw[hgm] at hv
       rw[hhm]
       obtain⟨ga,gc,rfl,hgi⟩:=hv
       simp only[if_true]
       have hW4:=HW.out.trans (hb4.mono HW.out.size)
       have CA:∀z,(y4.drewN z).cell? ⟨gs,go_+k * 2,none⟩=some (.slice x.2.a x.1.k.length x.2.c):=fun z=>(hW4.cell (p:=⟨gs,go_+k * 2,none⟩) (cell_lt cA)).trans cA
       have CB:∀z,(y4.drewN z).cell? ⟨gs,go_+k * 2+1,none⟩=some (.slice x.2.b x.1.v.length x.2.d):=fun z=>(hW4.cell (p:=⟨gs,go_+k * 2+1,none⟩) (cell_lt cB)).trans cB
       have S1:=fun (z:Nat)=>refSameQ hgi (hIx.v.below hW4 rfl) true (eqB_self _) z
       have SI:∀z,Calls Tryz.prog 29 #[.slice ka0 ln kc0,.slice x.2.a x.1.k.length x.2.c] (y4.drewN z) fun e w'=>e=.returned (.bool true)∧∃m,w'=y4.drewN m:=fun z=>by
        have hbz:Below y2.heap.size y2 (y4.drewN z):=bel_drewN hW4 z
        obtain⟨_,_,hfe,hbs⟩:=(HKs2.out.on hbz).form
        have hln9:=HKl.out
        injection hfe with hf1 hf2 hf3
        subst hf1 hf3
        have HIn:=lawInQ kl x.1.k ka0 x.2.a kl.length kc0 x.1.k.length x.2.c (y4.drewN z) hbs (hIx.k.below hbz rfl) (by omega)
        rw[HK.out.inB,hhm,hln9] at HIn
        exact Calls.quiet_of HIn
       have HWq:Hid (∀z,Below y2.heap.size y2 (y4.drewN z)):=fun z=>bel_drewN hW4 z
       by_cases hk1:k=0
       ·have hkz:¬(0:Int)<(k:Int):=by omega
        have hkd:decide ((0:Int)<(k:Int))=false:=decide_eq_false hkz
        have hkd2:decide (0<k)=false:=decide_eq_false (by omega)
        clear hx hgi hIx hIk hhm hgm hok hxl cA cB hc d0 HGt hgt hk1 hb4 hW4
        go_wp2_with fail
        go_quiet (first|(go_at_call 21;exact S1 _)|(go_at_call 29;exact SI _))
        go_wp2_with fail
        go_roundw
        case rel=>exact⟨k+1,by omega,by go_num,HWq.out nq⟩
        case measure=>simp[Go.RowKit.intOf];omega
       ·have hkz:(0:Int)<(k:Int):=by omega
        have hkd:decide ((0:Int)<(k:Int))=true:=decide_eq_true hkz
        have hkd2:decide (0<k)=true:=decide_eq_true (by omega)
        obtain⟨kp,hkp⟩:∃kp,k=kp+1:=⟨k-1,by omega⟩
        have fK:IntKind.i64.wrap ((k:Int)-1)=(kp:Int):=(wrapi64_in _ (by omega) (by omega)).trans (by omega)
        have hkp0:(0:Int)≤(kp:Int):=by omega
        have hkpl:(kp:Int)<(ln:Int):=by omega
        obtain⟨xp,hxp⟩:∃xp,L[kp]?=some xp:=⟨L[kp]'(by rw[←HLn.out];omega),List.getElem?_eq_getElem _⟩
        obtain⟨cP,_,hIp⟩:=hc kp xp hxp
        have CP:∀z,(y4.drewN z).cell? ⟨gs,go_+kp * 2,none⟩=some (.slice xp.2.a xp.1.k.length xp.2.c):=fun z=>(hW4.cell (p:=⟨gs,go_+kp * 2,none⟩) (cell_lt cP)).trans cP
        have hless:Op.bytesLess xp.1.k x.1.k=true:=by
         have hs:=HK.out.srt
         rw[←HLe.out] at hs
         have hs2:=List.pairwise_iff_getElem.1 (List.pairwise_map.1 hs) kp k (List.getElem?_eq_some_iff.1 hxp).1 (List.getElem?_eq_some_iff.1 hx).1 (by omega)
         rw[(List.getElem?_eq_some_iff.1 hxp).2,(List.getElem?_eq_some_iff.1 hx).2] at hs2
         exact hs2
        have SL:∀z,Calls Tryz.prog 30 #[.slice xp.2.a xp.1.k.length xp.2.c,.slice x.2.a x.1.k.length x.2.c] (y4.drewN z) fun e w'=>e=.returned (.bool true)∧∃m,w'=y4.drewN m:=fun z=>by
         have hbz:Below y2.heap.size y2 (y4.drewN z):=bel_drewN hW4 z
         have HL:=refLess13 xp.1.k x.1.k xp.2.a x.2.a xp.1.k.length xp.2.c x.1.k.length x.2.c (y4.drewN z) (hIp.k.below hbz rfl) (hIx.k.below hbz rfl)
         rw[hless] at HL
         exact Calls.quiet_of_same HL
        clear hx hgi hIx hIk hhm hgm hok hxl cA cB hc d0 HGt hgt hk1 hb4 hW4 hxp cP hIp hless hkp
        go_wp2_with fail
        go_quiet (first|(go_at_call 21;exact S1 _)|(go_at_call 29;exact SI _)|(go_at_call 30;exact SL _))
        go_wp2_with fail
        go_roundw
        case rel=>exact⟨k+1,by omega,by go_num,HWq.out nq⟩
        case measure=>simp[Go.RowKit.intOf];omega
      ·have hlt':¬(k:Int)<(ln:Int):=by omega
       go_wp2_with fail
       refine(HAl wz).mono ?_
       rintro e z3 ⟨rfl,hb3⟩
       have HB3:=mkHid (HB2.out.trans ((HW.out.trans (hb3.mono HW.out.size)).mono HB2.out.size))
       clear hb3
       go_wp2_with fail
       go_ret
       exact⟨rfl,HB3.out⟩
end
section
open Go.ChangeShapes Go.WideShapes
structure KqIn (W:World)(q:Kq):Prop where
 k:IsB W q.2.a q.1.key.length q.2.c q.1.key
 v:IsB W q.2.b q.1.value.length q.2.d q.1.value
 kl:q.1.key.length≤140737488351232
 vl:q.1.value.length≤140737488351232
 r:KqR q
theorem open_kqc {H:Type}{enc:TypeId × Value→H}{W:World}(n:Nat)(cs:List Value)(x:DataW H × List MemPlace)(h:DataW.trod enc Tryz.prog W 0 (fun _=>true) true n 35 cs=some x)(hN:∀m∈x.1.weights Tryz.prog 35,m≤140737488351232):
  ∃q:Kq,cs=kpc q.1 q.2∧KqIn W q:=by
 obtain⟨d,pl⟩:=x
 obtain⟨xs,k,hk,hxy,hcl,hxl,hf⟩:=DataW.trod_struct Tryz.underlying35 h
 rw[show Tryz.prog.cellsOf 35=5 by kernel_rfl] at hcl
 match xs,hxl,cs,hcl with
 | [y0,y1,y2,y3,y4],_,[v0,v1,v2,v3,v4],_ =>
  have g0:=hf 0 _ rfl
  have g1:=hf 1 _ rfl
  have g2:=hf 2 _ rfl
  have g3:=hf 3 _ rfl
  have g4:=hf 4 _ rfl
  have c_i:Tryz.prog.cellsOf 3=1:=by kernel_rfl
  have c_y:Tryz.prog.cellsOf 33=1:=by kernel_rfl
  simp[c_i] at g0
  simp[c_y] at g1
  simp[c_i] at g2
  simp[c_i] at g3
  simp[c_y] at g4
  have hd:d=.agg [y0.1,y1.1,y2.1,y3.1,y4.1]:=by have:=(Prod.mk.inj hxy).1;simpa using this
  obtain⟨x0,e0,_,r0⟩:=DataW.trod_int Tryz.underlying3 g0
  simp only[List.cons.injEq,and_true] at e0
  subst e0
  have i0 : -9223372036854775808≤x0∧x0≤9223372036854775807:=by simpa [Lit.wf,IntKind.min,IntKind.max,IntKind.signed,IntKind.bits] using r0
  obtain⟨a1,m1,p1,rfl⟩:=slice_of14 Tryz.underlying33 g1
  have hw1:∀n∈y1.1.weights Tryz.prog 33,n≤140737488351232:=fun n hn=>hN n (by
   rw[hd]
   simp only[DataW.weights,Tryz.underlying35,DataW.weightsEach,List.map_cons,List.map_nil]
   simp[hn])
  obtain⟨b1,h1,hL1⟩:=open_bytes g1
  have n1:=hL1 _ hw1
  obtain rfl:=h1.len_eq
  obtain⟨x2,e2,_,r2⟩:=DataW.trod_int Tryz.underlying3 g2
  simp only[List.cons.injEq,and_true] at e2
  subst e2
  have i2 : -9223372036854775808≤x2∧x2≤9223372036854775807:=by simpa [Lit.wf,IntKind.min,IntKind.max,IntKind.signed,IntKind.bits] using r2
  obtain⟨x3,e3,_,r3⟩:=DataW.trod_int Tryz.underlying3 g3
  simp only[List.cons.injEq,and_true] at e3
  subst e3
  have i3 : -9223372036854775808≤x3∧x3≤9223372036854775807:=by simpa [Lit.wf,IntKind.min,IntKind.max,IntKind.signed,IntKind.bits] using r3
  obtain⟨a4,m4,p4,rfl⟩:=slice_of14 Tryz.underlying33 g4
  have hw4:∀n∈y4.1.weights Tryz.prog 33,n≤140737488351232:=fun n hn=>hN n (by
   rw[hd]
   simp only[DataW.weights,Tryz.underlying35,DataW.weightsEach,List.map_cons,List.map_nil]
   simp[hn])
  obtain⟨b4,h4,hL4⟩:=open_bytes g4
  have n4:=hL4 _ hw4
  obtain rfl:=h4.len_eq
  exact⟨(⟨x0,b1,x2,x3,b4⟩,⟨a1,p1,a4,p4⟩),rfl,⟨h1,h4,n1,n4,⟨i2.1,i2.2,i3.1,i3.2⟩⟩⟩
theorem open_ks13 {H:Type}{enc:TypeId × Value→H}{W:World}{fuel:Nat}{a:Option Addr}{len cap:Nat}{x:DataW H × List MemPlace}(h:DataW.trod enc Tryz.prog W 0 (fun _=>true) true fuel 22 [.slice a len cap]=some x)(hN:∀n∈x.1.weights Tryz.prog 22,n≤140737488351232):
  ∃l,IsK13 W.heap.size W a len l∧(∀y∈l,KqR y)∧len≤140737488351232:=by
 obtain⟨l,h1,h2,h3,_,_⟩:=open_row ((⟨0,[],0,0,[]⟩,⟨none,0,none,0⟩):Kq) 5 (fun q=>kpc q.1 q.2) (KqIn W) 22 35 Tryz.underlying22 (by kernel_rfl) (by decide) (fun _=>rfl) open_kqc h hN
 rw[show Tryz.prog.bytesOf 35=72 by kernel_rfl] at h3
 refine⟨l,⟨h1.len,fun hp=>?_,fun y hy=>kpk_in (h2 y hy).k (h2 y hy).v,fun y hy=>⟨by have:=(h2 y hy).kl;omega,by have:=(h2 y hy).vl;omega⟩⟩,fun y hy=>(h2 y hy).r,by omega⟩
 obtain⟨g,off,e,_,hc⟩:=h1.cells hp
 refine⟨g,off,e,fun k y hy j hj=>?_⟩
 have h5:(kpc y.1 y.2)[j]?=some ((kpc y.1 y.2)[j]'(by simpa [kpc] using hj)):=List.getElem?_eq_getElem _
 rw[h5]
 exact hc k y hy j _ h5
theorem open_oc13 {H:Type}{enc:TypeId × Value→H}{W:World}(n:Nat)(cs:List Value)(x:DataW H × List MemPlace)(h:DataW.trod enc Tryz.prog W 0 (fun _=>true) true n 3 cs=some x)(_:∀m∈x.1.weights Tryz.prog 3,m≤140737488351232):
  ∃q:Int,cs=[.int .i64 q]∧True:=by
 obtain⟨x0,e0,_,_⟩:=DataW.trod_int Tryz.underlying3 h
 exact⟨x0,e0,trivial⟩
theorem open_os13 {H:Type}{enc:TypeId × Value→H}{W:World}{fuel:Nat}{a:Option Addr}{len cap:Nat}{x:DataW H × List MemPlace}(h:DataW.trod enc Tryz.prog W 0 (fun _=>true) true fuel 58 [.slice a len cap]=some x)(hN:∀n∈x.1.weights Tryz.prog 58,n≤140737488351232):
  ∃l,RowC 1 (fun z:Int=>[Value.int .i64 z]) W a len l∧len≤140737488351232:=by
 obtain⟨l,h1,_,h3,_,_⟩:=open_row (0:Int) 1 (fun z:Int=>[Value.int .i64 z]) (fun _=>True) 58 3 Tryz.underlying58 (by kernel_rfl) (by decide) (fun _=>rfl) open_oc13 h hN
 rw[show Tryz.prog.bytesOf 3=8 by kernel_rfl] at h3
 exact⟨l,h1,by omega⟩
end
section
open Go.RowKit
theorem returns_laid {H:Type}{enc:TypeId × Value→H}{a:Assume}{C:Checked}{os:Os}{f:FuncId}{fn:Func}{s:ChangeSpec}{conds:List PathCond}{apart fresh handsOn again:Bool}{X:World→Array Value→Prop}
  (hX:∀(w w':World) (args:Array Value),w.heap=w'.heap→X w args→X w' args)
  (own:ownKnob C.prog.godebug=none) (started:os.Started) (noInit:C.prog.inits.idxOf? f=none) (hfn:C.prog.funcs[f]?=some fn)
  (witness:∃(w:World) (tape:Tape) (i:Input),w.os=os∧(w.forCall tape i).Shaped C.prog∧i.vars=[]∧Input.okWide C.prog (w.forCall tape i) .any w.heap.size f i ∧
   ((s.pre enc C.prog fn conds apart (w.forCall tape i).memory i.args∧X (w.forCall tape i).memory i.args)∧sizedMet enc C.prog fn (OpenSpec.ofChange s) apart (w.forCall tape i).memory i.args)∧a.holds C.prog (lone (Frame.enter C.prog f i.args .normal) [] (w.forCall tape i)))
  (contract:∀(W:World) (base:Nat) (args:Array Value) (ds gs:List (DataW H)) (before:List MemPlace),
   (∀(j:Nat) t v,fn.params[j]?=some t→args[j]?=some v→Value.okWide C.prog W .any base t v) →
   DataW.Whole enc C.prog fn.params.toList s.vars apart W args.toList ds gs before →
   conds.all (PathCond.test C.prog ⟨fn.params.toList,ds,s.plain.varTypes C.prog,gs⟩)=true →
   (DataW.weightsEach C.prog (fn.params.toList++s.plain.varTypes C.prog) (ds++gs)).all (·≤reachBytes)=true→X W args→W.ShapedOpen C.prog →
   a.holds C.prog (lone (Frame.enter C.prog f args .normal) [] W) →
   Calls C.prog f args W fun e W'=>∃v,e=.returned v∧s.post enc C.prog fn apart fresh handsOn again W args v W'):
  ReturnsInHanded a C os f .any (fun w args=>(s.pre enc C.prog fn conds apart w args∧X w args)∧sizedMet enc C.prog fn (OpenSpec.ofChange s) apart w args) (s.post enc C.prog fn apart fresh handsOn again):=by
 refine returnsInHanded_of_calls own started noInit witness ?_
 intro w tape i _ hsh _ hok hpre hholds
 obtain⟨_,_,_,fn',hfn',_,_,_,_,hval⟩:=hok
 have e:fn'=fn:=Option.some.inj (hfn'.symm.trans hfn)
 subst e
 obtain⟨⟨⟨ds,gs,before,hw,hc⟩,hx⟩,hz⟩:=hpre
 have hw':=DataW.Whole.of_heap (w':=w.forCall tape i) (by rfl) hw
 refine(contract (w.forCall tape i) w.heap.size i.args ds gs before hval hw' hc (hz.weights hw) (hX _ _ _ (by rfl) hx) hsh hholds).mono fun e W' ⟨v,he,hp⟩=>?_
 subst he
 exact ChangeSpec.post_blind hp
abbrev laidQ13:List (String × DataW Unit):=[("unicode/utf8.acceptRanges",Rows.laid_unicode_utf8_acceptRanges),("unicode/utf8.first",Rows.laid_unicode_utf8_first)]
end
end Go.Proofs.YtpecobmfabmpkaaGreatDoor
