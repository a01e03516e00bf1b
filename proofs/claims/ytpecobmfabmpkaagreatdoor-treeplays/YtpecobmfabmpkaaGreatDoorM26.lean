/- PvL OpenB RowC OwnC -/
import Derived.Test.YtpecobmfabmpkaaGreatDoorM25
import Derived.Deep.SlicePairs
import Derived.OpenShut
import Derived.Deep.CutBlock
import Derived.Laws.AppendOwnNone
set_option maxRecDepth 20000
set_option maxHeartbeats 2000000
namespace Go.Proofs.YtpecobmfabmpkaaGreatDoor
open Go.RowKit
theorem codCheckL (w:World)(Wb:Nat)(at_:Int)(gv ve vk:Value)(l:List Et)(L:List Eq3)(la:Option Addr)(ln lc:Nat)(lb:List UInt8)(hB:Blk w Wb 144 [gv,.slice la ln lc])(hp:PgR 0 w ⟨0,l,[]⟩ ve vk L)(hne:l≠[])(hlast:BsP 0 w la ln lc lb)(hlt:Op.bytesLess lb (fstK l)=true)(hn:l.length≤1000):
  Calls Tryz.prog 115 #[.pointer (some ⟨Wb,0,none⟩),.agg #[.int .i64 at_,.int .i64 0,ve,vk]] w fun e w'=>e=.returned (.tuple #[])∧(∃ a n c,Blk w' Wb 144 [gv,.slice a n c]∧BsP 0 w' a n c (lstK l))∧KeepT [144] w w'∧(∀ b,b≤Wb→b≤w.heap.size→Below b w w'):=by
 obtain ⟨ea,ec,xa,xc,rfl,rfl⟩:=hp.forms
 have hLn:=hp.len
 have hl0:0<l.length:=List.length_pos_iff.2 hne
 have hLl:L.length=l.length:=hLn
 obtain ⟨x0,hx0⟩:∃ x,L[0]?=some x:=⟨_,List.getElem?_eq_getElem (by omega)⟩
 obtain ⟨x1,hx1⟩:∃ x,L[l.length-1]?=some x:=⟨_,List.getElem?_eq_getElem (by omega)⟩
 obtain ⟨_,_,g,off,hg,e0,_,i0⟩:=hp.e.at_ 0 x0 hx0
 obtain ⟨_,_,g',off',hg',e1,_,i1⟩:=hp.e.at_ (l.length-1) x1 hx1
 have hgg:g'=g∧off'=off:=by rw [hg] at hg';have:=Option.some.inj hg';injection this with h1 h2 _;exact ⟨h1.symm,h2.symm⟩
 obtain ⟨rfl,rfl⟩:=hgg
 subst hg
 have hk0:x0.1.k=fstK l:=by
  unfold fstK
  rw [show l=L.map Prod.fst from hp.es.symm,List.getD_eq_getElem?_getD,List.getElem?_map,hx0];rfl
 have hk1:x1.1.k=lstK l:=by
  unfold lstK
  rw [List.getD_eq_getElem?_getD,show l[l.length-1]?=some x1.1 by rw [show l=L.map Prod.fst from hp.es.symm,List.getElem?_map,List.length_map,hLl,hx1];rfl]
  rfl
 have hP1:BsP 0 w x1.2.a x1.1.k.length x1.2.c (lstK l):=fun W hW=>by rw [←hk1];exact (((hp.e.is x1 (List.mem_of_getElem? hx1)).keep hW).is).k
 have e0:w.cell? ⟨g',off',none⟩=some (.slice x0.2.a x0.1.k.length x0.2.c):=by have:=e0;rw [Nat.zero_mul,Nat.add_zero] at this;exact this
 obtain ⟨q,hq⟩:∃ q,q+1=l.length:=⟨l.length-1,by omega⟩
 rw [show l.length-1=q by omega] at e1
 have hgl:∃ c fz,w.heap[g']?=some (.cells c 64 fz):=by
  obtain ⟨_,_,e3,_,h3⟩:=hp.e.form
  injection e3 with e4 _ _
  obtain ⟨g2,off2,c,fz,e5,h5,_⟩:=h3 (by omega)
  rw [e5] at e4
  have:=Option.some.inj e4
  injection this with h6 _ _
  exact ⟨c,fz,by rw [h6];exact h5⟩
 have hI0:IsB w x0.2.a x0.1.k.length x0.2.c (fstK l):=by rw [←hk0];exact i0.k
 have hcmp:Lib.compareBytes lb (fstK l)<0:=(cb_lt _ _).2 hlt
 have hBl:=hB.lt
 have W1:Below w.heap.size w (w.alloc (.cells #[.int .i64 at_,.int .i64 0,.slice (some ⟨g',off',none⟩) l.length ec,.slice xa 0 xc] 133)):=(Below.refl _ w).alloc (Nat.le_refl _) _
 have kp:=Blk.new w 133 [.int .i64 at_,.int .i64 0,.slice (some ⟨g',off',none⟩) l.length ec,.slice xa 0 xc]
 have hcell:∀ W,Below w.heap.size w W→W.cell? ⟨g',off',none⟩=some (.slice x0.2.a x0.1.k.length x0.2.c)∧W.cell? ⟨g',off'+q * 2,none⟩=some (.slice x1.2.a x1.1.k.length x1.2.c):=fun W hW=>by
  obtain ⟨c,fz,hgl⟩:=hgl
  have hlt:=(Array.getElem?_eq_some_iff.1 hgl).1
  exact ⟨(cell_same (hW.5 g' hlt) _).trans e0,(cell_same (hW.5 g' hlt) _).trans e1⟩
 have HCe:=mkHid hcell
 have HB:=mkHid hB
 have HP1:=mkHid hP1
 have HI0:=mkHid hI0
 have HLa:=mkHid hlast
 clear hP1 i0 i1 hI0 e0 e1 hp hx0 hx1 hk0 hk1 hgl hlast hlt hLn hLl hcell
 show Calls Tryz.prog _ #[_,.agg #[.int .i64 at_,.int .i64 0,.slice (some ⟨g',off',none⟩) l.length ec,.slice xa 0 xc]] w _
 obtain ⟨n,hnl⟩:∃ n,n=l.length:=⟨_,rfl⟩
 rw [←hnl] at W1 kp hq hn hl0 ⊢
 generalize x0.2.a=qa at *
 generalize x0.1.k.length=qn at *
 generalize x0.2.c=qc at *
 generalize x1.2.a=ra at *
 generalize x1.1.k.length=rn at *
 generalize x1.2.c=rc at *
 generalize lstK l=lk at *
 generalize fstK l=fk at *
 clear hnl
 generalize hW:w.alloc (.cells #[.int .i64 at_,.int .i64 0,.slice (some ⟨g',off',none⟩) n ec,.slice xa 0 xc] 133)=Y0 at *
 have hD:Below Y0.heap.size Y0 Y0.drew:=(Below.refl _ Y0).drew
 have HCt:Hid (∀ W,Below Y0.heap.size Y0 W→W.cell? ⟨w.heap.size,0,none⟩=some (.int .i64 at_)∧W.cell? ⟨w.heap.size,2,none⟩=some (.slice (some ⟨g',off',none⟩) n ec)∧W.cell? ⟨Wb,1,none⟩=some (.slice la ln lc)∧W.cell? ⟨g',off',none⟩=some (.slice qa qn qc)):=fun W hW=>⟨(kp.on hW).cell 0,(kp.on hW).cell 2,((HB.out.on W1).on hW).cell 1,(HCe.out W (W1.trans (hW.mono W1.size))).1⟩
 have HKp:=mkHid kp
 have HW1:=mkHid W1
 have d1:=kp.cell 1
 simp only [gZ0,gZ1] at d1
 have HNy:=needYes13 4
 have HCm:Calls Tryz.prog 111 #[.slice la ln lc,.slice qa qn qc] Y0.drew fun e w'=>e=.returned (.int .i64 (Lib.compareBytes lb fk))∧w'=Y0.drew:=codCompare la qa ln qn lc qc lb fk Y0.drew (HLa.out _ (KeepU.of_below (W1.trans (hD.mono W1.size)))) ((HI0.out.below W1 rfl).below hD rfl)
 generalize Lib.compareBytes lb fk=z at *
 have hz:decide (z<0)=true:=decide_eq_true hcmp
 clear kp W1
 go_enter Tryz.func115,Tryz.ntmps115
 go_upto_region 1 with fail
 (try rw [hW])
 clear hW
 go_upto_region 2 with fail
 refine lk0 (fun W=>W.cell? ⟨w.heap.size,0,none⟩=some (.int .i64 at_)∧W.cell? ⟨w.heap.size,2,none⟩=some (.slice (some ⟨g',off',none⟩) n ec)∧W.cell? ⟨Wb,1,none⟩=some (.slice la ln lc)∧W.cell? ⟨g',off',none⟩=some (.slice qa qn qc)) 11 (HCt.out _ hD) (fun hHeld=>?_)
 refine lkC [1,2,3,9,10] 7 0 (.pointer (some ⟨Wb,0,none⟩)) rfl (Or.inl ⟨by rfl,?_⟩) hHeld ?_
 ·intro w hSw;go_simp
 (try simp only [Act.put,sIx,sZ0,sZ1])
 refine lkC [2,3,9,10] 8 1 (.pointer (some ⟨Wb,0,none⟩)) rfl (Or.inl ⟨by rfl,?_⟩) hHeld ?_
 ·intro w hSw;go_simp
 (try simp only [Act.put,sIx,sZ0,sZ1])
 refine lkC [3,9,10] 9 2 (.pointer (some ⟨Wb,1,none⟩)) rfl (Or.inl ⟨by rfl,?_⟩) hHeld ?_
 ·intro w hSw;go_simp
 (try simp only [Act.put,sIx,sZ0,sZ1])
 refine lkC [9,10] 10 3 (.slice la ln lc) rfl (Or.inl ⟨by rfl,?_⟩) hHeld ?_
 ·intro w hSw;obtain ⟨s0,s1,s2,s3⟩:=hSw;go_simp
 (try simp only [Act.put,sIx,sZ0,sZ1])
 refine lkC [5,6,7,8,9,10] 11 4 (.pointer (some ⟨w.heap.size,2,none⟩)) rfl (Or.inl ⟨by rfl,?_⟩) hHeld ?_
 ·intro w hSw;go_simp
 (try simp only [Act.put,sIx,sZ0,sZ1])
 refine lkC [6,7,8,9,10] 12 5 (.slice (some ⟨g',off',none⟩) n ec) rfl (Or.inl ⟨by rfl,?_⟩) hHeld ?_
 ·intro w hSw;obtain ⟨s0,s1,s2,s3⟩:=hSw;go_simp
 (try simp only [Act.put,sIx,sZ0,sZ1])
 refine lkC [7,8,9,10] 13 6 (.pointer (some ⟨g',off',none⟩)) rfl (Or.inl ⟨by rfl,?_⟩) hHeld ?_
 ·intro w hSw;go_simp
 (try simp only [Act.put,sIx,sZ0,sZ1])
 refine lkC [8,9,10] 14 7 (.pointer (some ⟨g',off',none⟩)) rfl (Or.inl ⟨by rfl,?_⟩) hHeld ?_
 ·intro w hSw;go_simp
 (try simp only [Act.put,sIx,sZ0,sZ1])
 refine lkC [9,10] 15 8 (.slice qa qn qc) rfl (Or.inl ⟨by rfl,?_⟩) hHeld ?_
 ·intro w hSw;obtain ⟨s0,s1,s2,s3⟩:=hSw;go_simp
 (try simp only [Act.put,sIx,sZ0,sZ1])
 refine lk1 9 rfl (fun K hK=>?_)
 go_simp
 refine HCm.mono ?_
 rintro r1 y1 ⟨rfl,rfl⟩
 go_simp
 refine hK.out _ _ (HCt.out _ hD) (fun hHeld=>?_)
 (try simp only [Act.put,sIx,sZ0,sZ1])
 clear hK K HCm
 refine lkC [] 17 10 (.bool true) rfl (Or.inl ⟨by rfl,?_⟩) hHeld ?_
 ·intro w hSw;go_simp
 (try simp only [Act.put,sIx,sZ0,sZ1])
 refine lkZ rfl (fun K hK=>?_)
 go_simp
 refine (HNy _).mono ?_
 rintro r2 y2 ⟨rfl,rfl⟩
 go_simp
 refine hK.out _ _ ?_
 (try simp only [Exit.then])
 (try simp only [Act.put,sIx,sZ0,sZ1])
 clear hK K hHeld HNy
 obtain ⟨_,s1,_,_⟩:=HCt.out _ hD
 have hB3:=(HB.out.on HW1.out).on hD
 have kd:=(HCe.out _ (HW1.out.trans (hD.mono HW1.out.size))).2
 have kc:=hB3.cell 1
 have kf:=hB3.frozen 1
 simp only [gZ0,gZ1] at kc
 have hwq:IntKind.i64.wrap ((n:Int)-1)=(q:Int):=by rw [wrapi64_in _ (by omega) (by omega)];omega
 have hq0:(0:Int)≤(q:Int):=by omega
 have hqn:(q:Int)<(n:Int):=by omega
 have hqn2:q<n:=by omega
 have hb01:=HW1.out.trans (hD.mono HW1.out.size)
 have HF:=mkHid (And.intro hB3 hb01)
 clear HCt HCe hD hB3 hb01
 generalize Y0.drew=Y1 at *
 go_wp2_with fail
 go_end0
 have hT:KeepT [144] w (Y1.setCell ⟨Wb,1,none⟩ (.slice ra rn rc)):=(KeepT.of_below HF.out.2).set HF.out.1 (by decide) 1 _
 exact ⟨rfl,⟨ra,rn,rc,HF.out.1.set 1 _,HP1.out.keep (KeepU.zero (KeepO.ofT hT (by decide)))⟩,hT,fun b hb1 hb2=>(HF.out.2.mono hb2).setCell (p:=⟨Wb,1,none⟩) hb1 _⟩
end Go.Proofs.YtpecobmfabmpkaaGreatDoor
namespace Go.Proofs.YtpecobmfabmpkaaGreatDoor
open Go.ChangeShapes Go.WideShapes
theorem weights_all_mem {H:Type}{P:Program}{e:TypeId}{d:DataW H}{n:Nat}(hn:n∈d.weights P e):∀ {l:List (DataW H)},d∈l→n∈DataW.weightsAll P e l
 | [],h=>by cases h
 | x::l,h=>by
  simp only [DataW.weightsAll]
  rcases List.mem_cons.1 h with rfl|h
  ·exact List.mem_append_left _ hn
  ·exact List.mem_append_right _ (weights_all_mem hn h)
theorem slice_of14 {H:Type}{enc:TypeId × Value→H}{W:World}{fuel:Nat}{t e:TypeId}{v:Value}{x:DataW H × List MemPlace}(hu:Tryz.prog.underlying t=some (.slice e))(h:DataW.trod enc Tryz.prog W 0 (fun _=>true) true fuel t [v]=some x):∃ a len cap,v=.slice a len cap:=by
 rcases Deep.open_slice hu h with ⟨hcs,_⟩|⟨ad,l,c,m,n,D,Pl,hcs,_⟩
 ·simp only [List.cons.injEq,and_true] at hcs;exact ⟨_,_,_,hcs⟩
 ·simp only [List.cons.injEq,and_true] at hcs;exact ⟨_,_,_,hcs⟩
theorem open_bytes {H:Type}{enc:TypeId × Value→H}{W:World}{fuel:Nat}{a:Option Addr}{len cap:Nat}{x:DataW H × List MemPlace}(h:DataW.trod enc Tryz.prog W 0 (fun _=>true) true fuel 33 [.slice a len cap]=some x):
  ∃ b,IsB W a len cap b∧∀ N,(∀ n∈x.1.weights Tryz.prog 33,n≤N)→len≤N:=by
 rcases open_ints Tryz.underlying33 Tryz.underlying5 (by kernel_rfl) h with ⟨hcs,_⟩|⟨y,l,c,zs,hcs,_,hl,hm,hz,hx,hcell,hwz⟩
 ·simp only [List.cons.injEq,and_true,Value.slice.injEq] at hcs
  obtain ⟨rfl,rfl,rfl⟩:=hcs
  exact ⟨[],isB_none W,fun _ _=>Nat.zero_le _⟩
 ·simp only [List.cons.injEq,and_true,Value.slice.injEq] at hcs
  obtain ⟨rfl,rfl,rfl⟩:=hcs
  have hz0:zs.length=cap:=by simpa using hz
  have hrow:IsRow .u8 W (some y) len cap zs:=.inr ⟨_,rfl,hl,hm,hz0,hcell,hwz⟩
  obtain ⟨b,hb⟩:=hrow.bytes
  refine ⟨b,hb,fun N hN=>?_⟩
  have hb1:Tryz.prog.bytesOf 5=1:=by kernel_rfl
  rw [hx] at hN
  simp only [DataW.weights,Tryz.underlying33,hb1] at hN
  have:=hN _ (List.mem_cons_self ..)
  simp only [lits,List.length_map,List.length_take] at this
  omega
end Go.Proofs.YtpecobmfabmpkaaGreatDoor
namespace Go.Proofs.YtpecobmfabmpkaaGreatDoor
open Go.ChangeShapes Go.WideShapes
open Go.RowKit (Below)
structure RowC {α:Type}(k:Nat)(c:α→List Value)(w:World)(a:Option Addr)(n:Nat)(l:List α):Prop where
 len:l.length=n
 cells:0<n→∃ b off,a=some ⟨b,off,none⟩∧b<w.heap.size∧∀ (i:Nat) (x:α),l[i]?=some x→∀ (j:Nat) (v:Value),(c x)[j]?=some v→w.cell? ⟨b,off+i * k+j,none⟩=some v
theorem RowC.nil {α:Type}(k:Nat)(c:α→List Value)(w:World):RowC k c w none 0 ([]:List α):=⟨rfl,fun h=>absurd h (Nat.lt_irrefl 0)⟩
theorem open_row {α:Type}(x0:α)(k:Nat)(c:α→List Value)(P:α→Prop)(T E:TypeId)(hu:Tryz.prog.underlying T=some (.slice E))(hk:Tryz.prog.cellsOf E=k)(hk1:0<k)(hcl:∀ x,(c x).length=k)
  {H:Type} {enc:TypeId × Value→H} {W:World}
  (hop:∀ (n:Nat) (cs:List Value) (x:DataW H × List MemPlace),DataW.trod enc Tryz.prog W 0 (fun _=>true) true n E cs=some x→(∀ m∈x.1.weights Tryz.prog E,m≤140737488351232)→∃ q:α,cs=c q∧P q)
  {fuel:Nat} {a:Option Addr} {len cap:Nat} {x:DataW H × List MemPlace} (h:DataW.trod enc Tryz.prog W 0 (fun _=>true) true fuel T [.slice a len cap]=some x) (hN:∀ n∈x.1.weights Tryz.prog T,n≤140737488351232):
  ∃ l,RowC k c W a len l∧(∀ y∈l,P y)∧len * Tryz.prog.bytesOf E≤140737488351232∧len≤cap∧(a=none→len=0∧cap=0):=by
 rcases Deep.open_slice hu h with ⟨hcs,_⟩|⟨ad,l,c',m,n,D,Pl,hcs,_,hl,hm,hmm,hx,hel⟩
 ·simp only [List.cons.injEq,and_true,Value.slice.injEq] at hcs
  obtain ⟨rfl,rfl,rfl⟩:=hcs
  exact ⟨[],RowC.nil k c W,fun x hx=>(by cases hx),by omega,Nat.zero_le _,fun _=>⟨rfl,rfl⟩⟩
 ·simp only [List.cons.injEq,and_true,Value.slice.injEq] at hcs
  obtain ⟨rfl,rfl,rfl⟩:=hcs
  have hmc:m=cap:=by simpa using hmm
  subst hmc
  rw [hk] at hel
  have each:∀ i,i<len→∃ q:α,(∀ j,j<k→W.cell? (ad.add (i * k+j))=(c q)[j]?)∧P q:=by
   intro i hi
   obtain ⟨cs',h1,h2⟩:=hel i (by omega)
   obtain ⟨_,_,hcell⟩:=World.cells?_some h1
   have hbi:∀ n∈(D i).weights Tryz.prog E,n≤140737488351232:=fun n hn=>hN n (by
    rw [hx]
    simp only [DataW.weights,hu]
    exact List.mem_cons_of_mem _ (List.mem_append_left _ (weights_all_mem hn (List.mem_map.2 ⟨i,List.mem_range.2 hi,rfl⟩))))
   obtain ⟨o,rfl,hok⟩:=hop _ _ _ h2 hbi
   refine ⟨o,fun j hj=>?_,hok⟩
   have e:=hcell j (by omega)
   rw [Deep.add_add] at e
   exact e
  haveI:Inhabited α:=⟨x0⟩
  obtain ⟨q,hq⟩:=Deep.choose_lt each
  refine ⟨(List.range len).map q,⟨by simp,fun hp=>?_⟩,fun y hy=>?_,?_,hl,fun e=>by cases e⟩
  ·obtain ⟨b,off,spot⟩:=ad
   have hv0:∃ v,(c (q 0))[0]?=some v:=⟨_,List.getElem?_eq_getElem (by rw [hcl];exact hk1)⟩
   obtain ⟨v0,hv0⟩:=hv0
   have h00:=(hq 0 hp).1 0 hk1
   rw [hv0] at h00
   have hspot:spot=none:=by simpa [Addr.add] using World.cell?_spot h00
   subst hspot
   refine ⟨b,off,rfl,(by have:=cell_lt h00;simpa [Addr.add] using this),fun i x hx j v hv=>?_⟩
   obtain ⟨hi,rfl⟩:i<len∧q i=x:=by
    rw [List.getElem?_map] at hx
    rcases Nat.lt_or_ge i len with hi|hi
    ·rw [List.getElem?_range hi] at hx;exact ⟨hi,Option.some.inj hx⟩
    ·rw [List.getElem?_eq_none (by rw [List.length_range];exact hi)] at hx;cases hx
   have hj:j<k:=by have:=(List.getElem?_eq_some_iff.1 hv).1;rw [hcl] at this;exact this
   have e:=(hq i hi).1 j hj
   rw [Addr.add_lit] at e
   rw [Nat.add_assoc,e];exact hv
  ·obtain ⟨i,hi,rfl⟩:=List.mem_map.1 hy
   exact (hq i (List.mem_range.1 hi)).2
  ·rw [hx] at hN
   simp only [DataW.weights,hu] at hN
   have:=hN _ (List.mem_cons_self ..)
   simp only [List.length_map,List.length_range] at this
   have h5:len * Tryz.prog.bytesOf E≤(len+(m-len)) * Tryz.prog.bytesOf E:=Nat.mul_le_mul (by omega) (Nat.le_refl _)
   omega
end Go.Proofs.YtpecobmfabmpkaaGreatDoor
namespace Go.Proofs.YtpecobmfabmpkaaGreatDoor
open Go.RowKit
structure RT (α:Type) where
 S:TypeId
 E:TypeId
 k:Nat
 by_:Nat
 z:Value
 c:α→List Value
structure RtOK {α:Type}(R:RT α):Prop where
 hu:Tryz.prog.underlying R.S=some (.slice R.E)
 hi:(Tryz.prog.info? R.E).map (fun i=>(i.zero,i.size,i.bytes))=some (some R.z,R.k,R.by_)
 hz:R.z.cells.toList.length=R.k
 ho:∀ u∈R.z.cells.toList,u.oneCell'=true
 k1:0<R.k
 b1:0<R.by_
 len:∀ x,(R.c x).length=R.k
 one:∀ x,∀ u∈R.c x,u.oneCell'=true
variable {α:Type} {R:RT α}
def cellsC (R:RT α):List α→List Value
 | []=>[]
 | x::l=>R.c x++cellsC R l
theorem cellsC_length (ok:RtOK R)(l:List α):(cellsC R l).length=l.length * R.k:=by
 induction l with
 | nil=>simp [cellsC]
 | cons x l ih=>rw [cellsC,List.length_append,ih,ok.len,List.length_cons,Nat.succ_mul];omega
theorem cellsC_append (l m:List α):cellsC R (l++m)=cellsC R l++cellsC R m:=by
 induction l with
 | nil=>rfl
 | cons x l ih=>rw [List.cons_append,cellsC,cellsC,ih,List.append_assoc]
theorem cellsC_take (ok:RtOK R)(l:List α)(k:Nat):cellsC R (l.take k)=(cellsC R l).take (k * R.k):=by
 induction k generalizing l with
 | zero=>simp [cellsC]
 | succ k ih =>
  cases l with
  | nil=>simp [cellsC]
  | cons x l =>
   have h1:(k+1) * R.k=k * R.k+R.k:=Nat.succ_mul k R.k
   rw [List.take_succ_cons,cellsC,cellsC,ih,List.take_append,ok.len,List.take_of_length_le (l:=R.c x) (by rw [ok.len];omega),show (k+1) * R.k-R.k=k * R.k by omega]
theorem cellsC_drop (ok:RtOK R)(l:List α)(k:Nat):cellsC R (l.drop k)=(cellsC R l).drop (k * R.k):=by
 induction k generalizing l with
 | zero=>simp
 | succ k ih =>
  cases l with
  | nil=>simp [cellsC]
  | cons x l =>
   have h1:(k+1) * R.k=k * R.k+R.k:=Nat.succ_mul k R.k
   rw [List.drop_succ_cons,cellsC,ih,List.drop_append,ok.len,List.drop_of_length_le (l:=R.c x) (by rw [ok.len];omega),List.nil_append,show (k+1) * R.k-R.k=k * R.k by omega]
theorem cellsC_at (ok:RtOK R)(l:List α)(k j:Nat)(hk:k<l.length)(hj:j<R.k):(cellsC R l)[k * R.k+j]?=(R.c (l[k]))[j]?:=by
 have e:(cellsC R l)[k * R.k+j]?=((cellsC R l).drop (k * R.k))[j]?:=by rw [List.getElem?_drop]
 rw [e,←cellsC_drop ok,List.drop_eq_getElem_cons hk,cellsC,List.getElem?_append_left (by rw [ok.len];exact hj)]
theorem cellsC_one (ok:RtOK R)(l:List α):∀ u∈cellsC R l,u.oneCell'=true:=by
 induction l with
 | nil=>intro u hu;cases hu
 | cons x l ih =>
  intro u hu
  rw [cellsC] at hu
  rcases List.mem_append.1 hu with hu|hu
  ·exact ok.one x u hu
  ·exact ih u hu
def OwnRw (R:RT α)(w:World)(base:Nat)(v:Value)(l:List α):Prop:=w.ownsRow base R.E R.k v l.length (cellsC R l)
theorem OwnRw.nil (R:RT α)(w:World)(base:Nat):OwnRw R w base (.slice none 0 0) []:=World.ownsRow_nil _ _ _ _
theorem OwnRw.keep {w w':World}{us:List TypeId}{base:Nat}{v:Value}{l:List α}(h:OwnRw R w base v l)(hk:KeepO us w w')(he:R.E∈us):OwnRw R w' base v l:=own_keepO hk h he
theorem OwnRw.on {w w':World}{base:Nat}{v:Value}{l:List α}(h:OwnRw R w base v l)(hb:Below w.heap.size w w'):OwnRw R w' base v l:=h.keep (us:=[R.E]) (KeepO.of_below hb) (List.mem_singleton.2 rfl)
theorem OwnRw.base {w:World}{base base':Nat}{v:Value}{l:List α}(h:OwnRw R w base v l)(hb:base'≤base):OwnRw R w base' v l:=own_base h hb
theorem OwnRw.form (ok:RtOK R){w:World}{base:Nat}{v:Value}{l:List α}(h:OwnRw R w base v l):∃ a cap,v=.slice a l.length cap∧l.length≤cap∧(a=none∨∃ g,a=some ⟨g,0,none⟩) ∧
  (0<l.length→∃ g,a=some ⟨g,0,none⟩∧base≤g∧g<w.heap.size∧∀ k (hk:k<l.length),∀ j,j<R.k→w.cell? ⟨g,k * R.k+j,none⟩=(R.c (l[k]))[j]?):=by
 obtain ⟨h1,h2⟩:=h
 rcases h2 with ⟨rfl,h0⟩|⟨g,cap,cur,rfl,hb,hg,hle,hmax,hsz,htk⟩
 ·have:l=[]:=List.eq_nil_of_length_eq_zero h0
  subst this
  exact ⟨none,0,rfl,Nat.le_refl _,.inl rfl,fun h=>absurd h (Nat.lt_irrefl 0)⟩
 ·refine ⟨_,cap,rfl,hle,.inr ⟨g,rfl⟩,fun hp=>⟨g,rfl,hb,(Array.getElem?_eq_some_iff.1 hg).1,fun k hk j hj=>?_⟩⟩
  have hown:w.ownsRow base R.E R.k (.slice (some ⟨g,0,none⟩) l.length cap) l.length (cellsC R l):=⟨h1,.inr ⟨g,cap,cur,rfl,hb,hg,hle,hmax,hsz,htk⟩⟩
  have hlt:k * R.k+j<l.length * R.k:=by
   have:(k+1) * R.k≤l.length * R.k:=Nat.mul_le_mul_right _ hk
   rw [Nat.succ_mul] at this;omega
  rw [World.ownsRow.cellAt hown (k * R.k+j) hlt,cellsC_at ok l k j hk hj]
theorem OwnRw.row (ok:RtOK R){w:World}{base:Nat}{a:Option Addr}{n cap:Nat}{l:List α}(h:OwnRw R w base (.slice a n cap) l):RowC R.k R.c w a n l:=by
 obtain ⟨a',c',e,_,_,hc⟩:=h.form ok
 injection e with e1 e2 e3
 subst e1 e2 e3
 refine ⟨rfl,fun hp=>?_⟩
 obtain ⟨g,e4,_,hl,h3⟩:=hc hp
 refine ⟨g,0,e4,hl,fun k x hx j v hv=>?_⟩
 have hj:j<R.k:=by have:=(List.getElem?_eq_some_iff.1 hv).1;rw [ok.len] at this;exact this
 obtain ⟨hk,rfl⟩:=List.getElem?_eq_some_iff.1 hx
 rw [Nat.zero_add,h3 k hk j hj]
 exact hv
theorem OwnRw.lt {w:World}{base:Nat}{v:Value}{l:List α}(h:OwnRw R w base v l){g:Nat}(hg:v.ownBlock=some g):base≤g∧g<w.heap.size:=World.ownsRow.lt h g hg
theorem KeepT.grownC {w w':World}{base:Nat}{v:Value}{l:List α}(ho:OwnRw R w base v l)(hg:w.grownBy w' v.ownBlock):KeepT [R.E] w w' :=
 ⟨hg.size,fun k o hk hno=>by
  refine (hg.block k (Array.getElem?_eq_some_iff.1 hk).1 (fun eb=>?_)).trans hk
  rcases ho.2 with ⟨rfl,_⟩|⟨g,cap,cur,rfl,_,hgb,_⟩
  ·simp [Value.ownBlock] at eb
  ·have hkg:k=g:=by simpa [Value.ownBlock] using eb
   subst hkg
   have:o=.cells cur R.E (0,0):=Option.some.inj (hk.symm.trans hgb)
   exact hno _ _ _ this (List.mem_singleton.2 rfl)⟩
structure SrcC (R:RT α)(w:World)(sa:Option Addr)(m c:Nat)(l:List α):Prop where
 len:l.length=m
 nil:sa=none→m=0∧c=0
 cells:∀ ad,sa=some ad→∀ j u,(cellsC R l)[j]?=some u→w.cell? (ad.add j)=some u
def cutC (R:RT α)(a:Option Addr)(cap k:Nat):Option Addr:=if cap=k then a else a.map (·.add (k * R.k))
theorem SrcC.below {w w':World}{sa:Option Addr}{m c:Nat}{l:List α}(h:SrcC R w sa m c l)(hb:Below w.heap.size w w'):SrcC R w' sa m c l :=
 ⟨h.len,h.nil,fun ad e j u hu=>by have:=h.cells ad e j u hu;exact (hb.cell (cell_lt this)).trans this⟩
theorem RowC.src (ok:RtOK R){w:World}{a:Option Addr}{n cap:Nat}{l:List α}(h:RowC R.k R.c w a n l)(ha:a=none→n=0∧cap=0):SrcC R w a n cap l :=
 ⟨h.len,ha,fun ad e j u hu=>by
  have hj:=(List.getElem?_eq_some_iff.1 hu).1
  rw [cellsC_length ok] at hj
  have hp:0<n:=by rcases Nat.eq_zero_or_pos n with h0|h0;(rw [h.len,h0,Nat.zero_mul] at hj;omega);exact h0
  obtain ⟨g,off,e2,hl,hc⟩:=h.cells hp
  rw [e] at e2
  obtain rfl:=Option.some.inj e2
  have hk:j/R.k<l.length:=(Nat.div_lt_iff_lt_mul ok.k1).2 hj
  have hjj:j=j/R.k * R.k+j%R.k:=by have:=Nat.div_add_mod j R.k;rw [Nat.mul_comm] at this;omega
  rw [hjj,cellsC_at ok l (j/R.k) (j%R.k) hk (Nat.mod_lt _ ok.k1)] at hu
  have:=hc (j/R.k) _ (List.getElem?_eq_getElem hk) (j%R.k) u hu
  rw [Addr.add_lit]
  rw [show off+j=off+j/R.k * R.k+j%R.k by omega]
  exact this⟩
theorem SrcC.tail (ok:RtOK R){w:World}{a:Option Addr}{n cap:Nat}{l:List α}(h:SrcC R w a n cap l)(k:Nat)(hk:k≤n)(hcap:n≤cap):SrcC R w (cutC R a cap k) (n-k) (cap-k) (l.drop k):=
 ⟨by rw [List.length_drop,h.len],(fun e=>by
  unfold cutC at e
  split at e
  ·rename_i hc;obtain ⟨h1,h2⟩:=h.nil e;omega
  ·cases a with
   | none=>obtain ⟨h1,h2⟩:=h.nil rfl;omega
   | some ad=>cases e),fun ad e j u hu=>by
  rw [cellsC_drop ok,List.getElem?_drop] at hu
  unfold cutC at e
  split at e
  ·rename_i hc
   have:=(List.getElem?_eq_some_iff.1 hu).1
   rw [cellsC_length ok,h.len] at this
   have h1:n * R.k≤k * R.k:=Nat.mul_le_mul_right _ (by omega)
   omega
  ·cases a with
   | none=>cases e
   | some ad0 =>
    have e2:ad0.add (k * R.k)=ad:=Option.some.inj e
    rw [←e2]
    obtain ⟨g,off,sp⟩:=ad0
    have:=h.cells ⟨g,off,sp⟩ rfl (k * R.k+j) u hu
    rw [Deep.add_add]
    exact this⟩
theorem OwnRw.src (ok:RtOK R){w:World}{base:Nat}{a:Option Addr}{n cap:Nat}{l:List α}(h:OwnRw R w base (.slice a n cap) l):SrcC R w a n cap l:=by
 refine RowC.src ok (h.row ok) (fun e=>?_)
 rcases h.2 with ⟨h1,h2⟩|⟨g,cap',cur,h3,_⟩
 ·injection h1 with e1 e2 e3
  exact ⟨e2,e3⟩
 ·injection h3 with e1 _ _
  rw [e] at e1;cases e1
theorem Blk.srcC {w:World}{B:Nat}{x:α}(h:Blk w B R.E (R.c x)):SrcC R w (some ⟨B,0,none⟩) 1 1 [x] :=
 ⟨rfl,(fun e=>by cases e),fun ad e j u hu=>by
  obtain rfl:=Option.some.inj e
  rw [cellsC,cellsC,List.append_nil] at hu
  rw [Addr.add_lit,h.cell,Nat.zero_add]
  exact hu⟩
theorem bytes_max {n b:Nat}(hb:0<b)(h:n * b≤140737488355328):n≤maxLen:=by
 have:n * 1≤n * b:=Nat.mul_le_mul_left _ hb
 unfold maxLen;omega
theorem list_appC (ok:RtOK R){ops:Array Oper}{rest:List Oper}{o:Oper}{a:Act}{Q:Exit→Act→World→Prop}(w:World)(hgd:o.guard=none)(s x:Operand)
  (ho:o.op=.call { callee:=.builtin .append,args:=#[s,x],argTypes:=#[R.S,R.S] }) (base:Nat)
  (v:Value) (l:List α) (hs:a.eval s=v) (hown:OwnRw R w base v l) (sa:Option Addr) (m c:Nat) (news:List α) (hx:a.eval x=.slice sa m c) (hsrc:SrcC R w sa m c news)
  (hbytes:(l.length+m) * R.by_≤140737488355328) (hbase:base≤w.heap.size)
  (h:∀ v' w',OwnRw R w' base v' (l++news)→w.grownBy w' v.ownBlock→wpList Tryz.prog ops Q rest (a.put o.dst v') w'):
  wpList Tryz.prog ops Q (o::rest) a w:=by
 obtain ⟨i0,hi,hz0,hz1,hz2⟩:=info_parts ok.hi
 cases sa with
 | none =>
  obtain ⟨hm,hc⟩:=hsrc.nil rfl
  have hn:news=[]:=List.eq_nil_of_length_eq_zero (by rw [hsrc.len,hm])
  subst hn hm hc
  refine wpList_append_own_none hgd s x R.S ho base R.E i0 R.k ok.hu hi v l.length (cellsC R l) hs hown hx ?_
  exact h v w (by rw [List.append_nil];exact hown) (World.grownBy.refl _ _)
 | some ad =>
  refine wpList_append_own w hgd s x R.S ho base R.E i0 R.z R.k R.by_ ok.hu hi hz0 hz1 hz2 (by have:=ok.hz;simpa using this) ok.k1 v l.length (cellsC R l) hs hown ad m c (cellsC R news) hx (by rw [cellsC_length ok,hsrc.len]) (hsrc.cells ad rfl) (cellsC_one ok news) (bytes_max ok.b1 hbytes) hbytes hbase ?_
  intro v' w' h1 h2 _
  exact h v' w' (by unfold OwnRw;rw [cellsC_append,List.length_append,hsrc.len];exact h1) h2
theorem step_appRw (ok:RtOK R){ops:Array Oper}{o:Oper}{a:Act}{K:Act→World→Prop}{Q:Exit→Act→World→Prop}{E:Prop}(w:World)(hgd:o.guard=none)(s x:Operand)
  (ho:o.op=.call { callee:=.builtin .append,args:=#[s,x],argTypes:=#[R.S,R.S] }) (base:Nat)
  (v:Value) (l:List α) (hs:a.eval s=v) (hown:OwnRw R w base v l) (sa:Option Addr) (m c:Nat) (news:List α) (hx:a.eval x=.slice sa m c) (hsrc:SrcC R w sa m c news)
  (hbytes:(l.length+m) * R.by_≤140737488355328) (hbase:base≤w.heap.size) (d:Tmp) (hd:o.dst=some d)
  (h:∀ v' w',OwnRw R w' base v' (l++news)→w.grownBy w' v.ownBlock→K (a.put (some d) v') w'):
  if Region.wanted o (yielded ops a.tmps)=true then Oper.wp Tryz.prog o a w K Q else E:=by
 have hw:Region.wanted o (yielded ops a.tmps)=true:=by simp [Region.wanted,hgd]
 rw [if_pos hw]
 obtain ⟨i0,hi,hz0,hz1,hz2⟩:=info_parts ok.hi
 cases sa with
 | none =>
  obtain ⟨hm,hc⟩:=hsrc.nil rfl
  have hn:news=[]:=List.eq_nil_of_length_eq_zero (by rw [hsrc.len,hm])
  subst hn hm hc
  have hrun:=run_append_owned_none (P:=Tryz.prog) (w:=w) base R.S o.type R.E i0 R.k ok.hu hi v l.length (cellsC R l) hown
  rw [←hd] at h
  unfold Oper.wp
  simp [execOp,ho,resolve,invoke,builtin,hs,hx,hrun,Result.andThen]
  exact h v w (by rw [List.append_nil];exact hown) (World.grownBy.refl _ _)
 | some ad =>
  refine wp_append_own w s x R.S ho base R.E i0 R.z R.k R.by_ ok.hu hi hz0 hz1 hz2 (by have:=ok.hz;simpa using this) ok.k1 v l.length (cellsC R l) hs hown ad m c (cellsC R news) hx (by rw [cellsC_length ok,hsrc.len]) (hsrc.cells ad rfl) (cellsC_one ok news) (bytes_max ok.b1 hbytes) hbytes hbase ?_
  intro v' w' h1 h2 _
  rw [hd]
  exact h v' w' (by unfold OwnRw;rw [cellsC_append,List.length_append,hsrc.len];exact h1) h2
theorem slHC (ok:RtOK R)(a:Option Addr)(n cap k:Nat)(hk:k≤cap)(w:World):(Instr.slice R.S (.slice a n cap) none (some (.int .i64 (k:Int))) none).run Tryz.prog w=.ok (.slice a k cap) w:=by
 have he:Tryz.prog.elem R.S=R.E:=by simp [Program.elem,ok.hu]
 have hz:(sizeOf R.E).run Tryz.prog w=.ok R.k w:=by
  obtain ⟨i0,hi,hz0,hz1,hz2⟩:=info_parts ok.hi
  simp [sizeOf,typeInfo,hi,hz1]
 rw [run_slice_h w R.S _ n cap (by rw [he];exact ok.hu) .i64 (k:Int) (by omega) (by omega),he,hz]
 simp only [Result.andThen,sliced,Int.toNat_natCast,Nat.zero_mul,Nat.sub_zero]
 cases a with
 | none=>split<;>rfl
 | some ad =>
  have h0:ad.add 0=ad:=by obtain ⟨b,o,sp⟩:=ad;cases sp<;>simp [Addr.add]
  split<;>simp [h0]
theorem slLC (ok:RtOK R)(a:Option Addr)(n cap k:Nat)(hk:k≤n)(w:World):(Instr.slice R.S (.slice a n cap) (some (.int .i64 (k:Int))) none none).run Tryz.prog w=.ok (.slice (cutC R a cap k) (n-k) (cap-k)) w:=by
 have he:Tryz.prog.elem R.S=R.E:=by simp [Program.elem,ok.hu]
 have hz:(sizeOf R.E).run Tryz.prog w=.ok R.k w:=by
  obtain ⟨i0,hi,hz0,hz1,hz2⟩:=info_parts ok.hi
  simp [sizeOf,typeInfo,hi,hz1]
 rw [run_slice_l w R.S _ n cap (by rw [he];exact ok.hu) .i64 (k:Int) (by omega) (by omega),he,hz]
 simp only [Result.andThen,sliced,Int.toNat_natCast,cutC]
end Go.Proofs.YtpecobmfabmpkaaGreatDoor
