/- PvL OpenB RowC OwnC InsA PtZ PuA PuB InsB InsE -/
import Derived.Test.YtpecobmfabmpkaaGreatDoorM13
import Derived.Deep.SlicePairs
import Derived.OpenShut
import Derived.Laws.CopyRow
import Derived.Lib.AppendZerosOnto
import Derived.Lib.Overlaps
set_option maxRecDepth 20000
set_option maxHeartbeats 4000000
namespace Go.Proofs.YtpecobmfabmpkaaGreatDoor
section
open Go.RowKit
theorem codCheckL (w:World)(Wb:Nat)(at_:Int)(gv ve vk:Value)(l:List Et)(L:List Eq3)(la:Option Addr)(ln lc:Nat)(lb:List UInt8)(hB:Blk w Wb 144 [gv,.slice la ln lc])(hp:PgR 0 w ⟨0,l,[]⟩ ve vk L)(hne:l≠[])(hlast:BsP 0 w la ln lc lb)(hlt:Op.bytesLess lb (fstK l)=true)(hn:l.length≤1000):
  Calls Tryz.prog 115 #[.pointer (some ⟨Wb,0,none⟩),.agg #[.int .i64 at_,.int .i64 0,ve,vk]] w fun e w'=>e=.returned (.tuple #[])∧(∃a n c,Blk w' Wb 144 [gv,.slice a n c]∧BsP 0 w' a n c (lstK l))∧KeepT [144] w w'∧(∀b,b≤Wb→b≤w.heap.size→Below b w w'):=by
 obtain⟨ea,ec,xa,xc,rfl,rfl⟩:=hp.forms
 have hLn:=hp.len
 have hl0:0<l.length:=List.length_pos_iff.2 hne
 have hLl:L.length=l.length:=hLn
 obtain⟨x0,hx0⟩:∃x,L[0]?=some x:=⟨_,List.getElem?_eq_getElem (by omega)⟩
 obtain⟨x1,hx1⟩:∃x,L[l.length-1]?=some x:=⟨_,List.getElem?_eq_getElem (by omega)⟩
 obtain⟨_,_,g,off,hg,e0,_,i0⟩:=hp.e.at_ 0 x0 hx0
 obtain⟨_,_,g',off',hg',e1,_,i1⟩:=hp.e.at_ (l.length-1) x1 hx1
 have hgg:g'=g∧off'=off:=by rw[hg] at hg';have:=Option.some.inj hg';injection this with h1 h2 _;exact⟨h1.symm,h2.symm⟩
 obtain⟨rfl,rfl⟩:=hgg
 subst hg
 have hk0:x0.1.k=fstK l:=by
  unfold fstK
  rw[show l=L.map Prod.fst from hp.es.symm,List.getD_eq_getElem?_getD,List.getElem?_map,hx0];rfl
 have hk1:x1.1.k=lstK l:=by
  unfold lstK
  rw[List.getD_eq_getElem?_getD,show l[l.length-1]?=some x1.1 by rw[show l=L.map Prod.fst from hp.es.symm,List.getElem?_map,List.length_map,hLl,hx1];rfl]
  rfl
 have hP1:BsP 0 w x1.2.a x1.1.k.length x1.2.c (lstK l):=fun W hW=>by rw[←hk1];exact(((hp.e.is x1 (List.mem_of_getElem? hx1)).keep hW).is).k
 have e0:w.cell? ⟨g',off',none⟩=some (.slice x0.2.a x0.1.k.length x0.2.c):=by have:=e0;rw[Nat.zero_mul,Nat.add_zero] at this;exact this
 obtain⟨q,hq⟩:∃q,q+1=l.length:=⟨l.length-1,by omega⟩
 rw[show l.length-1=q by omega] at e1
 have hgl:∃c fz,w.heap[g']?=some (.cells c 64 fz):=by
  obtain⟨_,_,e3,_,h3⟩:=hp.e.form
  injection e3 with e4 _ _
  obtain⟨g2,off2,c,fz,e5,h5,_⟩:=h3 (by omega)
  rw[e5] at e4
  have:=Option.some.inj e4
  injection this with h6 _ _
  exact⟨c,fz,by rw[h6];exact h5⟩
 have hI0:IsB w x0.2.a x0.1.k.length x0.2.c (fstK l):=by rw[←hk0];exact i0.k
 have hcmp:Lib.compareBytes lb (fstK l)<0:=(cb_lt _ _).2 hlt
 have hBl:=hB.lt
 have W1:Below w.heap.size w (w.alloc (.cells #[.int .i64 at_,.int .i64 0,.slice (some ⟨g',off',none⟩) l.length ec,.slice xa 0 xc] 133)):=(Below.refl _ w).alloc (Nat.le_refl _) _
 have kp:=Blk.new w 133 [.int .i64 at_,.int .i64 0,.slice (some ⟨g',off',none⟩) l.length ec,.slice xa 0 xc]
 have hcell:∀W,Below w.heap.size w W→W.cell? ⟨g',off',none⟩=some (.slice x0.2.a x0.1.k.length x0.2.c)∧W.cell? ⟨g',off'+q * 2,none⟩=some (.slice x1.2.a x1.1.k.length x1.2.c):=fun W hW=>by
  obtain⟨c,fz,hgl⟩:=hgl
  have hlt:=(Array.getElem?_eq_some_iff.1 hgl).1
  exact⟨(cell_same (hW.5 g' hlt) _).trans e0,(cell_same (hW.5 g' hlt) _).trans e1⟩
 have HCe:=mkHid hcell
 have HB:=mkHid hB
 have HP1:=mkHid hP1
 have HI0:=mkHid hI0
 have HLa:=mkHid hlast
 clear hP1 i0 i1 hI0 e0 e1 hp hx0 hx1 hk0 hk1 hgl hlast hlt hLn hLl hcell
 show Calls Tryz.prog _ #[_,.agg #[.int .i64 at_,.int .i64 0,.slice (some ⟨g',off',none⟩) l.length ec,.slice xa 0 xc]] w _
 obtain⟨n,hnl⟩:∃n,n=l.length:=⟨_,rfl⟩
 rw[←hnl] at W1 kp hq hn hl0 ⊢
 generalize x0.2.a=qa at *
 generalize x0.1.k.length=qn at *
 generalize x0.2.c=qc at *
 generalize x1.2.a=ra at *
 generalize x1.1.k.length=rn at *
 generalize x1.2.c=rc at *
 generalize lstK l=lk at *
 generalize fstK l=fk at *
 clear hnl
 generalize hW:w.alloc (.cells #[.int .i64 at_,.int .i64 0,.slice (some ⟨g',off',none⟩) n ec,.slice xa 0 xc] 133)=Y0 at *
 have hD:Below Y0.heap.size Y0 Y0.drew:=(Below.refl _ Y0).drew
 have HCt:Hid (∀W,Below Y0.heap.size Y0 W→W.cell? ⟨w.heap.size,0,none⟩=some (.int .i64 at_)∧W.cell? ⟨w.heap.size,2,none⟩=some (.slice (some ⟨g',off',none⟩) n ec)∧W.cell? ⟨Wb,1,none⟩=some (.slice la ln lc)∧W.cell? ⟨g',off',none⟩=some (.slice qa qn qc)):=fun W hW=>⟨(kp.on hW).cell 0,(kp.on hW).cell 2,((HB.out.on W1).on hW).cell 1,(HCe.out W (W1.trans (hW.mono W1.size))).1⟩
 have HKp:=mkHid kp
 have HW1:=mkHid W1
 have d1:=kp.cell 1
 simp only[gZ0,gZ1] at d1
 have HNy:=needYes13 4
 have HCm:Calls Tryz.prog 111 #[.slice la ln lc,.slice qa qn qc] Y0.drew fun e w'=>e=.returned (.int .i64 (Lib.compareBytes lb fk))∧w'=Y0.drew:=codCompare la qa ln qn lc qc lb fk Y0.drew (HLa.out _ (KeepU.of_below (W1.trans (hD.mono W1.size)))) ((HI0.out.below W1 rfl).below hD rfl)
 generalize Lib.compareBytes lb fk=z at *
 have hz:decide (z<0)=true:=decide_eq_true hcmp
 clear kp W1
 go_enter Tryz.func115,Tryz.ntmps115
 go_upto_region 1 with fail
 (try rw[hW])
 clear hW
 go_upto_region 2 with fail
 refine lk0 (fun W=>W.cell? ⟨w.heap.size,0,none⟩=some (.int .i64 at_)∧W.cell? ⟨w.heap.size,2,none⟩=some (.slice (some ⟨g',off',none⟩) n ec)∧W.cell? ⟨Wb,1,none⟩=some (.slice la ln lc)∧W.cell? ⟨g',off',none⟩=some (.slice qa qn qc)) 11 (HCt.out _ hD) (fun hHeld=>?_)
 refine lkC [1,2,3,9,10] 7 0 (.pointer (some ⟨Wb,0,none⟩)) rfl (Or.inl ⟨by rfl,?_⟩) hHeld ?_
 ·intro w hSw;go_simp
 (try simp only[Act.put,sIx,sZ0,sZ1])
 refine lkC [2,3,9,10] 8 1 (.pointer (some ⟨Wb,0,none⟩)) rfl (Or.inl ⟨by rfl,?_⟩) hHeld ?_
 ·intro w hSw;go_simp
 (try simp only[Act.put,sIx,sZ0,sZ1])
 refine lkC [3,9,10] 9 2 (.pointer (some ⟨Wb,1,none⟩)) rfl (Or.inl ⟨by rfl,?_⟩) hHeld ?_
 ·intro w hSw;go_simp
 (try simp only[Act.put,sIx,sZ0,sZ1])
 refine lkC [9,10] 10 3 (.slice la ln lc) rfl (Or.inl ⟨by rfl,?_⟩) hHeld ?_
 ·intro w hSw;obtain⟨s0,s1,s2,s3⟩:=hSw;go_simp
 (try simp only[Act.put,sIx,sZ0,sZ1])
 refine lkC [5,6,7,8,9,10] 11 4 (.pointer (some ⟨w.heap.size,2,none⟩)) rfl (Or.inl ⟨by rfl,?_⟩) hHeld ?_
 ·intro w hSw;go_simp
 (try simp only[Act.put,sIx,sZ0,sZ1])
 refine lkC [6,7,8,9,10] 12 5 (.slice (some ⟨g',off',none⟩) n ec) rfl (Or.inl ⟨by rfl,?_⟩) hHeld ?_
 ·intro w hSw;obtain⟨s0,s1,s2,s3⟩:=hSw;go_simp
 (try simp only[Act.put,sIx,sZ0,sZ1])
 refine lkC [7,8,9,10] 13 6 (.pointer (some ⟨g',off',none⟩)) rfl (Or.inl ⟨by rfl,?_⟩) hHeld ?_
 ·intro w hSw;go_simp
 (try simp only[Act.put,sIx,sZ0,sZ1])
 refine lkC [8,9,10] 14 7 (.pointer (some ⟨g',off',none⟩)) rfl (Or.inl ⟨by rfl,?_⟩) hHeld ?_
 ·intro w hSw;go_simp
 (try simp only[Act.put,sIx,sZ0,sZ1])
 refine lkC [9,10] 15 8 (.slice qa qn qc) rfl (Or.inl ⟨by rfl,?_⟩) hHeld ?_
 ·intro w hSw;obtain⟨s0,s1,s2,s3⟩:=hSw;go_simp
 (try simp only[Act.put,sIx,sZ0,sZ1])
 refine lk1 9 rfl (fun K hK=>?_)
 go_simp
 refine HCm.mono ?_
 rintro r1 y1 ⟨rfl,rfl⟩
 go_simp
 refine hK.out _ _ (HCt.out _ hD) (fun hHeld=>?_)
 (try simp only[Act.put,sIx,sZ0,sZ1])
 clear hK K HCm
 refine lkC [] 17 10 (.bool true) rfl (Or.inl ⟨by rfl,?_⟩) hHeld ?_
 ·intro w hSw;go_simp
 (try simp only[Act.put,sIx,sZ0,sZ1])
 refine lkZ rfl (fun K hK=>?_)
 go_simp
 refine(HNy _).mono ?_
 rintro r2 y2 ⟨rfl,rfl⟩
 go_simp
 refine hK.out _ _ ?_
 (try simp only[Exit.then])
 (try simp only[Act.put,sIx,sZ0,sZ1])
 clear hK K hHeld HNy
 obtain⟨_,s1,_,_⟩:=HCt.out _ hD
 have hB3:=(HB.out.on HW1.out).on hD
 have kd:=(HCe.out _ (HW1.out.trans (hD.mono HW1.out.size))).2
 have kc:=hB3.cell 1
 have kf:=hB3.frozen 1
 simp only[gZ0,gZ1] at kc
 have hwq:IntKind.i64.wrap ((n:Int)-1)=(q:Int):=by rw[wrapi64_in _ (by omega) (by omega)];omega
 have hq0:(0:Int)≤(q:Int):=by omega
 have hqn:(q:Int)<(n:Int):=by omega
 have hqn2:q<n:=by omega
 have hb01:=HW1.out.trans (hD.mono HW1.out.size)
 have HF:=mkHid (And.intro hB3 hb01)
 clear HCt HCe hD hB3 hb01
 generalize Y0.drew=Y1 at *
 go_wp2_with fail
 go_end0
 have hT:KeepT [144] w (Y1.setCell ⟨Wb,1,none⟩ (.slice ra rn rc)):=(KeepT.of_below HF.out.2).set HF.out.1 (by decide) 1 _
 exact⟨rfl,⟨ra,rn,rc,HF.out.1.set 1 _,HP1.out.keep (KeepU.zero (KeepO.ofT hT (by decide)))⟩,hT,fun b hb1 hb2=>(HF.out.2.mono hb2).setCell (p:=⟨Wb,1,none⟩) hb1 _⟩
end
section
open Go.ChangeShapes Go.WideShapes
theorem weights_all_mem {H:Type}{P:Program}{e:TypeId}{d:DataW H}{n:Nat}(hn:n∈d.weights P e):∀ {l:List (DataW H)},d∈l→n∈DataW.weightsAll P e l
 | [],h=>by cases h
 | x::l,h=>by
  simp only[DataW.weightsAll]
  rcases List.mem_cons.1 h with rfl|h
  ·exact List.mem_append_left _ hn
  ·exact List.mem_append_right _ (weights_all_mem hn h)
theorem slice_of14 {H:Type}{enc:TypeId × Value→H}{W:World}{fuel:Nat}{t e:TypeId}{v:Value}{x:DataW H × List MemPlace}(hu:Tryz.prog.underlying t=some (.slice e))(h:DataW.trod enc Tryz.prog W 0 (fun _=>true) true fuel t [v]=some x):∃a len cap,v=.slice a len cap:=by
 rcases Deep.open_slice hu h with⟨hcs,_⟩|⟨ad,l,c,m,n,D,Pl,hcs,_⟩
 ·simp only[List.cons.injEq,and_true] at hcs;exact⟨_,_,_,hcs⟩
 ·simp only[List.cons.injEq,and_true] at hcs;exact⟨_,_,_,hcs⟩
theorem open_bytes {H:Type}{enc:TypeId × Value→H}{W:World}{fuel:Nat}{a:Option Addr}{len cap:Nat}{x:DataW H × List MemPlace}(h:DataW.trod enc Tryz.prog W 0 (fun _=>true) true fuel 33 [.slice a len cap]=some x):
  ∃b,IsB W a len cap b∧∀N,(∀n∈x.1.weights Tryz.prog 33,n≤N)→len≤N:=by
 rcases open_ints Tryz.underlying33 Tryz.underlying5 (by kernel_rfl) h with⟨hcs,_⟩|⟨y,l,c,zs,hcs,_,hl,hm,hz,hx,hcell,hwz⟩
 ·simp only[List.cons.injEq,and_true,Value.slice.injEq] at hcs
  obtain⟨rfl,rfl,rfl⟩:=hcs
  exact⟨[],isB_none W,fun _ _=>Nat.zero_le _⟩
 ·simp only[List.cons.injEq,and_true,Value.slice.injEq] at hcs
  obtain⟨rfl,rfl,rfl⟩:=hcs
  have hz0:zs.length=cap:=by simpa using hz
  have hrow:IsRow .u8 W (some y) len cap zs:=.inr ⟨_,rfl,hl,hm,hz0,hcell,hwz⟩
  obtain⟨b,hb⟩:=hrow.bytes
  refine⟨b,hb,fun N hN=>?_⟩
  have hb1:Tryz.prog.bytesOf 5=1:=by kernel_rfl
  rw[hx] at hN
  simp only[DataW.weights,Tryz.underlying33,hb1] at hN
  have:=hN _ (List.mem_cons_self ..)
  simp only[lits,List.length_map,List.length_take] at this
  omega
end
section
open Go.ChangeShapes Go.WideShapes
open Go.RowKit (Below)
structure RowC {α:Type}(k:Nat)(c:α→List Value)(w:World)(a:Option Addr)(n:Nat)(l:List α):Prop where
 len:l.length=n
 cells:0<n→∃b off,a=some ⟨b,off,none⟩∧b<w.heap.size∧∀(i:Nat) (x:α),l[i]?=some x→∀(j:Nat) (v:Value),(c x)[j]?=some v→w.cell? ⟨b,off+i * k+j,none⟩=some v
theorem RowC.nil {α:Type}(k:Nat)(c:α→List Value)(w:World):RowC k c w none 0 ([]:List α):=⟨rfl,fun h=>absurd h (Nat.lt_irrefl 0)⟩
theorem open_row {α:Type}(x0:α)(k:Nat)(c:α→List Value)(P:α→Prop)(T E:TypeId)(hu:Tryz.prog.underlying T=some (.slice E))(hk:Tryz.prog.cellsOf E=k)(hk1:0<k)(hcl:∀x,(c x).length=k)
  {H:Type} {enc:TypeId × Value→H} {W:World}
  (hop:∀(n:Nat) (cs:List Value) (x:DataW H × List MemPlace),DataW.trod enc Tryz.prog W 0 (fun _=>true) true n E cs=some x→(∀m∈x.1.weights Tryz.prog E,m≤140737488351232)→∃q:α,cs=c q∧P q)
  {fuel:Nat} {a:Option Addr} {len cap:Nat} {x:DataW H × List MemPlace} (h:DataW.trod enc Tryz.prog W 0 (fun _=>true) true fuel T [.slice a len cap]=some x) (hN:∀n∈x.1.weights Tryz.prog T,n≤140737488351232):
  ∃l,RowC k c W a len l∧(∀y∈l,P y)∧len * Tryz.prog.bytesOf E≤140737488351232∧len≤cap∧(a=none→len=0∧cap=0):=by
 rcases Deep.open_slice hu h with⟨hcs,_⟩|⟨ad,l,c',m,n,D,Pl,hcs,_,hl,hm,hmm,hx,hel⟩
 ·simp only[List.cons.injEq,and_true,Value.slice.injEq] at hcs
  obtain⟨rfl,rfl,rfl⟩:=hcs
  exact⟨[],RowC.nil k c W,fun x hx=>(by cases hx),by omega,Nat.zero_le _,fun _=>⟨rfl,rfl⟩⟩
 ·simp only[List.cons.injEq,and_true,Value.slice.injEq] at hcs
  obtain⟨rfl,rfl,rfl⟩:=hcs
  have hmc:m=cap:=by simpa using hmm
  subst hmc
  rw[hk] at hel
  have each:∀i,i<len→∃q:α,(∀j,j<k→W.cell? (ad.add (i * k+j))=(c q)[j]?)∧P q:=by
   intro i hi
   obtain⟨cs',h1,h2⟩:=hel i (by omega)
   obtain⟨_,_,hcell⟩:=World.cells?_some h1
   have hbi:∀n∈(D i).weights Tryz.prog E,n≤140737488351232:=fun n hn=>hN n (by
    rw[hx]
    simp only[DataW.weights,hu]
    exact List.mem_cons_of_mem _ (List.mem_append_left _ (weights_all_mem hn (List.mem_map.2 ⟨i,List.mem_range.2 hi,rfl⟩))))
   obtain⟨o,rfl,hok⟩:=hop _ _ _ h2 hbi
   refine⟨o,fun j hj=>?_,hok⟩
   have e:=hcell j (by omega)
   rw[Deep.add_add] at e
   exact e
  haveI:Inhabited α:=⟨x0⟩
  obtain⟨q,hq⟩:=Deep.choose_lt each
  refine⟨(List.range len).map q,⟨by simp,fun hp=>?_⟩,fun y hy=>?_,?_,hl,fun e=>by cases e⟩
  ·obtain⟨b,off,spot⟩:=ad
   have hv0:∃v,(c (q 0))[0]?=some v:=⟨_,List.getElem?_eq_getElem (by rw[hcl];exact hk1)⟩
   obtain⟨v0,hv0⟩:=hv0
   have h00:=(hq 0 hp).1 0 hk1
   rw[hv0] at h00
   have hspot:spot=none:=by simpa [Addr.add] using World.cell?_spot h00
   subst hspot
   refine⟨b,off,rfl,(by have:=cell_lt h00;simpa [Addr.add] using this),fun i x hx j v hv=>?_⟩
   obtain⟨hi,rfl⟩:i<len∧q i=x:=by
    rw[List.getElem?_map] at hx
    rcases Nat.lt_or_ge i len with hi|hi
    ·rw[List.getElem?_range hi] at hx;exact⟨hi,Option.some.inj hx⟩
    ·rw[List.getElem?_eq_none (by rw[List.length_range];exact hi)] at hx;cases hx
   have hj:j<k:=by have:=(List.getElem?_eq_some_iff.1 hv).1;rw[hcl] at this;exact this
   have e:=(hq i hi).1 j hj
   rw[Addr.add_lit] at e
   rw[Nat.add_assoc,e];exact hv
  ·obtain⟨i,hi,rfl⟩:=List.mem_map.1 hy
   exact(hq i (List.mem_range.1 hi)).2
  ·rw[hx] at hN
   simp only[DataW.weights,hu] at hN
   have:=hN _ (List.mem_cons_self ..)
   simp only[List.length_map,List.length_range] at this
   have h5:len * Tryz.prog.bytesOf E≤(len+(m-len)) * Tryz.prog.bytesOf E:=Nat.mul_le_mul (by omega) (Nat.le_refl _)
   omega
end
section
open Go.RowKit
structure RT (α:Type) where
 S:TypeId
 E:TypeId
 k:Nat
 by_:Nat
 z:Value
 c:α→List Value
structure RtOK {α:Type}(R:RT α):Prop where
 hu:Tryz.prog.underlying R.S=some (.slice R.E)
 hi:(Tryz.prog.info? R.E).map (fun i=>(i.zero,i.size,i.bytes))=some (some R.z,R.k,R.by_)
 hz:R.z.cells.toList.length=R.k
 ho:∀u∈R.z.cells.toList,u.oneCell'=true
 k1:0<R.k
 b1:0<R.by_
 len:∀x,(R.c x).length=R.k
 one:∀x,∀u∈R.c x,u.oneCell'=true
variable {α:Type} {R:RT α}
def cellsC (R:RT α):List α→List Value
 | []=>[]
 | x::l=>R.c x++cellsC R l
theorem cellsC_length (ok:RtOK R)(l:List α):(cellsC R l).length=l.length * R.k:=by
 induction l with
 | nil=>simp[cellsC]
 | cons x l ih=>rw[cellsC,List.length_append,ih,ok.len,List.length_cons,Nat.succ_mul];omega
theorem cellsC_append (l m:List α):cellsC R (l++m)=cellsC R l++cellsC R m:=by
 induction l with
 | nil=>rfl
 | cons x l ih=>rw[List.cons_append,cellsC,cellsC,ih,List.append_assoc]
theorem cellsC_take (ok:RtOK R)(l:List α)(k:Nat):cellsC R (l.take k)=(cellsC R l).take (k * R.k):=by
 induction k generalizing l with
 | zero=>simp[cellsC]
 | succ k ih =>
  cases l with
  | nil=>simp[cellsC]
  | cons x l =>
   have h1:(k+1) * R.k=k * R.k+R.k:=Nat.succ_mul k R.k
   rw[List.take_succ_cons,cellsC,cellsC,ih,List.take_append,ok.len,List.take_of_length_le (l:=R.c x) (by rw[ok.len];omega),show (k+1) * R.k-R.k=k * R.k by omega]
theorem cellsC_drop (ok:RtOK R)(l:List α)(k:Nat):cellsC R (l.drop k)=(cellsC R l).drop (k * R.k):=by
 induction k generalizing l with
 | zero=>simp
 | succ k ih =>
  cases l with
  | nil=>simp[cellsC]
  | cons x l =>
   have h1:(k+1) * R.k=k * R.k+R.k:=Nat.succ_mul k R.k
   rw[List.drop_succ_cons,cellsC,ih,List.drop_append,ok.len,List.drop_of_length_le (l:=R.c x) (by rw[ok.len];omega),List.nil_append,show (k+1) * R.k-R.k=k * R.k by omega]
theorem cellsC_at (ok:RtOK R)(l:List α)(k j:Nat)(hk:k<l.length)(hj:j<R.k):(cellsC R l)[k * R.k+j]?=(R.c (l[k]))[j]?:=by
 have e:(cellsC R l)[k * R.k+j]?=((cellsC R l).drop (k * R.k))[j]?:=by rw[List.getElem?_drop]
 rw[e,←cellsC_drop ok,List.drop_eq_getElem_cons hk,cellsC,List.getElem?_append_left (by rw[ok.len];exact hj)]
theorem cellsC_one (ok:RtOK R)(l:List α):∀u∈cellsC R l,u.oneCell'=true:=by
 induction l with
 | nil=>intro u hu;cases hu
 | cons x l ih =>
  intro u hu
  rw[cellsC] at hu
  rcases List.mem_append.1 hu with hu|hu
  ·exact ok.one x u hu
  ·exact ih u hu
def OwnRw (R:RT α)(w:World)(base:Nat)(v:Value)(l:List α):Prop:=w.ownsRow base R.E R.k v l.length (cellsC R l)
theorem OwnRw.nil (R:RT α)(w:World)(base:Nat):OwnRw R w base (.slice none 0 0) []:=World.ownsRow_nil _ _ _ _
theorem OwnRw.keep {w w':World}{us:List TypeId}{base:Nat}{v:Value}{l:List α}(h:OwnRw R w base v l)(hk:KeepO us w w')(he:R.E∈us):OwnRw R w' base v l:=own_keepO hk h he
theorem OwnRw.on {w w':World}{base:Nat}{v:Value}{l:List α}(h:OwnRw R w base v l)(hb:Below w.heap.size w w'):OwnRw R w' base v l:=h.keep (us:=[R.E]) (KeepO.of_below hb) (List.mem_singleton.2 rfl)
theorem OwnRw.base {w:World}{base base':Nat}{v:Value}{l:List α}(h:OwnRw R w base v l)(hb:base'≤base):OwnRw R w base' v l:=own_base h hb
theorem OwnRw.form (ok:RtOK R){w:World}{base:Nat}{v:Value}{l:List α}(h:OwnRw R w base v l):∃a cap,v=.slice a l.length cap∧l.length≤cap∧(a=none∨∃g,a=some ⟨g,0,none⟩) ∧
  (0<l.length→∃g,a=some ⟨g,0,none⟩∧base≤g∧g<w.heap.size∧∀k (hk:k<l.length),∀j,j<R.k→w.cell? ⟨g,k * R.k+j,none⟩=(R.c (l[k]))[j]?):=by
 obtain⟨h1,h2⟩:=h
 rcases h2 with⟨rfl,h0⟩|⟨g,cap,cur,rfl,hb,hg,hle,hmax,hsz,htk⟩
 ·have:l=[]:=List.eq_nil_of_length_eq_zero h0
  subst this
  exact⟨none,0,rfl,Nat.le_refl _,.inl rfl,fun h=>absurd h (Nat.lt_irrefl 0)⟩
 ·refine⟨_,cap,rfl,hle,.inr ⟨g,rfl⟩,fun hp=>⟨g,rfl,hb,(Array.getElem?_eq_some_iff.1 hg).1,fun k hk j hj=>?_⟩⟩
  have hown:w.ownsRow base R.E R.k (.slice (some ⟨g,0,none⟩) l.length cap) l.length (cellsC R l):=⟨h1,.inr ⟨g,cap,cur,rfl,hb,hg,hle,hmax,hsz,htk⟩⟩
  have hlt:k * R.k+j<l.length * R.k:=by
   have:(k+1) * R.k≤l.length * R.k:=Nat.mul_le_mul_right _ hk
   rw[Nat.succ_mul] at this;omega
  rw[World.ownsRow.cellAt hown (k * R.k+j) hlt,cellsC_at ok l k j hk hj]
theorem OwnRw.row (ok:RtOK R){w:World}{base:Nat}{a:Option Addr}{n cap:Nat}{l:List α}(h:OwnRw R w base (.slice a n cap) l):RowC R.k R.c w a n l:=by
 obtain⟨a',c',e,_,_,hc⟩:=h.form ok
 injection e with e1 e2 e3
 subst e1 e2 e3
 refine⟨rfl,fun hp=>?_⟩
 obtain⟨g,e4,_,hl,h3⟩:=hc hp
 refine⟨g,0,e4,hl,fun k x hx j v hv=>?_⟩
 have hj:j<R.k:=by have:=(List.getElem?_eq_some_iff.1 hv).1;rw[ok.len] at this;exact this
 obtain⟨hk,rfl⟩:=List.getElem?_eq_some_iff.1 hx
 rw[Nat.zero_add,h3 k hk j hj]
 exact hv
theorem OwnRw.lt {w:World}{base:Nat}{v:Value}{l:List α}(h:OwnRw R w base v l){g:Nat}(hg:v.ownBlock=some g):base≤g∧g<w.heap.size:=World.ownsRow.lt h g hg
theorem KeepT.grownC {w w':World}{base:Nat}{v:Value}{l:List α}(ho:OwnRw R w base v l)(hg:w.grownBy w' v.ownBlock):KeepT [R.E] w w' :=
 ⟨hg.size,fun k o hk hno=>by
  refine(hg.block k (Array.getElem?_eq_some_iff.1 hk).1 (fun eb=>?_)).trans hk
  rcases ho.2 with⟨rfl,_⟩|⟨g,cap,cur,rfl,_,hgb,_⟩
  ·simp[Value.ownBlock] at eb
  ·have hkg:k=g:=by simpa [Value.ownBlock] using eb
   subst hkg
   have:o=.cells cur R.E (0,0):=Option.some.inj (hk.symm.trans hgb)
   exact hno _ _ _ this (List.mem_singleton.2 rfl)⟩
structure SrcC (R:RT α)(w:World)(sa:Option Addr)(m c:Nat)(l:List α):Prop where
 len:l.length=m
 nil:sa=none→m=0∧c=0
 cells:∀ad,sa=some ad→∀j u,(cellsC R l)[j]?=some u→w.cell? (ad.add j)=some u
def cutC (R:RT α)(a:Option Addr)(cap k:Nat):Option Addr:=if cap=k then a else a.map (·.add (k * R.k))
theorem SrcC.below {w w':World}{sa:Option Addr}{m c:Nat}{l:List α}(h:SrcC R w sa m c l)(hb:Below w.heap.size w w'):SrcC R w' sa m c l :=
 ⟨h.len,h.nil,fun ad e j u hu=>by have:=h.cells ad e j u hu;exact(hb.cell (cell_lt this)).trans this⟩
theorem RowC.src (ok:RtOK R){w:World}{a:Option Addr}{n cap:Nat}{l:List α}(h:RowC R.k R.c w a n l)(ha:a=none→n=0∧cap=0):SrcC R w a n cap l :=
 ⟨h.len,ha,fun ad e j u hu=>by
  have hj:=(List.getElem?_eq_some_iff.1 hu).1
  rw[cellsC_length ok] at hj
  have hp:0<n:=by rcases Nat.eq_zero_or_pos n with h0|h0;(rw[h.len,h0,Nat.zero_mul] at hj;omega);exact h0
  obtain⟨g,off,e2,hl,hc⟩:=h.cells hp
  rw[e] at e2
  obtain rfl:=Option.some.inj e2
  have hk:j/R.k<l.length:=(Nat.div_lt_iff_lt_mul ok.k1).2 hj
  have hjj:j=j/R.k * R.k+j%R.k:=by have:=Nat.div_add_mod j R.k;rw[Nat.mul_comm] at this;omega
  rw[hjj,cellsC_at ok l (j/R.k) (j%R.k) hk (Nat.mod_lt _ ok.k1)] at hu
  have:=hc (j/R.k) _ (List.getElem?_eq_getElem hk) (j%R.k) u hu
  rw[Addr.add_lit]
  rw[show off+j=off+j/R.k * R.k+j%R.k by omega]
  exact this⟩
theorem SrcC.tail (ok:RtOK R){w:World}{a:Option Addr}{n cap:Nat}{l:List α}(h:SrcC R w a n cap l)(k:Nat)(hk:k≤n)(hcap:n≤cap):SrcC R w (cutC R a cap k) (n-k) (cap-k) (l.drop k):=
 ⟨by rw[List.length_drop,h.len],(fun e=>by
  unfold cutC at e
  split at e
  ·rename_i hc;obtain⟨h1,h2⟩:=h.nil e;omega
  ·cases a with
   | none=>obtain⟨h1,h2⟩:=h.nil rfl;omega
   | some ad=>cases e),fun ad e j u hu=>by
  rw[cellsC_drop ok,List.getElem?_drop] at hu
  unfold cutC at e
  split at e
  ·rename_i hc
   have:=(List.getElem?_eq_some_iff.1 hu).1
   rw[cellsC_length ok,h.len] at this
   have h1:n * R.k≤k * R.k:=Nat.mul_le_mul_right _ (by omega)
   omega
  ·cases a with
   | none=>cases e
   | some ad0 =>
    have e2:ad0.add (k * R.k)=ad:=Option.some.inj e
    rw[←e2]
    obtain⟨g,off,sp⟩:=ad0
    have:=h.cells ⟨g,off,sp⟩ rfl (k * R.k+j) u hu
    rw[Deep.add_add]
    exact this⟩
theorem OwnRw.src (ok:RtOK R){w:World}{base:Nat}{a:Option Addr}{n cap:Nat}{l:List α}(h:OwnRw R w base (.slice a n cap) l):SrcC R w a n cap l:=by
 refine RowC.src ok (h.row ok) (fun e=>?_)
 rcases h.2 with⟨h1,h2⟩|⟨g,cap',cur,h3,_⟩
 ·injection h1 with e1 e2 e3
  exact⟨e2,e3⟩
 ·injection h3 with e1 _ _
  rw[e] at e1;cases e1
theorem Blk.srcC {w:World}{B:Nat}{x:α}(h:Blk w B R.E (R.c x)):SrcC R w (some ⟨B,0,none⟩) 1 1 [x] :=
 ⟨rfl,(fun e=>by cases e),fun ad e j u hu=>by
  obtain rfl:=Option.some.inj e
  rw[cellsC,cellsC,List.append_nil] at hu
  rw[Addr.add_lit,h.cell,Nat.zero_add]
  exact hu⟩
theorem bytes_max {n b:Nat}(hb:0<b)(h:n * b≤140737488355328):n≤maxLen:=by
 have:n * 1≤n * b:=Nat.mul_le_mul_left _ hb
 unfold maxLen;omega
theorem list_appC (ok:RtOK R){ops:Array Oper}{rest:List Oper}{o:Oper}{a:Act}{Q:Exit→Act→World→Prop}(w:World)(hgd:o.guard=none)(s x:Operand)
  (ho:o.op=.call { callee:=.builtin .append,args:=#[s,x],argTypes:=#[R.S,R.S] }) (base:Nat)
  (v:Value) (l:List α) (hs:a.eval s=v) (hown:OwnRw R w base v l) (sa:Option Addr) (m c:Nat) (news:List α) (hx:a.eval x=.slice sa m c) (hsrc:SrcC R w sa m c news)
  (hbytes:(l.length+m) * R.by_≤140737488355328) (hbase:base≤w.heap.size)
  (h:∀v' w',OwnRw R w' base v' (l++news)→w.grownBy w' v.ownBlock→wpList Tryz.prog ops Q rest (a.put o.dst v') w'):
  wpList Tryz.prog ops Q (o::rest) a w:=by
 obtain⟨i0,hi,hz0,hz1,hz2⟩:=info_parts ok.hi
 cases sa with
 | none =>
  obtain⟨hm,hc⟩:=hsrc.nil rfl
  have hn:news=[]:=List.eq_nil_of_length_eq_zero (by rw[hsrc.len,hm])
  subst hn hm hc
  refine wpList_append_own_none hgd s x R.S ho base R.E i0 R.k ok.hu hi v l.length (cellsC R l) hs hown hx ?_
  exact h v w (by rw[List.append_nil];exact hown) (World.grownBy.refl _ _)
 | some ad =>
  refine wpList_append_own w hgd s x R.S ho base R.E i0 R.z R.k R.by_ ok.hu hi hz0 hz1 hz2 (by have:=ok.hz;simpa using this) ok.k1 v l.length (cellsC R l) hs hown ad m c (cellsC R news) hx (by rw[cellsC_length ok,hsrc.len]) (hsrc.cells ad rfl) (cellsC_one ok news) (bytes_max ok.b1 hbytes) hbytes hbase ?_
  intro v' w' h1 h2 _
  exact h v' w' (by unfold OwnRw;rw[cellsC_append,List.length_append,hsrc.len];exact h1) h2
theorem step_appRw (ok:RtOK R){ops:Array Oper}{o:Oper}{a:Act}{K:Act→World→Prop}{Q:Exit→Act→World→Prop}{E:Prop}(w:World)(hgd:o.guard=none)(s x:Operand)
  (ho:o.op=.call { callee:=.builtin .append,args:=#[s,x],argTypes:=#[R.S,R.S] }) (base:Nat)
  (v:Value) (l:List α) (hs:a.eval s=v) (hown:OwnRw R w base v l) (sa:Option Addr) (m c:Nat) (news:List α) (hx:a.eval x=.slice sa m c) (hsrc:SrcC R w sa m c news)
  (hbytes:(l.length+m) * R.by_≤140737488355328) (hbase:base≤w.heap.size) (d:Tmp) (hd:o.dst=some d)
  (h:∀v' w',OwnRw R w' base v' (l++news)→w.grownBy w' v.ownBlock→K (a.put (some d) v') w'):
  if Region.wanted o (yielded ops a.tmps)=true then Oper.wp Tryz.prog o a w K Q else E:=by
 have hw:Region.wanted o (yielded ops a.tmps)=true:=by simp[Region.wanted,hgd]
 rw[if_pos hw]
 obtain⟨i0,hi,hz0,hz1,hz2⟩:=info_parts ok.hi
 cases sa with
 | none =>
  obtain⟨hm,hc⟩:=hsrc.nil rfl
  have hn:news=[]:=List.eq_nil_of_length_eq_zero (by rw[hsrc.len,hm])
  subst hn hm hc
  have hrun:=run_append_owned_none (P:=Tryz.prog) (w:=w) base R.S o.type R.E i0 R.k ok.hu hi v l.length (cellsC R l) hown
  rw[←hd] at h
  unfold Oper.wp
  simp[execOp,ho,resolve,invoke,builtin,hs,hx,hrun,Result.andThen]
  exact h v w (by rw[List.append_nil];exact hown) (World.grownBy.refl _ _)
 | some ad =>
  refine wp_append_own w s x R.S ho base R.E i0 R.z R.k R.by_ ok.hu hi hz0 hz1 hz2 (by have:=ok.hz;simpa using this) ok.k1 v l.length (cellsC R l) hs hown ad m c (cellsC R news) hx (by rw[cellsC_length ok,hsrc.len]) (hsrc.cells ad rfl) (cellsC_one ok news) (bytes_max ok.b1 hbytes) hbytes hbase ?_
  intro v' w' h1 h2 _
  rw[hd]
  exact h v' w' (by unfold OwnRw;rw[cellsC_append,List.length_append,hsrc.len];exact h1) h2
theorem slHC (ok:RtOK R)(a:Option Addr)(n cap k:Nat)(hk:k≤cap)(w:World):(Instr.slice R.S (.slice a n cap) none (some (.int .i64 (k:Int))) none).run Tryz.prog w=.ok (.slice a k cap) w:=by
 have he:Tryz.prog.elem R.S=R.E:=by simp[Program.elem,ok.hu]
 have hz:(sizeOf R.E).run Tryz.prog w=.ok R.k w:=by
  obtain⟨i0,hi,hz0,hz1,hz2⟩:=info_parts ok.hi
  simp[sizeOf,typeInfo,hi,hz1]
 rw[run_slice_h w R.S _ n cap (by rw[he];exact ok.hu) .i64 (k:Int) (by omega) (by omega),he,hz]
 simp only[Result.andThen,sliced,Int.toNat_natCast,Nat.zero_mul,Nat.sub_zero]
 cases a with
 | none=>split<;>rfl
 | some ad =>
  have h0:ad.add 0=ad:=by obtain⟨b,o,sp⟩:=ad;cases sp<;>simp[Addr.add]
  split<;>simp[h0]
theorem slLC (ok:RtOK R)(a:Option Addr)(n cap k:Nat)(hk:k≤n)(w:World):(Instr.slice R.S (.slice a n cap) (some (.int .i64 (k:Int))) none none).run Tryz.prog w=.ok (.slice (cutC R a cap k) (n-k) (cap-k)) w:=by
 have he:Tryz.prog.elem R.S=R.E:=by simp[Program.elem,ok.hu]
 have hz:(sizeOf R.E).run Tryz.prog w=.ok R.k w:=by
  obtain⟨i0,hi,hz0,hz1,hz2⟩:=info_parts ok.hi
  simp[sizeOf,typeInfo,hi,hz1]
 rw[run_slice_l w R.S _ n cap (by rw[he];exact ok.hu) .i64 (k:Int) (by omega) (by omega),he,hz]
 simp only[Result.andThen,sliced,Int.toNat_natCast,cutC]
end
section
open Go.RowKit
variable {α:Type} {R:RT α}
theorem run_copy_k (ok:RtOK R)(w:World)(ty:TypeId)(g o dLen dCap:Nat)(a:Addr)(sLen sCap m:Nat)(cur:Array Value)(t:TypeId)(cs:List Value)(hg:w.heap[g]?=some (.cells cur t (0,0)))(hm:m=Nat.min sLen dLen)(hn:cs.length=m * R.k)
  (hsrc:∀j v,cs[j]?=some v→w.cell? (a.add j)=some v) (hfit:o+cs.length≤cur.size) (h1:∀v∈cs,v.oneCell'=true):
  (Builtin.copy_ #[R.S,R.S] ty #[.slice (some ⟨g,o,none⟩) dLen dCap,.slice (some a) sLen sCap]).run Tryz.prog w=.ok (goInt m) (w.setRow g (cur.toList.take o++cs++cur.toList.drop (o+cs.length)).toArray):=by
 obtain⟨i0,hi,hz0,hz1,hz2⟩:=info_parts ok.hi
 have hl:=run_loadCells_list (P:=Tryz.prog) w a cs hsrc
 have hst:=run_storeCells_at Tryz.prog g o t cs 0 cur w hg (by simpa using hfit) h1
 simp[Builtin.copy_,run_underlying ok.hu,Builtin.lenOf,Builtin.firstCells,sizeOf,typeInfo,hi,hz1,←hm,←hn,hl,hst]
theorem ins_cells {β:Type}(Z A X D:List β)(hA:Z.take A.length=A)(hl:A.length+X.length+D.length≤Z.length):
  (Z.take (A.length+X.length)++D++Z.drop (A.length+X.length+D.length)).take A.length++X++(Z.take (A.length+X.length)++D++Z.drop (A.length+X.length+D.length)).drop (A.length+X.length)=A++X++D++Z.drop (A.length+X.length+D.length):=by
 have h1:(Z.take (A.length+X.length)).length=A.length+X.length:=by rw[List.length_take];omega
 rw[List.append_assoc (Z.take _),List.take_append_of_le_length (by omega),List.take_take,Nat.min_eq_left (by omega),hA,List.drop_left' h1,List.append_assoc,List.append_assoc,List.append_assoc]
theorem ins_cells2 {β:Type}(Z A X D:List β)(hA:Z.take A.length=A):
  (Z.take A.length++X++Z.drop (A.length+X.length)).take (A.length+X.length)++D++(Z.take A.length++X++Z.drop (A.length+X.length)).drop (A.length+X.length+D.length)=A++X++D++Z.drop (A.length+X.length+D.length):=by
 rw[hA]
 have h1:(A++X).length=A.length+X.length:=List.length_append
 rw[List.take_left' h1,List.drop_append,List.drop_of_length_le (by omega),List.nil_append,h1,List.drop_drop]
 congr 2
 omega
theorem OwnRw.cur {w:World}{base g n cap:Nat}{l:List α}(h:OwnRw R w base (.slice (some ⟨g,0,none⟩) n cap) l):∃cur:Array Value,base≤g∧w.heap[g]?=some (.cells cur R.E (0,0))∧n=l.length∧n≤cap∧cap≤maxLen∧cur.size=cap * R.k∧cur.toList.take (n * R.k)=cellsC R l:=by
 rcases h.2 with⟨he,_⟩|⟨g',cap',cur,he,hb,hg,hle,hmax,hsz,htk⟩
 ·injection he with e1 _ _;cases e1
 ·injection he with e1 e2 e3
  have e4:=Option.some.inj e1
  injection e4 with e5 _ _
  subst e5 e3 e2
  exact⟨cur,hb,hg,rfl,hle,hmax,hsz,htk⟩
theorem OwnRw.mk (ok:RtOK R){w:World}{base g cap:Nat}{l:List α}{cur:Array Value}(hb:base≤g)(hg:w.heap[g]?=some (.cells cur R.E (0,0)))(hle:l.length≤cap)(hm:cap≤maxLen)(hs:cur.size=cap * R.k)(ht:cur.toList.take (l.length * R.k)=cellsC R l):OwnRw R w base (.slice (some ⟨g,0,none⟩) l.length cap) l :=
 ⟨cellsC_length ok l,.inr ⟨g,cap,cur,rfl,hb,hg,hle,hm,hs,ht⟩⟩
theorem cutC_some {g cap j:Nat}(h:j<cap):cutC R (some ⟨g,0,none⟩) cap j=some ⟨g,j * R.k,none⟩:=by unfold cutC;rw[if_neg (by omega)];simp[Addr.add_lit]
theorem cells_mid (ok:RtOK R){w:World}{g:Nat}{cur:Array Value}{n i:Nat}{l:List α}(hg:w.heap[g]?=some (.cells cur R.E (0,0)))(ht:cur.toList.take (n * R.k)=cellsC R l):∀j v,(cellsC R (l.drop i))[j]?=some v→w.cell? ((⟨g,i * R.k,none⟩:Addr).add j)=some v:=fun j v hv=>by
 rw[Addr.add_lit,cell_of_row w g _ cur R.E (0,0) hg]
 rw[cellsC_drop ok,List.getElem?_drop,←ht,List.getElem?_take] at hv
 split at hv
 ·rw[←hv];simp
 ·cases hv
theorem ins_room (ok:RtOK R){w:World}{base g n cap i B:Nat}{l:List α}{x:α}(h:OwnRw R w base (.slice (some ⟨g,0,none⟩) n cap) l)(hi:i<n)(hc:n+1≤cap)(hB:Blk w B R.E (R.c x))(hne:B≠g)(ty1 ty2:TypeId):
  ∃w1 w2,(Builtin.copy_ #[R.S,R.S] ty1 #[.slice (cutC R (some ⟨g,0,none⟩) cap (i+1)) (n+1-(i+1)) (cap-(i+1)),.slice (cutC R (some ⟨g,0,none⟩) cap i) (n+1-i) (cap-i)]).run Tryz.prog w=.ok (goInt (n-i:Nat)) w1 ∧
   (Builtin.copy_ #[R.S,R.S] ty2 #[.slice (cutC R (some ⟨g,0,none⟩) cap i) (n+1-i) (cap-i),.slice (some ⟨B,0,none⟩) 1 1]).run Tryz.prog w1=.ok (goInt (1:Nat)) w2 ∧
   OwnRw R w2 base (.slice (some ⟨g,0,none⟩) (n+1) cap) (l.take i++x::l.drop i)∧w.grownBy w2 (some g):=by
 obtain⟨cur,hb,hg,hn,hle,hmax,hsz,htk⟩:=h.cur
 subst hn
 have hcl:cur.toList.length=cur.size:=Array.length_toList
 have hk1:(l.length+1) * R.k≤cap * R.k:=Nat.mul_le_mul_right _ hc
 have hAl:(cellsC R (l.take i)).length=i * R.k:=by rw[cellsC_length ok,List.length_take,Nat.min_eq_left (by omega)]
 have hDl:(cellsC R (l.drop i)).length=(l.length-i) * R.k:=by rw[cellsC_length ok,List.length_drop]
 have hXl:(R.c x).length=R.k:=ok.len x
 have hi1:(i+1) * R.k=i * R.k+R.k:=Nat.succ_mul _ _
 have hsum:i * R.k+(l.length-i) * R.k=l.length * R.k:=by rw[←Nat.add_mul];congr 1;omega
 have hn1:(l.length+1) * R.k=l.length * R.k+R.k:=Nat.succ_mul _ _
 have hA:cur.toList.take (i * R.k)=cellsC R (l.take i):=by
  rw[cellsC_take ok,←htk,List.take_take,Nat.min_eq_left]
  exact Nat.mul_le_mul_right _ (by omega)
 rw[cutC_some (by omega),cutC_some (by omega)]
 have r1:=run_copy_k ok w ty1 g ((i+1) * R.k) (l.length+1-(i+1)) (cap-(i+1)) ⟨g,i * R.k,none⟩ (l.length+1-i) (cap-i) (l.length-i) cur R.E (cellsC R (l.drop i)) hg (by show _=min _ _;omega) hDl (cells_mid ok hg htk) (by rw[hDl];omega) (cellsC_one ok _)
 have hg1:=setRow_heap w g cur (cur.toList.take ((i+1) * R.k)++cellsC R (l.drop i)++cur.toList.drop ((i+1) * R.k+(cellsC R (l.drop i)).length)).toArray R.E _ hg
 have hB1:Blk (w.setRow g (cur.toList.take ((i+1) * R.k)++cellsC R (l.drop i)++cur.toList.drop ((i+1) * R.k+(cellsC R (l.drop i)).length)).toArray) B R.E (R.c x):=hB.rowOther _ _ hne
 have hs1:(cur.toList.take ((i+1) * R.k)++cellsC R (l.drop i)++cur.toList.drop ((i+1) * R.k+(cellsC R (l.drop i)).length)).length=cap * R.k:=by
  rw[List.length_append,List.length_append,List.length_take,List.length_drop,hcl,hsz,hDl];omega
 generalize hcur1:cur.toList.take ((i+1) * R.k)++cellsC R (l.drop i)++cur.toList.drop ((i+1) * R.k+(cellsC R (l.drop i)).length)=cur1 at *
 have r2:=run_copy_k ok (w.setRow g cur1.toArray) ty2 g (i * R.k) (l.length+1-i) (cap-i) ⟨B,0,none⟩ 1 1 1 cur1.toArray R.E (R.c x) hg1 (by show _=min _ _;omega) (by rw[hXl,Nat.one_mul]) (fun j v hv=>by rw[Addr.add_lit,Nat.zero_add,hB1.cell];exact hv) (by rw[List.size_toArray,hs1,hXl];omega) (ok.one x)
 refine⟨_,_,r1,r2,?_,⟨rfl,rfl,rfl,by simp[World.setRow],fun k _ hk=>?_⟩⟩
 ·have hll:(l.take i++x::l.drop i).length=l.length+1:=by rw[List.length_append,List.length_cons,List.length_take,List.length_drop];omega
  have hic:=ins_cells cur.toList (cellsC R (l.take i)) (R.c x) (cellsC R (l.drop i)) (by rw[hAl];exact hA) (by rw[hAl,hXl,hDl,hcl,hsz];omega)
  rw[hAl,hXl,←hi1,hcur1] at hic
  have:=OwnRw.mk ok (w:=(w.setRow g cur1.toArray).setRow g (cur1.take (i * R.k)++R.c x++cur1.drop (i * R.k+(R.c x).length)).toArray) (base:=base) (g:=g) (cap:=cap) (l:=l.take i++x::l.drop i) hb (setRow_heap _ g _ _ R.E _ hg1) (by rw[hll];exact hc) hmax
   (by rw[List.size_toArray,List.length_append,List.length_append,List.length_take,List.length_drop,hs1,hXl];omega)
   (by
    rw[List.toList_toArray,hXl,←hi1,hic,hll,cellsC_append,cellsC,List.append_assoc,List.append_assoc]
    have e:cellsC R (l.take i)++(R.c x++(cellsC R (l.drop i)++cur.toList.drop ((i+1) * R.k+(cellsC R (l.drop i)).length)))=(cellsC R (l.take i)++(R.c x++cellsC R (l.drop i)))++cur.toList.drop ((i+1) * R.k+(cellsC R (l.drop i)).length):=by simp only[List.append_assoc]
    rw[e,List.take_left' (by rw[List.length_append,List.length_append,hAl,hXl,hDl];omega)])
  rw[hll] at this
  exact this
 ·have hkg:k≠g:=fun e=>hk (by rw[e])
  rw[setRow_other _ g k _ hkg,setRow_other _ g k _ hkg]
theorem ins_grow (ok:RtOK R){w:World}{base g n i B:Nat}{l:List α}{x:α}(tn:TypeId)(htn:Tryz.prog.underlying tn=some (.int .i64))(h:OwnRw R w base (.slice (some ⟨g,0,none⟩) n n) l)(hi:i<n)(hB:Blk w B R.E (R.c x))(hlo:base≤w.heap.size)(hsmall:(n+1) * R.by_≤140737488355328)(ty1 ty2 ty3:TypeId):
  ∃w1 w2 w3 cap2 H,n+1≤cap2∧(Builtin.append_ #[R.S,tn] ty1 #[.slice (some ⟨g,0,none⟩) i n,.int .i64 ((n+1-i:Nat):Int)]).run Tryz.prog w=.ok (.slice (some ⟨H,0,none⟩) (n+1) cap2) w1 ∧
   (Builtin.copy_ #[R.S,R.S] ty2 #[.slice (cutC R (some ⟨H,0,none⟩) cap2 i) (n+1-i) (cap2-i),.slice (some ⟨B,0,none⟩) 1 1]).run Tryz.prog w1=.ok (goInt (1:Nat)) w2 ∧
   (Builtin.copy_ #[R.S,R.S] ty3 #[.slice (cutC R (some ⟨H,0,none⟩) cap2 (i+1)) (n+1-(i+1)) (cap2-(i+1)),.slice (cutC R (some ⟨g,0,none⟩) n i) (n-i) (n-i)]).run Tryz.prog w2.drew=.ok (goInt (n-i:Nat)) w3 ∧
   OwnRw R w3 base (.slice (some ⟨H,0,none⟩) (n+1) cap2) (l.take i++x::l.drop i)∧Below w.heap.size w w3:=by
 obtain⟨cur,hb,hg,hn,hle,hmax,hsz,htk⟩:=h.cur
 subst hn
 obtain⟨i0,hif,hz0,hz1,hz2⟩:=info_parts ok.hi
 have hgl:g<w.heap.size:=(Array.getElem?_eq_some_iff.1 hg).1
 have hBl:=hB.lt
 have hcl:cur.toList.length=cur.size:=Array.length_toList
 have hAl:(cellsC R (l.take i)).length=i * R.k:=by rw[cellsC_length ok,List.length_take,Nat.min_eq_left (by omega)]
 have hDl:(cellsC R (l.drop i)).length=(l.length-i) * R.k:=by rw[cellsC_length ok,List.length_drop]
 have hXl:(R.c x).length=R.k:=ok.len x
 have hi1:(i+1) * R.k=i * R.k+R.k:=Nat.succ_mul _ _
 have hsum:i * R.k+(l.length-i) * R.k=l.length * R.k:=by rw[←Nat.add_mul];congr 1;omega
 have hn1:(l.length+1) * R.k=l.length * R.k+R.k:=Nat.succ_mul _ _
 have hA:cur.toList.take (i * R.k)=cellsC R (l.take i):=by
  rw[cellsC_take ok,←htk,List.take_take,Nat.min_eq_left]
  exact Nat.mul_le_mul_right _ (by omega)
 have hold:(Builtin.firstCells i0.size i (.slice (some ⟨g,0,none⟩) i l.length)).run Tryz.prog w.drew=.ok (cellsC R (l.take i)).toArray w.drew:=by
  have:=run_loadCells_list (P:=Tryz.prog) w.drew ⟨g,0,none⟩ (cellsC R (l.take i)) (fun j v hv=>by
   rw[Addr.add_lit,Nat.zero_add,cell_of_row w.drew g j cur R.E (0,0) hg]
   rw[←hA,List.getElem?_take] at hv
   split at hv
   ·rw[←hv];simp
   ·cases hv)
  rw[hAl] at this
  simp only[Builtin.firstCells,hz1]
  exact this
 have hb1:1≤R.by_:=ok.b1
 have hnm:l.length+1≤maxLen:=bytes_max hb1 hsmall
 have hml:maxLen=140737488355328∨True:=.inr trivial
 have r0:=Lib.run_append_grow_zeros (P:=Tryz.prog) w R.S tn ty1 R.E i0 R.z .i64 .i64 ok.hu htn hif hz0 (some ⟨g,0,none⟩) i l.length (cellsC R (l.take i)) hold (l.length+1-i) (by omega) (by rw[hz1];exact ok.k1) (by omega)
  (by (have:(l.length+1) * 1≤(l.length+1) * R.by_:=Nat.mul_le_mul_left _ hb1);omega)
  (by (rw[hz2];have:(l.length+1-i) * R.by_≤(l.length+1) * R.by_:=Nat.mul_le_mul_right _ (by omega));omega)
  (by rw[hz2];exact growslice_fits (by omega) (by rw[show i+(l.length+1-i)=l.length+1 by omega];exact hsmall))
 rw[show i+(l.length+1-i)=l.length+1 by omega] at r0
 have hcap:=grownCap_ge w (l.length+1) l.length R.E
 have hmx:=grownCap_le_maxLen w (l.length+1) l.length R.E hnm
 generalize grownCap w (l.length+1) l.length R.E=cap2 at *
 have hzs:R.z.cells.size=R.k:=by rw[←ok.hz,Array.length_toList]
 have hrl:((cellsC R (l.take i)).toArray++Builtin.zeroCells R.z.cells (l.length+1-i)++Builtin.zeroCells R.z.cells (cap2-(l.length+1))).size=cap2 * R.k:=by
  rw[Array.size_append,Array.size_append,size_zeroCells,size_zeroCells,List.size_toArray,hAl,hzs,←Nat.add_mul,←Nat.add_mul]
  congr 1
  omega
 have hrA:((cellsC R (l.take i)).toArray++Builtin.zeroCells R.z.cells (l.length+1-i)++Builtin.zeroCells R.z.cells (cap2-(l.length+1))).toList.take (i * R.k)=cellsC R (l.take i):=by
  rw[Array.toList_append,Array.toList_append,List.append_assoc,List.toList_toArray,List.take_left' hAl]
 generalize (cellsC R (l.take i)).toArray++Builtin.zeroCells R.z.cells (l.length+1-i)++Builtin.zeroCells R.z.cells (cap2-(l.length+1))=row at *
 have hk2:(l.length+1) * R.k≤cap2 * R.k:=Nat.mul_le_mul_right _ hcap
 have hrll:row.toList.length=row.size:=Array.length_toList
 have hsz2:w.drew.heap.size=w.heap.size:=rfl
 have hg1:(w.drew.alloc (.cells row R.E)).heap[w.heap.size]?=some (.cells row R.E (0,0)):=heap_alloc_new w.drew _
 have hB1:Blk (w.drew.alloc (.cells row R.E)) B R.E (R.c x):=Blk.alloc (w:=w.drew) hB _
 have hgg1:(w.drew.alloc (.cells row R.E)).heap[g]?=some (.cells cur R.E (0,0)):=(Below.heap_alloc w.drew _ g hgl).trans hg
 have hbe1:Below w.heap.size w (w.drew.alloc (.cells row R.E)):=((Below.refl _ w).drew).alloc (Nat.le_refl _) _
 generalize w.drew.alloc (.cells row R.E)=w1 at *
 have r1:=run_copy_k ok w1 ty2 w.heap.size (i * R.k) (l.length+1-i) (cap2-i) ⟨B,0,none⟩ 1 1 1 row R.E (R.c x) hg1 (by show _=min _ _;omega) (by rw[hXl,Nat.one_mul]) (fun j v hv=>by rw[Addr.add_lit,Nat.zero_add,hB1.cell];exact hv) (by rw[hXl];omega) (ok.one x)
 have hs1:(row.toList.take (i * R.k)++R.c x++row.toList.drop (i * R.k+(R.c x).length)).length=cap2 * R.k:=by
  rw[List.length_append,List.length_append,List.length_take,List.length_drop,hrll,hrl,hXl];omega
 have hic:=ins_cells2 row.toList (cellsC R (l.take i)) (R.c x) (cellsC R (l.drop i)) (by rw[hAl];exact hrA)
 rw[hAl,hXl,←hi1] at hic
 rw[hXl,←hi1] at hs1 r1
 have hg2:=setRow_heap w1 w.heap.size row (row.toList.take (i * R.k)++R.c x++row.toList.drop ((i+1) * R.k)).toArray R.E _ hg1
 have hgg2:(w1.setRow w.heap.size (row.toList.take (i * R.k)++R.c x++row.toList.drop ((i+1) * R.k)).toArray).heap[g]?=some (.cells cur R.E (0,0)):=(setRow_other w1 w.heap.size g _ (by omega)).trans hgg1
 have hbe2:Below w.heap.size w (w1.setRow w.heap.size (row.toList.take (i * R.k)++R.c x++row.toList.drop ((i+1) * R.k)).toArray):=bel_row hbe1 (Nat.le_refl _) _
 generalize hcur1:row.toList.take (i * R.k)++R.c x++row.toList.drop ((i+1) * R.k)=cur1 at *
 generalize hw2:w1.setRow w.heap.size cur1.toArray=w2 at *
 have r2:=run_copy_k ok w2.drew ty3 w.heap.size ((i+1) * R.k) (l.length+1-(i+1)) (cap2-(i+1)) ⟨g,i * R.k,none⟩ (l.length-i) (l.length-i) (l.length-i) cur1.toArray R.E (cellsC R (l.drop i)) hg2 (by show _=min _ _;omega) hDl (cells_mid ok (w:=w2.drew) hgg2 htk) (by rw[List.size_toArray,hs1,hDl];omega) (cellsC_one ok _)
 refine⟨w1,w2,w2.drew.setRow w.heap.size (cur1.take ((i+1) * R.k)++cellsC R (l.drop i)++cur1.drop ((i+1) * R.k+(cellsC R (l.drop i)).length)).toArray,cap2,w.heap.size,hcap,r0,?_,?_,?_,?_⟩
 ·rw[cutC_some (by omega)];exact r1
 ·rw[cutC_some (by omega),cutC_some (by omega)];exact r2
 ·have hll:(l.take i++x::l.drop i).length=l.length+1:=by rw[List.length_append,List.length_cons,List.length_take,List.length_drop];omega
  have:=OwnRw.mk ok (w:=w2.drew.setRow w.heap.size (cur1.take ((i+1) * R.k)++cellsC R (l.drop i)++cur1.drop ((i+1) * R.k+(cellsC R (l.drop i)).length)).toArray) (base:=base) (g:=w.heap.size) (cap:=cap2) (l:=l.take i++x::l.drop i) hlo (setRow_heap w2.drew w.heap.size _ _ R.E _ hg2) (by rw[hll];exact hcap) hmx
   (by rw[List.size_toArray,List.length_append,List.length_append,List.length_take,List.length_drop,hs1,hDl];omega)
   (by
    rw[List.toList_toArray,hic,hll,cellsC_append,cellsC,List.append_assoc,List.append_assoc]
    have e:cellsC R (l.take i)++(R.c x++(cellsC R (l.drop i)++row.toList.drop ((i+1) * R.k+(cellsC R (l.drop i)).length)))=(cellsC R (l.take i)++(R.c x++cellsC R (l.drop i)))++row.toList.drop ((i+1) * R.k+(cellsC R (l.drop i)).length):=by simp only[List.append_assoc]
    rw[e,List.take_left' (by rw[List.length_append,List.length_append,hAl,hXl,hDl];omega)])
  rw[hll] at this
  exact this
 ·exact bel_row hbe2.drew (Nat.le_refl _) _
end
section
open Go.RowKit
theorem OwnN.less {w:World}{base g cap:Nat}{L:List Eq3}(h:OwnN w base (.slice (some ⟨g,0,none⟩) L.length cap) L)(i:Nat)(hi:i<L.length)(ty:TypeId):
  ∃w',(Builtin.append_ #[50,50] ty #[.slice (some ⟨g,0,none⟩) i cap,.slice (cutN (some ⟨g,0,none⟩) cap (i+1)) (L.length-(i+1)) (cap-(i+1))]).run Tryz.prog w=.ok (.slice (some ⟨g,0,none⟩) (L.length-1) cap) w'∧OwnN w' base (.slice (some ⟨g,0,none⟩) (L.length-1) cap) (L.take i++L.drop (i+1))∧w.grownBy w' (some g):=by
 obtain⟨i0,hif,hz0,hz1,hz2⟩:=info_parts infoN
 obtain⟨h1,h2⟩:=h
 rcases h2 with⟨he,_⟩|⟨g',cap',cur,he,hb,hg,hle,hmax,hsz,htk⟩
 ·injection he with e1 _ _;cases e1
 ·injection he with e1 e2 e3
  have e4:=Option.some.inj e1
  injection e4 with e5 _ _
  subst e5 e3
  have hll:(L.take i++L.drop (i+1)).length=L.length-1:=by rw[List.length_append,List.length_take,List.length_drop];omega
  have hcl:cur.toList.length=cur.size:=Array.length_toList
  have hnl:(ets (L.drop (i+1))).length=(L.length-(i+1)) * 2:=by rw[ets_length,List.length_drop]
  have htk2:cur.toList.take (L.length * 2)=ets L:=htk
  have hsrc:SrcN w (cutN (some ⟨g,0,none⟩) cap (i+1)) (L.length-(i+1)) (cap-(i+1)) (L.drop (i+1)):=(OwnN.src (w:=w) (base:=base) ⟨h1,.inr ⟨g,cap,cur,rfl,hb,hg,hle,hmax,hsz,htk⟩⟩ rfl (i+1) hi).2
  obtain⟨ad,had⟩:∃ad,cutN (some ⟨g,0,none⟩) cap (i+1)=some ad:=by unfold cutN;split<;>exact⟨_,rfl⟩
  rw[had] at hsrc ⊢
  have hr:=run_append_room (P:=Tryz.prog) w 50 ty 64 i0 Tryz.underlying50 hif g i cap cur hg ad (L.length-(i+1)) (cap-(i+1)) (ets (L.drop (i+1))) (by rw[hz1];exact hnl) (hsrc.cells ad rfl) (ets_one _) (by omega) (by rw[hz1,hnl];rw[hsz];have:L.length * 2≤cap * 2:=Nat.mul_le_mul_right _ hle;omega)
  rw[hz1,show i+(L.length-(i+1))=L.length-1 by omega] at hr
  have htake:cur.toList.take (i * 2)=ets (L.take i):=by
   rw[ets_take,←htk2,List.take_take]
   congr 1
   omega
  refine⟨_,hr,?_,⟨rfl,rfl,rfl,by simp[World.setRow],fun k _ hk=>setRow_other w g k _ (fun e=>hk (by rw[e]))⟩⟩
  unfold OwnN
  rw[hll]
  refine⟨by rw[ets_length,hll],.inr ⟨g,cap,(cur.toList.take (i * 2)++ets (L.drop (i+1))++cur.toList.drop (i * 2+(ets (L.drop (i+1))).length)).toArray,rfl,hb,?_,by omega,hmax,?_,?_⟩⟩
  ·exact Blk.row (cs:=cur.toList) (by unfold Blk;rw[hg]) _
  ·rw[List.size_toArray,List.length_append,List.length_append,htake,ets_length,hnl,List.length_take,List.length_drop,hcl,hsz]
   have:L.length * 2≤cap * 2:=Nat.mul_le_mul_right _ hle
   omega
  ·rw[List.toList_toArray,htake,ets_append,List.take_left' (by rw[List.length_append,ets_length,hnl,List.length_take];omega)]
theorem OwnN.wipe {w:World}{base g cap:Nat}{L:List Eq3}(h:OwnN w base (.slice (some ⟨g,0,none⟩) L.length cap) L)(hc:L.length<cap)(c:Nat)(ty:TypeId):
  ∃w',(Builtin.clear_ #[50] ty #[.slice (some ⟨g,L.length * 2,none⟩) 1 c]).run Tryz.prog w=.ok (.tuple #[]) w'∧OwnN w' base (.slice (some ⟨g,0,none⟩) L.length cap) L∧w.grownBy w' (some g):=by
 obtain⟨h1,h2⟩:=h
 rcases h2 with⟨he,_⟩|⟨g',cap',cur,he,hb,hg,hle,hmax,hsz,htk⟩
 ·injection he with e1 _ _;cases e1
 ·injection he with e1 e2 e3
  have e4:=Option.some.inj e1
  injection e4 with e5 _ _
  subst e5 e3
  have hcl:cur.toList.length=cur.size:=Array.length_toList
  have hzc:(Builtin.zeroCells (Value.agg #[Value.slice none 0 0,Value.slice none 0 0]).cells 1).toList=[.slice none 0 0,.slice none 0 0]:=by kernel_rfl
  have hst:(storeCells ⟨g,L.length * 2,none⟩ [.slice none 0 0,.slice none 0 0] 0).run Tryz.prog w=.ok () (w.setRow g (cur.toList.take (L.length * 2)++[Value.slice none 0 0,Value.slice none 0 0]++cur.toList.drop (L.length * 2+2)).toArray):=run_storeCells_at Tryz.prog g (L.length * 2) 64 [.slice none 0 0,.slice none 0 0] 0 cur w hg (by rw[hsz];have:(L.length+1) * 2≤cap * 2:=Nat.mul_le_mul_right _ hc;simp;omega) (by intro v hv;simp at hv;rw[hv];rfl)
  have hlen:(L.length+1) * 2≤cap * 2:=Nat.mul_le_mul_right _ hc
  refine⟨w.setRow g (cur.toList.take (L.length * 2)++[Value.slice none 0 0,Value.slice none 0 0]++cur.toList.drop (L.length * 2+2)).toArray,?_,?_,⟨rfl,rfl,rfl,by simp[World.setRow],fun k _ hk=>setRow_other w g k _ (fun e=>hk (by rw[e]))⟩⟩
  ·simp[Builtin.clear_,run_underlying Tryz.underlying50,hzc,hst,Result.andThen]
  ·unfold OwnN
   refine⟨h1,.inr ⟨g,cap,(cur.toList.take (L.length * 2)++[Value.slice none 0 0,Value.slice none 0 0]++cur.toList.drop (L.length * 2+2)).toArray,rfl,hb,Blk.row (cs:=cur.toList) (by unfold Blk;rw[hg]) _,hle,hmax,?_,?_⟩⟩
   ·rw[List.size_toArray,List.length_append,List.length_append,List.length_take,List.length_drop,hcl,hsz]
    simp
    omega
   ·rw[List.toList_toArray,List.append_assoc,List.take_left' (by rw[List.length_take,hcl,hsz];omega)]
    exact htk
theorem slNm (a:Option Addr)(n cap f t:Nat)(h1:f≤t)(h2:t≤n)(h3:n≤cap)(w:World):∃v,(Instr.slice 50 (.slice a n cap) (some (.int .i64 (f:Int))) (some (.int .i64 (t:Int))) (some (.int .i64 (n:Int)))).run Tryz.prog w=.ok v w:=by
 have he:Tryz.prog.elem 50=64:=by kernel_rfl
 have hz:(sizeOf 64).run Tryz.prog w=.ok 2 w:=by
  obtain⟨i0,hi,hz0,hz1,hz2⟩:=info_parts infoN
  simp[sizeOf,typeInfo,hi,hz1]
 rw[run_slice_lhm w 50 _ n cap (by rw[he];exact Tryz.underlying50) .i64 .i64 .i64 (f:Int) (t:Int) (n:Int) (by omega) (by omega) (by omega) (by omega),he,hz]
 exact⟨_,rfl⟩
theorem codDeleteN (w:World)(base g cap n i i1:Nat)(hi1:i+1=i1)(L:List Eq3)(hn:L.length=n)(h:OwnN w base (.slice (some ⟨g,0,none⟩) n cap) L)(hi:i<n)(hc:n≤cap)(hb:n≤1000):
  Calls Tryz.prog 107 #[.slice (some ⟨g,0,none⟩) n cap,.int .i64 (i:Int),.int .i64 (i1:Int)] w fun e w'=>e=.returned (.slice (some ⟨g,0,none⟩) (n-1) cap)∧OwnN w' base (.slice (some ⟨g,0,none⟩) (n-1) cap) (L.take i++L.drop (i+1))∧w.grownBy w' (some g):=by
 have hm:=slNm (some ⟨g,0,none⟩) n cap i i1 (by omega) (by omega) hc
 obtain⟨vm,hvm⟩:=hm w
 have hOd:OwnN w.drew base (.slice (some ⟨g,0,none⟩) L.length cap) L:=by rw[hn];exact h.on (Below.drew (Below.refl _ w))
 obtain⟨Y2,hr2,hO2,hg2⟩:=hOd.less i (by omega) 50
 have hll:(L.take i++L.drop (i+1)).length=n-1:=by rw[List.length_append,List.length_take,List.length_drop];omega
 obtain⟨n1,hn1⟩:∃n1,n-1=n1:=⟨_,rfl⟩
 rw[hn,hn1,hi1] at hr2
 rw[hn,hn1] at hO2
 rw[hn1] at hll ⊢
 have hO2':OwnN Y2 base (.slice (some ⟨g,0,none⟩) (L.take i++L.drop (i+1)).length cap) (L.take i++L.drop (i+1)):=by rw[hll];exact hO2
 obtain⟨Y3,hr3,hO3,hg3⟩:=hO2'.wipe (by rw[hll];omega) (cap-n1) 0
 rw[hll] at hr3 hO3
 have hsh:=fun W=>slNh (some ⟨g,0,none⟩) n cap i (by omega) (.inr ⟨g,rfl⟩) W
 have hsl:=fun W=>slNl (some ⟨g,0,none⟩) n cap i1 (by omega) W
 have hsb:=fun W=>slNb (some ⟨g,0,none⟩) n1 cap n1 n (by omega) hc W
 have hcu:cutN (some ⟨g,0,none⟩) cap n1=some ⟨g,n1 * 2,none⟩:=by unfold cutN;rw[if_neg (by omega)];simp[Addr.add_lit]
 rw[hcu,show n-n1=1 by omega] at hsb
 have HG:Hid (w.grownBy Y3 (some g)):=by
  have h0:w.grownBy w.drew (some g):=⟨rfl,rfl,rfl,Nat.le_refl _,fun _ _ _=>rfl⟩
  exact grown_tr (grown_tr h0 hg2) hg3
 have HO3:=mkHid hO3
 have HR2:=mkHid hr2
 have HR3:=mkHid hr3
 have hne:¬(i:Int)=(i1:Int):=by omega
 clear hm hOd hO2 hO2' hg2 hg3 hO3 hr2 hr3 h hcu hll hi1 hn1 hn
 generalize cutN (some ⟨g,0,none⟩) cap i1=ca at *
 generalize L.take i++L.drop (i+1)=L' at *
 generalize n-i1=m1 at *
 generalize cap-i1=m2 at *
 go_enter Tryz.func107,Tryz.ntmps107
 go_wp2_with fail
 refine lk0 (fun _=>True) 7 trivial (fun hHeld=>?_)
 refine lkT 20 0 ?_ rfl (Or.inl ⟨by rfl,?_⟩) hHeld ?_
 rotate_left
 ·intro w hSw;go_simp;with_reducible rfl
 (try simp only[Act.put,sIx,sZ0,sZ1])
 refine lkT 21 1 ?_ rfl (Or.inl ⟨by rfl,?_⟩) hHeld ?_
 rotate_left
 ·intro w hSw;go_simp;with_reducible rfl
 (try simp only[Act.put,sIx,sZ0,sZ1])
 refine lkT 22 2 (.slice (some ⟨g,0,none⟩) i cap) rfl (Or.inl ⟨by rfl,?_⟩) hHeld ?_
 ·intro w hSw;go_simp
 (try simp only[Act.put,sIx,sZ0,sZ1])
 refine lkT 23 3 ?_ rfl (Or.inl ⟨by rfl,?_⟩) hHeld ?_
 rotate_left
 ·intro w hSw;go_simp;with_reducible rfl
 (try simp only[Act.put,sIx,sZ0,sZ1])
 refine lkT 24 4 ?_ rfl (Or.inl ⟨by rfl,?_⟩) hHeld ?_
 rotate_left
 ·intro w hSw;go_simp;with_reducible rfl
 (try simp only[Act.put,sIx,sZ0,sZ1])
 refine lkT 25 5 (.slice ca m1 m2) rfl (Or.inl ⟨by rfl,?_⟩) hHeld ?_
 ·intro w hSw;go_simp
 (try simp only[Act.put,sIx,sZ0,sZ1])
 refine lk1 6 rfl (fun K hK=>?_)
 refine step_app_run w.drew (by rfl) _ _ 50 50 50 (by rfl) (by rfl) _ _ (by rfl) (by rfl) HR2.out 26 rfl ?_
 refine hK.out _ _ trivial (fun hHeld=>?_)
 (try simp only[Act.put,sIx,sZ0,sZ1])
 clear hK K
 refine lkZ rfl (fun K hK=>?_)
 go_simp
 refine hK.out _ _ ?_
 simp only[Exit.then]
 (try simp only[Act.put,sIx,sZ0,sZ1])
 clear hK K hHeld
 have hr3:=HR3.out
 go_wp2_with fail
 go_ret
 exact⟨rfl,HO3.out,HG.out⟩
theorem ets_set (L:List Eq3)(k:Nat)(x:Eq3):ets (L.set k x)=((ets L).set (k * 2) (.slice x.2.a x.1.k.length x.2.c)).set (k * 2+1) (.slice x.2.b x.1.v.length x.2.d):=by
 induction L generalizing k with
 | nil=>rfl
 | cons y L ih =>
  cases k with
  | zero=>rfl
  | succ k =>
   rw[List.set_cons_succ,ets,ets,ih]
   unfold etc2
   rw[show (k+1) * 2=k * 2+1+1 by omega]
   rfl
theorem OwnN.put {w:World}{base g cap:Nat}{L:List Eq3}(h:OwnN w base (.slice (some ⟨g,0,none⟩) L.length cap) L)(k:Nat)(x:Eq3):
  OwnN ((w.setCell ⟨g,k * 2,none⟩ (.slice x.2.a x.1.k.length x.2.c)).setCell ⟨g,k * 2+1,none⟩ (.slice x.2.b x.1.v.length x.2.d)) base (.slice (some ⟨g,0,none⟩) L.length cap) (L.set k x)∧w.grownBy ((w.setCell ⟨g,k * 2,none⟩ (.slice x.2.a x.1.k.length x.2.c)).setCell ⟨g,k * 2+1,none⟩ (.slice x.2.b x.1.v.length x.2.d)) (some g):=by
 refine⟨?_,grown_tr (grown_set w g (k * 2) _) (grown_set _ g (k * 2+1) _)⟩
 obtain⟨h1,h2⟩:=h
 rcases h2 with⟨he,_⟩|⟨g',cap',cur,he,hb,hg,hle,hmax,hsz,htk⟩
 ·injection he with e1 _ _;cases e1
 ·injection he with e1 e2 e3
  have e4:=Option.some.inj e1
  injection e4 with e5 _ _
  subst e5 e3
  have hB:Blk w g 64 cur.toList:=by unfold Blk;rw[hg]
  have hB2:=(hB.set (k * 2) (.slice x.2.a x.1.k.length x.2.c)).set (k * 2+1) (.slice x.2.b x.1.v.length x.2.d)
  have hll:(L.set k x).length=L.length:=List.length_set
  unfold OwnN
  rw[hll]
  refine⟨by rw[ets_length,hll],.inr ⟨g,cap,((cur.toList.set (k * 2) (.slice x.2.a x.1.k.length x.2.c)).set (k * 2+1) (.slice x.2.b x.1.v.length x.2.d)).toArray,rfl,hb,hB2,hle,hmax,?_,?_⟩⟩
  ·rw[List.size_toArray,List.length_set,List.length_set,Array.length_toList,hsz]
  ·have htk2:cur.toList.take (L.length * 2)=ets L:=htk
   rw[List.toList_toArray,List.take_set,List.take_set,htk2,ets_set]
theorem list_copy_run {ops:Array Oper}{rest:List Oper}{o:Oper}{a:Act}{Q:Exit→Act→World→Prop}(w:World)(hgd:o.guard=none)(s x:Operand)(t u ty:TypeId)
  (ho:o.op=.call { callee:=.builtin .copy,args:=#[s,x],argTypes:=#[t,u] }) (hty:o.type=ty) (v v2:Value) (hs:a.eval s=v) (hx:a.eval x=v2) {v':Value} {w':World}
  (hr:(Builtin.copy_ #[t,u] ty #[v,v2]).run Tryz.prog w=.ok v' w') (h:wpList Tryz.prog ops Q rest (a.put o.dst v') w'):wpList Tryz.prog ops Q (o::rest) a w :=
 wpList_plain hgd fun _ hK=>by
  subst hty
  unfold Oper.wp execOp
  simp only[ho,resolve,invoke,builtin,Sem.run_bind,Sem.run_pure,Result.andThen_ok,List.map_toArray,List.map_cons,List.map_nil,hs,hx,hr]
  exact hK _ _ h
theorem step_copy_run {ops:Array Oper}{o:Oper}{a:Act}{K:Act→World→Prop}{Q:Exit→Act→World→Prop}{E:Prop}(w:World)(hgd:o.guard=none)(s x:Operand)(t u ty:TypeId)
  (ho:o.op=.call { callee:=.builtin .copy,args:=#[s,x],argTypes:=#[t,u] }) (hty:o.type=ty) (v v2:Value) (hs:a.eval s=v) (hx:a.eval x=v2) {v':Value} {w':World}
  (hr:(Builtin.copy_ #[t,u] ty #[v,v2]).run Tryz.prog w=.ok v' w') (d:Tmp) (hd:o.dst=some d) (h:K (a.put (some d) v') w'):if Region.wanted o (yielded ops a.tmps)=true then Oper.wp Tryz.prog o a w K Q else E:=by
 have hw:Region.wanted o (yielded ops a.tmps)=true:=by simp[Region.wanted,hgd]
 rw[if_pos hw]
 subst hty
 unfold Oper.wp execOp
 simp only[ho,resolve,invoke,builtin,Sem.run_bind,Sem.run_pure,Result.andThen_ok,List.map_toArray,List.map_cons,List.map_nil,hs,hx,hr]
 rw[←hd] at h
 exact h
abbrev rtE13:RT Eq3:=⟨50,64,2,48,.agg #[.slice none 0 0,.slice none 0 0],fun x=>etc2 x.1 x.2⟩
theorem okE13:RtOK rtE13 :=
 ⟨Tryz.underlying50,by kernel_rfl,rfl,by intro u hu;simp[Value.cells] at hu;rcases hu with rfl|rfl<;>rfl,by decide,by decide,fun _=>rfl,by
  intro x u hu
  simp only[etc2,List.mem_cons,List.not_mem_nil,or_false] at hu
  rcases hu with rfl|rfl<;>rfl⟩
abbrev rtI13:RT Int:=⟨58,3,1,8,.int .i64 0,fun z=>[.int .i64 z]⟩
theorem okI13:RtOK rtI13 :=
 ⟨Tryz.underlying58,by kernel_rfl,rfl,by intro u hu;simp[Value.cells] at hu;subst hu;rfl,by decide,by decide,fun _=>rfl,by
  intro x u hu
  simp only[List.mem_cons,List.not_mem_nil,or_false] at hu
  subst hu;rfl⟩
theorem ets_cells:∀l:List Eq3,ets l=cellsC rtE13 l
 | []=>rfl
 | x::l=>by rw[ets,ets_cells l];rfl
theorem OwnN.c {w:World}{base:Nat}{v:Value}{l:List Eq3}(h:OwnN w base v l):OwnRw rtE13 w base v l:=by unfold OwnRw;rw[←ets_cells];exact h
theorem OwnRw.n13 {w:World}{base:Nat}{v:Value}{l:List Eq3}(h:OwnRw rtE13 w base v l):OwnN w base v l:=by unfold OwnN;rw[ets_cells];exact h
theorem zv_cells:∀l:List Int,zv l=cellsC rtI13 l
 | []=>rfl
 | x::l=>by
  have:=zv_cells l
  show _::zv l=_
  rw[this];rfl
theorem OwnZ.c {w:World}{base:Nat}{v:Value}{l:List Int}(h:OwnZ w base v l):OwnRw rtI13 w base v l:=by unfold OwnRw;rw[←zv_cells];exact h
theorem OwnRw.z13 {w:World}{base:Nat}{v:Value}{l:List Int}(h:OwnRw rtI13 w base v l):OwnZ w base v l:=by unfold OwnZ;rw[zv_cells];exact h
theorem frozen_end {w:World}{B t:Nat}{cs:List Value}(h:Blk w B t cs):w.frozen? { block:=B,off:=cs.length }=false:=by
 have:=h.frozen cs.length
 exact this
theorem overlapsE (w:World)(B g o:Nat)(cs:List Value)(cur:Array Value)(la ca lb cb:Nat)(hB:Blk w B 64 cs)(hg:w.heap[g]?=some (.cells cur 64 (0,0)))(hc:cur.size≠0)(hne:B≠g):
  (callFunc 178 #[.slice (some ⟨B,0,none⟩) la ca,.slice (some ⟨g,o,none⟩) lb cb]).run Tryz.prog w=.ok (.value (.bool false)) w:=by
 have hz:∀W,(Go.sizeOf 64).run Tryz.prog W=.ok 2 W:=fun W=>by
  obtain⟨i0,hi,hz0,hz1,hz2⟩:=info_parts infoN
  simp[sizeOf,typeInfo,hi,hz1]
 rw[run_callFunc_extern Tryz.func178 (by kernel_rfl) (by kernel_rfl) (by kernel_rfl) (e:=Extern.SlicesOverlaps.overlaps #[50,50] #[4]) (by kernel_rfl),
  Lib.run_overlaps_apart w 50 4 64 Tryz.underlying50 2 hz ⟨B,0,none⟩ ⟨g,o,none⟩ la ca lb cb hne 64 64 cs.length cur.size (by unfold World.shape?;rw[hB];simp) (by unfold World.shape?;rw[hg]) hc (hB.frozen 0) (frozen_end hB)]
 rfl
theorem overlapsI (w:World)(B g o:Nat)(cs:List Value)(cur:Array Value)(la ca lb cb:Nat)(hB:Blk w B 3 cs)(hg:w.heap[g]?=some (.cells cur 3 (0,0)))(hc:cur.size≠0)(hne:B≠g):
  (callFunc 147 #[.slice (some ⟨B,0,none⟩) la ca,.slice (some ⟨g,o,none⟩) lb cb]).run Tryz.prog w=.ok (.value (.bool false)) w:=by
 have hz:∀W,(Go.sizeOf 3).run Tryz.prog W=.ok 1 W:=fun W=>by
  obtain⟨i0,hi,hz0,hz1,hz2⟩:=info_parts okI13.hi
  simp[sizeOf,typeInfo,hi,hz1]
 rw[run_callFunc_extern Tryz.func147 (by kernel_rfl) (by kernel_rfl) (by kernel_rfl) (e:=Extern.SlicesOverlaps.overlaps #[58,58] #[4]) (by kernel_rfl),
  Lib.run_overlaps_apart w 58 4 3 Tryz.underlying58 1 hz ⟨B,0,none⟩ ⟨g,o,none⟩ la ca lb cb hne 3 3 cs.length cur.size (by unfold World.shape?;rw[hB];simp) (by unfold World.shape?;rw[hg]) hc (hB.frozen 0) (frozen_end hB)]
 rfl
theorem codInsertE (w:World)(base:Nat)(a:Option Addr)(n cap i B:Nat)(L:List Eq3)(x:Eq3)(hn:L.length=n)(h:OwnRw rtE13 w base (.slice a n cap) L)(hB:Blk w B 64 (rtE13.c x))(hi:i≤n)(hb:n≤1000)(hc:cap≤9223372036854775807)(hlo:base≤w.heap.size)(hne:∀g,a=some ⟨g,0,none⟩→B≠g):
  Calls Tryz.prog 144 #[.slice a n cap,.int .i64 (i:Int),.slice (some ⟨B,0,none⟩) 1 1] w fun e w'=>(∃v',e=.returned v'∧OwnRw rtE13 w' base v' (L.take i++x::L.drop i))∧w.grownBy w' (Value.slice a n cap).ownBlock:=by
 rcases Nat.lt_or_ge i n with hin|hin
 rotate_left
 ·obtain rfl:i=n:=by omega
  have hsl:∀W,(Instr.slice 50 (.slice a i cap) (some (.int .i64 (i:Int))) none none).run Tryz.prog W=.ok (.slice (cutC rtE13 a cap i) (i-i) (cap-i)) W:=fun W=>slLC okE13 a i cap i (Nat.le_refl _) W
  have HO:=mkHid h
  have HS:Hid (SrcC rtE13 w (some ⟨B,0,none⟩) 1 1 [x]):=hB.srcC
  have HLn:Hid (L.take i++x::L.drop i=L++[x]):=by unfold Hid;rw[←hn,List.take_length,List.drop_length]
  have HLl:=mkHid hn
  rw[HLn.out]
  clear h hB hn
  generalize cutC rtE13 a cap i=ca at *
  generalize i-i=c0 at *
  generalize cap-i=cc at *
  go_enter Tryz.func144,Tryz.ntmps144
  go_wp2_with (at_builtin;refine list_appC okE13 _ rfl (.tmp 23) (.tmp 24) rfl base _ L rfl HO.out (some ⟨B,0,none⟩) 1 1 [x] rfl HS.out (by rw[HLl.out];show (i+1) * 48≤_;omega) hlo ?_;intro v2 V2 ho2 hg2;have HO2:=mkHid ho2;have HG2:=mkHid hg2;clear ho2 hg2)
  go_ret
  exact⟨⟨_,rfl,HO2.out⟩,HG2.out⟩
 obtain⟨a',cap',he,hle,-,hcl⟩:=h.form okE13
 injection he with e1 e2 e3
 subst e1 e3
 clear e2
 obtain⟨g,rfl,hg0,hgl,-⟩:=hcl (by omega)
 have hBg:=hne g rfl
 have hlc:n≤cap:=by omega
 have hne1:((i:Int)==(n:Int))=false:=by rw[beq_eq_false_iff_ne];omega
 have hsl1:∀W,(Instr.slice 50 (.slice (some ⟨g,0,none⟩) n cap) (some (.int .i64 (i:Int))) none none).run Tryz.prog W=.ok (.slice (cutC rtE13 (some ⟨g,0,none⟩) cap i) (n-i) (cap-i)) W:=fun W=>slLC okE13 (some ⟨g,0,none⟩) n cap i hi W
 by_cases hroom:n+1≤cap
 ·have hgt:decide ((cap:Int)<(n:Int)+1)=false:=decide_eq_false (by omega)
  obtain⟨w1,w2,r1,r2,ho,hgb⟩:=ins_room okE13 (w:=w.drew) (h.on (Below.drew (Below.refl _ w))) hin hroom (show Blk w.drew B 64 (rtE13.c x) from hB) hBg 3 3
  have hslH:∀W,(Instr.slice 50 (.slice (some ⟨g,0,none⟩) n cap) none (some (.int .i64 ((n:Int)+1))) none).run Tryz.prog W=.ok (.slice (some ⟨g,0,none⟩) (n+1) cap) W:=fun W=>slHC okE13 (some ⟨g,0,none⟩) n cap (n+1) hroom W
  have hslA:∀W,(Instr.slice 50 (.slice (some ⟨g,0,none⟩) (n+1) cap) (some (.int .i64 ((i:Int)+1))) none none).run Tryz.prog W=.ok (.slice (cutC rtE13 (some ⟨g,0,none⟩) cap (i+1)) (n+1-(i+1)) (cap-(i+1))) W:=fun W=>slLC okE13 (some ⟨g,0,none⟩) (n+1) cap (i+1) (by omega) W
  have hslB:∀W,(Instr.slice 50 (.slice (some ⟨g,0,none⟩) (n+1) cap) (some (.int .i64 (i:Int))) none none).run Tryz.prog W=.ok (.slice (cutC rtE13 (some ⟨g,0,none⟩) cap i) (n+1-i) (cap-i)) W:=fun W=>slLC okE13 (some ⟨g,0,none⟩) (n+1) cap i (by omega) W
  have hc1:cutC rtE13 (some ⟨g,0,none⟩) cap (i+1)=some ⟨g,(i+1) * rtE13.k,none⟩:=cutC_some (by omega)
  obtain⟨cur,-,hgc,-,-,-,hsz,-⟩:=h.cur
  have hov:∀lb cb,(callFunc 178 #[.slice (some ⟨B,0,none⟩) 1 1,.slice (cutC rtE13 (some ⟨g,0,none⟩) cap (i+1)) lb cb]).run Tryz.prog w=.ok (.value (.bool false)) w:=fun lb cb=>by
   rw[hc1]
   exact overlapsE w B g ((i+1) * rtE13.k) (rtE13.c x) cur 1 1 lb cb hB hgc (by rw[hsz];show cap * 2≠0;omega) hBg
  have hw1:IntKind.i64.wrap ((i:Int)+1)=(i:Int)+1:=wrapi64_in _ (by omega) (by omega)
  have HO:=mkHid ho
  have HG:=mkHid hgb
  have HR1:=mkHid r1
  have HR2:=mkHid r2
  have Hnl:=mkHid hn
  clear h hB hn ho hgb r1 r2 hcl hg0 hgl hlo hle hne hroom hc1 hgc hsz
  generalize cutC rtE13 (some ⟨g,0,none⟩) cap i=cA at *
  generalize cutC rtE13 (some ⟨g,0,none⟩) cap (i+1)=cB at *
  generalize n-i=q1 at *
  generalize cap-i=q2 at *
  generalize n+1-(i+1)=q3 at *
  generalize cap-(i+1)=q4 at *
  generalize n+1-i=q5 at *
  generalize L.take i++x::L.drop i=L' at *
  go_enter Tryz.func144,Tryz.ntmps144
  go_upto_region 15 with fail
  refine lk0 (fun _=>True) 8 trivial (fun hHeld=>?_)
  refine lkC [4] 69 0 ?_ rfl (Or.inl ⟨by rfl,?_⟩) hHeld ?_
  rotate_left
  ·intro w hSw;go_simp;with_reducible rfl
  (try simp only[Act.put,sIx,sZ0,sZ1])
  refine lkC [3,4] 70 1 ?_ rfl (Or.inl ⟨by rfl,?_⟩) hHeld ?_
  rotate_left
  ·intro w hSw;go_simp;with_reducible rfl
  (try simp only[Act.put,sIx,sZ0,sZ1])
  refine lkC [3,4] 71 2 ?_ rfl (Or.inl ⟨by rfl,?_⟩) hHeld ?_
  rotate_left
  ·intro w hSw;go_simp;with_reducible rfl
  (try simp only[Act.put,sIx,sZ0,sZ1])
  refine lkC [4] 72 3 (.int .i64 ((i:Int)+1)) rfl (Or.inl ⟨by rfl,?_⟩) hHeld ?_
  ·intro w hSw;go_simp<;>(try rw[hw1])
  (try simp only[Act.put,sIx,sZ0,sZ1])
  refine lkC [] 73 4 (.slice cB q3 q4) rfl (Or.inl ⟨by rfl,?_⟩) hHeld ?_
  ·intro w hSw;go_simp
  (try simp only[Act.put,sIx,sZ0,sZ1])
  refine lkC [7] 74 5 ?_ rfl (Or.inl ⟨by rfl,?_⟩) hHeld ?_
  rotate_left
  ·intro w hSw;go_simp;with_reducible rfl
  (try simp only[Act.put,sIx,sZ0,sZ1])
  refine lkC [7] 75 6 ?_ rfl (Or.inl ⟨by rfl,?_⟩) hHeld ?_
  rotate_left
  ·intro w hSw;go_simp;with_reducible rfl
  (try simp only[Act.put,sIx,sZ0,sZ1])
  refine lkC [] 76 7 (.slice cA q5 q2) rfl (Or.inl ⟨by rfl,?_⟩) hHeld ?_
  ·intro w hSw;go_simp
  (try simp only[Act.put,sIx,sZ0,sZ1])
  refine lkZ rfl (fun K hK=>?_)
  refine step_copy_run w.drew (by rfl) _ _ 50 50 3 (by rfl) (by rfl) _ _ (by rfl) (by rfl) HR1.out 77 rfl ?_
  refine hK.out _ _ ?_
  simp only[Exit.then]
  (try simp only[Act.put,sIx,sZ0,sZ1])
  clear hK K hHeld
  go_wp2_with (refine list_copy_run _ rfl _ _ _ _ _ rfl rfl _ _ rfl rfl HR2.out ?_)
  go_ret
  exact⟨⟨_,rfl,HO.out⟩,(grown_tr (⟨rfl,rfl,rfl,Nat.le_refl _,fun _ _ _=>rfl⟩:w.grownBy w.drew (some g)) HG.out)⟩
 ·obtain rfl:cap=n:=by omega
  have hgt:decide ((cap:Int)<(cap:Int)+1)=true:=decide_eq_true (by omega)
  obtain⟨w1,w2,w3,cap2,H,hcap2,r0,r1,r2,ho,hbe⟩:=ins_grow okE13 3 Tryz.underlying3 h hin hB hlo (by show (cap+1) * 48≤_;omega) 50 3 3
  have hsub:((cap+1-i:Nat):Int)=(cap:Int)+1-(i:Int):=by omega
  rw[hsub] at r0
  have hslH:∀W,(Instr.slice 50 (.slice (some ⟨g,0,none⟩) cap cap) none (some (.int .i64 (i:Int))) none).run Tryz.prog W=.ok (.slice (some ⟨g,0,none⟩) i cap) W:=fun W=>slHC okE13 (some ⟨g,0,none⟩) cap cap i (by omega) W
  have hslA:∀W,(Instr.slice 50 (.slice (some ⟨H,0,none⟩) (cap+1) cap2) (some (.int .i64 (i:Int))) none none).run Tryz.prog W=.ok (.slice (cutC rtE13 (some ⟨H,0,none⟩) cap2 i) (cap+1-i) (cap2-i)) W:=fun W=>slLC okE13 (some ⟨H,0,none⟩) (cap+1) cap2 i (by omega) W
  have hslB:∀W,(Instr.slice 50 (.slice (some ⟨H,0,none⟩) (cap+1) cap2) (some (.int .i64 ((i:Int)+1))) none none).run Tryz.prog W=.ok (.slice (cutC rtE13 (some ⟨H,0,none⟩) cap2 (i+1)) (cap+1-(i+1)) (cap2-(i+1))) W:=fun W=>slLC okE13 (some ⟨H,0,none⟩) (cap+1) cap2 (i+1) (by omega) W
  have hw1:IntKind.i64.wrap ((i:Int)+1)=(i:Int)+1:=wrapi64_in _ (by omega) (by omega)
  have HO:=mkHid ho
  have HB:=mkHid hbe
  have HR0:=mkHid r0
  have HR1:=mkHid r1
  have HR2:=mkHid r2
  have Hnl:=mkHid hn
  clear h hB hn ho hbe r0 r1 r2 hcl hg0 hgl hlo hle hne hroom hlc hsub hcap2
  generalize cutC rtE13 (some ⟨g,0,none⟩) cap i=cA at *
  generalize cutC rtE13 (some ⟨H,0,none⟩) cap2 i=cB at *
  generalize cutC rtE13 (some ⟨H,0,none⟩) cap2 (i+1)=cC at *
  generalize cap-i=q1 at *
  generalize cap+1-(i+1)=q3 at *
  generalize cap2-(i+1)=q4 at *
  generalize cap+1-i=q5 at *
  generalize cap2-i=q6 at *
  generalize L.take i++x::L.drop i=L' at *
  go_enter Tryz.func144,Tryz.ntmps144
  go_upto_region 11 with(first|(at_builtin;refine Lib.wpList_append_run _ rfl _ _ _ _ rfl _ _ rfl rfl _ _ HR0.out ?_)|(refine list_copy_run _ rfl _ _ _ _ _ rfl rfl _ _ rfl rfl HR1.out ?_))
  refine lk0 (fun _=>True) 8 trivial (fun hHeld=>?_)
  refine lkC [4] 46 0 ?_ rfl (Or.inl ⟨by rfl,?_⟩) hHeld ?_
  rotate_left
  ·intro w hSw;go_simp;with_reducible rfl
  (try simp only[Act.put,sIx,sZ0,sZ1])
  refine lkC [3,4] 47 1 ?_ rfl (Or.inl ⟨by rfl,?_⟩) hHeld ?_
  rotate_left
  ·intro w hSw;go_simp;with_reducible rfl
  (try simp only[Act.put,sIx,sZ0,sZ1])
  refine lkC [3,4] 48 2 ?_ rfl (Or.inl ⟨by rfl,?_⟩) hHeld ?_
  rotate_left
  ·intro w hSw;go_simp;with_reducible rfl
  (try simp only[Act.put,sIx,sZ0,sZ1])
  refine lkC [4] 49 3 (.int .i64 ((i:Int)+1)) rfl (Or.inl ⟨by rfl,?_⟩) hHeld ?_
  ·intro w hSw;go_simp<;>(try rw[hw1])
  (try simp only[Act.put,sIx,sZ0,sZ1])
  refine lkC [] 50 4 (.slice cC q3 q4) rfl (Or.inl ⟨by rfl,?_⟩) hHeld ?_
  ·intro w hSw;go_simp
  (try simp only[Act.put,sIx,sZ0,sZ1])
  refine lkC [7] 51 5 ?_ rfl (Or.inl ⟨by rfl,?_⟩) hHeld ?_
  rotate_left
  ·intro w hSw;go_simp;with_reducible rfl
  (try simp only[Act.put,sIx,sZ0,sZ1])
  refine lkC [7] 52 6 ?_ rfl (Or.inl ⟨by rfl,?_⟩) hHeld ?_
  rotate_left
  ·intro w hSw;go_simp;with_reducible rfl
  (try simp only[Act.put,sIx,sZ0,sZ1])
  refine lkC [] 53 7 (.slice cA q1 q1) rfl (Or.inl ⟨by rfl,?_⟩) hHeld ?_
  ·intro w hSw;go_simp
  (try simp only[Act.put,sIx,sZ0,sZ1])
  refine lkZ rfl (fun K hK=>?_)
  refine step_copy_run w2.drew (by rfl) _ _ 50 50 3 (by rfl) (by rfl) _ _ (by rfl) (by rfl) HR2.out 54 rfl ?_
  refine hK.out _ _ ?_
  simp only[Exit.then]
  (try simp only[Act.put,sIx,sZ0,sZ1])
  clear hK K hHeld
  go_wp2_with fail
  go_ret
  exact⟨⟨_,rfl,HO.out⟩,⟨HB.out.1,HB.out.2,HB.out.3,HB.out.4,fun k hk _=>HB.out.5 k hk⟩⟩
end
end Go.Proofs.YtpecobmfabmpkaaGreatDoor
