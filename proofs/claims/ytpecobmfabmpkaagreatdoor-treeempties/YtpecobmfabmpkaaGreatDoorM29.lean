/- PuD PvM Tp6 -/
import Derived.Test.YtpecobmfabmpkaaGreatDoorM28
set_option maxRecDepth 20000
set_option maxHeartbeats 4000000
namespace Go.Proofs.YtpecobmfabmpkaaGreatDoor
open Go.RowKit
variable {fl:Nat}
theorem EtP.below {w w':World}{e:Et}{q:EtA}(h:EtP w e q)(hb:Below w.heap.size w w'):EtP w' e q:=h.keep (KeepO.of_below hb)
theorem KeepT.more {ts us:List TypeId}{w w':World}(h:KeepT ts w w')(hs:∀t∈ts,t∈us):KeepT us w w':=⟨h.size,fun k o hk ho=>h.same k o hk (fun c t fz e ht=>ho c t fz e (hs t ht))⟩
theorem set_row {L:List Eq3}{k:Nat}(x:Eq3)(h:k<L.length):L.set k x=L.take k++x::L.drop (k+1):=List.set_eq_take_append_cons_drop.trans (if_pos h)
def SetPost (fl:Nat)(w w':World)(base Bp:Nat)(at_:Int)(vk:Value)(l:List Et)(key val:List UInt8):Prop :=
 ∃ve' L',Blk w' Bp 133 [.int .i64 at_,.int .i64 0,ve',vk]∧OwnN w' base ve' L'∧L'.map Prod.fst=putE13 l key val∧(∀x∈L',EtQ fl w' x.1 x.2)∧KeepT [133,64] w w'∧Below base w w'∧∀B cs,B≠Bp→Blk w B 133 cs→Blk w' B 133 cs
theorem codSet13 (w:World)(Bp base:Nat)(at_:Int)(ve vk:Value)(L:List Eq3)(e:Et)(q:EtA)(hB:Blk w Bp 133 [.int .i64 at_,.int .i64 0,ve,vk])(ho:OwnN w base ve L)(hx:∀x∈L,EtP w x.1 x.2)(hs:SrtE (L.map Prod.fst))(he:EtQ fl w e q)(hn:L.length≤400)(hlo:base≤w.heap.size)(hbb:base≤Bp)(hfl:fl≤base:=by omega):
  Calls Tryz.prog 103 #[.pointer (some ⟨Bp,0,none⟩),.agg (etc2 e q).toArray] w fun r w'=>r=.returned (.tuple #[])∧SetPost fl w w' base Bp at_ vk (L.map Prod.fst) e.k e.v:=by
 obtain⟨ea,ec,rfl,hle,hea,-⟩:=ho.form
 have W1:Below w.heap.size w (w.alloc (.cells (etc2 e q).toArray 64)):=(Below.refl _ w).alloc (Nat.le_refl _) _
 have kE:=Blk.new w 64 (etc2 e q)
 have kP:=hB.alloc (.cells (etc2 e q).toArray 64)
 have hBl:=hB.lt
 have hEis:=he.is
 have HFd:Hid (∀W,Below w.heap.size w W→Calls Tryz.prog 74 #[.agg (pgc at_ 0 (.slice ea L.length ec) vk).toArray,.slice q.a e.k.length q.c] W fun r w'=>r=.returned (.tuple #[.int .i64 (atE (L.map Prod.fst) e.k:Int),.bool (hasE13 (L.map Prod.fst) e.k)])∧Below W.heap.size W w'):=fun W hW =>
  codFind13 at_ 0 _ vk L q.a e.k.length q.c e.k W (((ho.rd hx).keep (KeepU.of_below hW):RdN 0 W _ _)) hs (((he.below hW).is).k) (by omega)
 have hal:=atE_le (L.map Prod.fst) e.k
 rw[List.length_map] at hal
 have HPut:Hid (putE13 (L.map Prod.fst) e.k e.v=(L.map Prod.fst).take (atE (L.map Prod.fst) e.k)++⟨e.k,e.v⟩::(if hasE13 (L.map Prod.fst) e.k=true then (L.map Prod.fst).drop (atE (L.map Prod.fst) e.k+1) else (L.map Prod.fst).drop (atE (L.map Prod.fst) e.k))):=rfl
 have HHas:Hid (hasE13 (L.map Prod.fst) e.k=true→atE (L.map Prod.fst) e.k<L.length):=fun h=>by
  have h2:isE (L.map Prod.fst) (atE (L.map Prod.fst) e.k) e.k=true:=h
  unfold isE at h2
  rw[Bool.and_eq_true] at h2
  have:=of_decide_eq_true h2.1
  rw[List.length_map] at this
  exact this
 have HO:=mkHid ho
 have HX:=mkHid hx
 have HE:=mkHid he
 have HB:=mkHid hB
 obtain⟨k,hk⟩:∃k,k=atE (L.map Prod.fst) e.k:=⟨_,rfl⟩
 obtain⟨hh,hhh⟩:∃b,b=hasE13 (L.map Prod.fst) e.k:=⟨_,rfl⟩
 rw[←hk,←hhh] at HPut HHas
 rw[←hk] at hal
 simp only[←hk,←hhh] at HFd
 obtain⟨n,hnn⟩:∃n,n=L.length:=⟨_,rfl⟩
 rw[←hnn] at hal hn hle HHas
 have HN:=mkHid hnn
 simp only[←hnn] at HFd
 have HOn:Hid (OwnN w base (.slice ea n ec) L):=by unfold Hid;rw[hnn];exact HO.out
 rw[←hnn] at HB kP
 clear HO hk hhh ho hx he hs hB hnn
 obtain⟨key,val⟩:=e
 obtain⟨qa,qc,qb,qd⟩:=q
 unfold etc2 pgc at *
 simp only at *
 obtain⟨kn,hkn⟩:∃x,x=key.length:=⟨_,rfl⟩
 obtain⟨vn,hvn⟩:∃x,x=val.length:=⟨_,rfl⟩
 rw[←hkn] at HFd
 rw[←hkn,←hvn] at W1 kE kP ⊢
 have HKn:=mkHid hkn
 have HVn:=mkHid hvn
 clear hkn hvn hEis
 generalize hY:w.alloc (.cells #[.slice qa kn qc,.slice qb vn qd] 64)=Y0 at *
 have HCt:∀W,Below Y0.heap.size Y0 W→W.cell? ⟨Bp,0,none⟩=some (.int .i64 at_)∧W.cell? ⟨Bp,1,none⟩=some (.int .i64 0)∧W.cell? ⟨Bp,2,none⟩=some (.slice ea n ec)∧W.cell? ⟨Bp,3,none⟩=some vk∧W.cell? ⟨w.heap.size,0,none⟩=some (.slice qa kn qc)∧W.cell? ⟨w.heap.size,1,none⟩=some (.slice qb vn qd):=fun W hW =>
  ⟨(kP.on hW).cell 0,(kP.on hW).cell 1,(kP.on hW).cell 2,(kP.on hW).cell 3,(kE.on hW).cell 0,(kE.on hW).cell 1⟩
 have hD:Below Y0.heap.size Y0 Y0.drew:=(Below.refl _ Y0).drew
 have HW1:=mkHid W1
 have KP:=mkHid kP
 have KE:=mkHid kE
 have HFc:=HFd.out Y0.drew (W1.trans (hD.mono W1.size))
 clear W1 kP kE HFd
 go_enter Tryz.func103,Tryz.ntmps103
 go_upto_region 1 with fail
 (try rw[hY])
 clear hY
 refine lk0 (fun w'=>w'.cell? ⟨Bp,0,none⟩=some (.int .i64 at_)∧w'.cell? ⟨Bp,1,none⟩=some (.int .i64 0)∧w'.cell? ⟨Bp,2,none⟩=some (.slice ea n ec)∧w'.cell? ⟨Bp,3,none⟩=some vk∧w'.cell? ⟨w.heap.size,0,none⟩=some (.slice qa kn qc)∧w'.cell? ⟨w.heap.size,1,none⟩=some (.slice qb vn qd)) 10 (HCt _ hD) (fun hHeld=>?_)
 refine lkT 7 0 (.pointer (some ⟨Bp,0,none⟩)) rfl (Or.inl ⟨by rfl,?_⟩) hHeld ?_
 ·intro w hSw;go_simp
 (try simp only[Act.put,sIx,sZ0,sZ1])
 refine lkT 8 1 (.pointer (some ⟨Bp,0,none⟩)) rfl (Or.inl ⟨by rfl,?_⟩) hHeld ?_
 ·intro w hSw;go_simp
 (try simp only[Act.put,sIx,sZ0,sZ1])
 refine lkT 9 2 (.agg #[.int .i64 at_,.int .i64 0,.slice ea n ec,vk]) rfl (Or.inl ⟨by rfl,?_⟩) hHeld ?_
 ·intro w hSw;obtain⟨s0,s1,s2,s3,s4,s5⟩:=hSw;go_simp
 (try simp only[Act.put,sIx,sZ0,sZ1])
 refine lkT 10 3 (.pointer (some ⟨w.heap.size,0,none⟩)) rfl (Or.inl ⟨by rfl,?_⟩) hHeld ?_
 ·intro w hSw;go_simp
 (try simp only[Act.put,sIx,sZ0,sZ1])
 refine lkT 11 4 (.slice qa kn qc) rfl (Or.inl ⟨by rfl,?_⟩) hHeld ?_
 ·intro w hSw;obtain⟨s0,s1,s2,s3,s4,s5⟩:=hSw;go_simp
 (try simp only[Act.put,sIx,sZ0,sZ1])
 refine lk1 5 rfl (fun K hK=>?_)
 go_simp
 refine HFc.mono ?_
 rintro r y1 ⟨rfl,hb1⟩
 go_simp
 have hbx:=hD.trans (hb1.mono hD.size)
 refine hK.out _ _ (HCt _ hbx) (fun hHeld=>?_)
 (try simp only[Act.put,sIx,sZ0,sZ1])
 clear hK K HFc hb1
 refine lkT 6 6 (.tuple #[.int .i64 (k:Int),.bool hh]) rfl (Or.inl ⟨by rfl,?_⟩) hHeld ?_
 ·intro w hSw;go_simp
 (try simp only[Act.put,sIx,sZ0,sZ1])
 refine lkT 13 7 (.int .i64 (k:Int)) rfl (Or.inl ⟨by rfl,?_⟩) hHeld ?_
 ·intro w hSw;go_simp
 (try simp only[Act.put,sIx,sZ0,sZ1])
 refine lkT 14 8 (.bool hh) rfl (Or.inl ⟨by rfl,?_⟩) hHeld ?_
 ·intro w hSw;go_simp
 (try simp only[Act.put,sIx,sZ0,sZ1])
 refine lkT 4 9 (.int .i64 (k:Int)) rfl (Or.inl ⟨by rfl,?_⟩) hHeld ?_
 ·intro w hSw;go_simp
 (try simp only[Act.put,sIx,sZ0,sZ1])
 refine lkZ rfl (fun K hK=>?_)
 go_simp
 refine hK.out _ _ ?_
 simp only[Exit.then]
 (try simp only[Act.put,sIx,sZ0,sZ1])
 clear hK K hHeld
 have HB1:=mkHid (HW1.out.trans (hbx.mono HW1.out.size))
 have KP1:=mkHid (KP.out.on hbx)
 have KE1:=mkHid (KE.out.on hbx)
 have hc:=HCt y1 hbx
 have HCt2:Hid (∀W,Below y1.heap.size y1 W→W.cell? ⟨Bp,0,none⟩=some (.int .i64 at_)∧W.cell? ⟨Bp,1,none⟩=some (.int .i64 0)∧W.cell? ⟨Bp,2,none⟩=some (.slice ea n ec)∧W.cell? ⟨Bp,3,none⟩=some vk∧W.cell? ⟨w.heap.size,0,none⟩=some (.slice qa kn qc)∧W.cell? ⟨w.heap.size,1,none⟩=some (.slice qb vn qd)):=fun W hW=>HCt W (hbx.trans (hW.mono hbx.size))
 have hk0:(0:Int)≤(k:Int):=by omega
 clear HCt hD hbx HW1 KP KE
 have hD:Below y1.heap.size y1 y1.drew:=(Below.refl _ y1).drew
 have HOy:=mkHid (HOn.out.on HB1.out)
 have HXy:Hid (∀x∈L,EtP y1 x.1 x.2):=fun x hxm=>(HX.out x hxm).below HB1.out
 have HEy:=mkHid (HE.out.below HB1.out)
 cases hh with
 | true =>
  have hkn:=HHas.out rfl
  have hkn':(k:Int)<(n:Int):=by omega
  obtain⟨g,rfl,hg0,hgl,-⟩:=HOy.out.at_ k (by rw[←HN.out];exact hkn)
  have hne:g≠Bp:=fun e2=>by
   subst e2
   rcases HOy.out.2 with⟨h1,_⟩|⟨g2,_,cur,h3,_,h5,_⟩
   ·injection h1 with h1 _ _;cases h1
   ·injection h3 with h3 _ _
    have h4:=Option.some.inj h3
    injection h4 with h4 _ _
    subst h4
    have h6:y1.heap[g]?=some (.cells _ 133 (0,0)):=KP1.out
    rw[h5] at h6
    injection h6 with h6
    injection h6 with _ h6 _
    exact absurd h6 (by decide)
  have hOw:OwnN y1 base (.slice (some ⟨g,0,none⟩) L.length ec) L:=by rw[←HN.out];exact HOy.out
  have hc1:=(hOw.c.cur)
  obtain⟨cur,-,hgc,-,hlec,-,hszc,-⟩:=hc1
  have hcs:∀j,j<2→(y1.drew.cell? ⟨g,k * 2+j,none⟩).isSome=true:=fun j hj=>by
   rw[cell_of_row y1.drew g _ cur 64 (0,0) hgc]
   have:k * 2+j<cur.size:=by
    rw[hszc]
    have:(k+1) * 2≤ec * 2:=Nat.mul_le_mul_right _ (by omega)
    show _<ec * 2
    omega
   simp[this]
  obtain⟨c0,hc0⟩:=Option.isSome_iff_exists.1 (hcs 0 (by omega))
  obtain⟨c1,hc1⟩:=Option.isSome_iff_exists.1 (hcs 1 (by omega))
  have hf0:∀j,y1.drew.frozen? ⟨g,j,none⟩=false:=fun j=>frozen_of_row y1.drew g j cur 64 hgc
  have f0:=hf0 (k * 2)
  have f1:=hf0 (k * 2+1)
  rw[Nat.add_zero] at hc0
  have hc0:y1.cell? ⟨g,k * 2,none⟩=some c0:=hc0
  have hc1:y1.cell? ⟨g,k * 2+1,none⟩=some c1:=hc1
  have f0:y1.frozen? ⟨g,k * 2,none⟩=false:=f0
  have f1:y1.frozen? ⟨g,k * 2+1,none⟩=false:=f1
  obtain⟨hp1,hp2⟩:=(hOw.on hD).put k ((⟨key,val⟩,⟨qa,qc,qb,qd⟩):Eq3)
  simp only at hp1 hp2
  rw[←HKn.out,←HVn.out] at hp1 hp2
  have HP1:=mkHid hp1
  have HP2:=mkHid hp2
  have HNe:=mkHid hne
  have HG0:=mkHid hg0
  have HGl:=mkHid hgl
  clear hOw hgc hlec hszc hcs hf0 hp1 hp2 hc hne hg0 hgl
  go_upto_region 3 with fail
  refine lk0 (fun w'=>w'.cell? ⟨Bp,0,none⟩=some (.int .i64 at_)∧w'.cell? ⟨Bp,1,none⟩=some (.int .i64 0)∧w'.cell? ⟨Bp,2,none⟩=some (.slice (some ⟨g,0,none⟩) n ec)∧w'.cell? ⟨Bp,3,none⟩=some vk∧w'.cell? ⟨w.heap.size,0,none⟩=some (.slice qa kn qc)∧w'.cell? ⟨w.heap.size,1,none⟩=some (.slice qb vn qd)) 7 (HCt2.out _ hD) (fun hHeld=>?_)
  refine lkT 16 0 (.pointer (some ⟨Bp,0,none⟩)) rfl (Or.inl ⟨by rfl,?_⟩) hHeld ?_
  ·intro w hSw;go_simp
  (try simp only[Act.put,sIx,sZ0,sZ1])
  refine lkT 17 1 (.pointer (some ⟨Bp,0,none⟩)) rfl (Or.inl ⟨by rfl,?_⟩) hHeld ?_
  ·intro w hSw;go_simp
  (try simp only[Act.put,sIx,sZ0,sZ1])
  refine lkT 18 2 (.pointer (some ⟨Bp,2,none⟩)) rfl (Or.inl ⟨by rfl,?_⟩) hHeld ?_
  ·intro w hSw;go_simp
  (try simp only[Act.put,sIx,sZ0,sZ1])
  refine lkT 19 3 (.slice (some ⟨g,0,none⟩) n ec) rfl (Or.inl ⟨by rfl,?_⟩) hHeld ?_
  ·intro w hSw;obtain⟨s0,s1,s2,s3,s4,s5⟩:=hSw;go_simp
  (try simp only[Act.put,sIx,sZ0,sZ1])
  refine lkT 20 4 (.int .i64 (k:Int)) rfl (Or.inl ⟨by rfl,?_⟩) hHeld ?_
  ·intro w hSw;go_simp
  (try simp only[Act.put,sIx,sZ0,sZ1])
  refine lkT 21 5 (.agg #[.slice qa kn qc,.slice qb vn qd]) rfl (Or.inl ⟨by rfl,?_⟩) hHeld ?_
  ·intro w hSw;obtain⟨s0,s1,s2,s3,s4,s5⟩:=hSw;go_simp
  (try simp only[Act.put,sIx,sZ0,sZ1])
  refine lkT 22 6 (.pointer (some ⟨g,k * 2,none⟩)) rfl (Or.inl ⟨by rfl,?_⟩) hHeld ?_
  ·intro w hSw;go_simp
  (try simp only[Act.put,sIx,sZ0,sZ1])
  refine lkZ rfl (fun K hK=>?_)
  go_simp
  refine hK.out _ _ ?_
  simp only[Exit.then]
  (try simp only[Act.put,sIx,sZ0,sZ1])
  clear hK K hHeld
  go_wp2_with fail
  refine bodyPost_ret (results_none rfl _ _ _) rfl ?_
  have hb0:Below base w y1:=HB1.out.mono hlo
  have hb1:=hb0.trans (hD.mono (Nat.le_trans hlo HB1.out.size))
  have hbs:=(hb1.setCell (p:=⟨g,k * 2,none⟩) HG0.out (.slice qa kn qc)).setCell (p:=⟨g,k * 2+1,none⟩) HG0.out (.slice qb vn qd)
  have hk0':KeepT [64] y1.drew ((y1.drew.setCell ⟨g,k * 2,none⟩ (.slice qa kn qc)).setCell ⟨g,k * 2+1,none⟩ (.slice qb vn qd)):=KeepT.grownN (HOy.out.on hD) HP2.out
  have hk1:KeepT [133,64] y1 ((y1.drew.setCell ⟨g,k * 2,none⟩ (.slice qa kn qc)).setCell ⟨g,k * 2+1,none⟩ (.slice qb vn qd)):=(KeepT.of_below hD).trans (hk0'.more (by decide))
  have hkp:Blk ((y1.drew.setCell ⟨g,k * 2,none⟩ (.slice qa kn qc)).setCell ⟨g,k * 2+1,none⟩ (.slice qb vn qd)) Bp 133 [.int .i64 at_,.int .i64 0,.slice (some ⟨g,0,none⟩) n ec,vk]:=((KP1.out.on hD).other _ _ (by exact Ne.symm HNe.out)).other _ _ (by exact Ne.symm HNe.out)
  have hP1:=HP1.out
  rw[←HN.out] at hP1
  refine⟨rfl,_,_,hkp,hP1,?_,fun x hx=>?_,(KeepT.of_below HB1.out).trans hk1,hbs,fun B cs hB hb=>hk0'.blk ((hb.on HB1.out).on hD) (by decide)⟩
  ·rw[HPut.out,if_pos trivial,set_row _ (by rw[←HN.out];exact hkn)]
   simp only[List.map_append,List.map_cons,List.map_take,List.map_drop]
  ·have hku:=KeepO.ofT (us:=UB) hk1 (by decide)
   rcases List.mem_or_eq_of_mem_set hx with h1|h1
   ·exact((HXy.out x h1).keep hku).q fl
   ·rw[h1];exact HE.out.keep (KeepU.ofB (KeepO.ofT ((KeepT.of_below HB1.out).trans hk1) (by decide)) hbs hfl)
 | false =>
  have hcc:ec≤9223372036854775807:=by
   rcases HOy.out.2 with⟨h1,_⟩|⟨g2,cap2,cur,h3,_,_,_,h5,_⟩
   ·injection h1 with _ _ h1;omega
   ·injection h3 with _ _ h3;rw[h3];unfold maxLen at h5;omega
  have hgl:∀g,ea=some ⟨g,0,none⟩→base≤g∧g<w.heap.size:=fun g e2=>by
   have:=HOn.out
   rw[e2] at this
   exact World.ownsRow.lt this g rfl
  have HIn:Hid (∀W,Below y1.heap.size y1 W→Calls Tryz.prog 144 #[.slice ea n ec,.int .i64 (k:Int),.slice (some ⟨W.heap.size,0,none⟩) 1 1] (W.alloc (.cells #[.slice qa kn qc,.slice qb vn qd] 64)) fun r w'=>(∃v',r=.returned v'∧OwnRw rtE13 w' base v' (L.take k++((⟨key,val⟩,⟨qa,qc,qb,qd⟩):Eq3):: L.drop k))∧(W.alloc (.cells #[.slice qa kn qc,.slice qb vn qd] 64)).grownBy w' (Value.slice ea n ec).ownBlock):=fun W hW=>by
   have hAl:=hW.alloc hW.size (.cells #[.slice qa kn qc,.slice qb vn qd] 64)
   have hBk:Blk (W.alloc (.cells #[.slice qa kn qc,.slice qb vn qd] 64)) W.heap.size 64 (rtE13.c ((⟨key,val⟩,⟨qa,qc,qb,qd⟩):Eq3)):=by
    show Blk _ _ _ [.slice qa key.length qc,.slice qb val.length qd]
    rw[←HKn.out,←HVn.out]
    exact Blk.new W _ _
   exact codInsertE _ base ea n ec k W.heap.size L _ HN.out.symm (HOy.out.on hAl).c hBk hal (by omega) hcc (Nat.le_trans hlo (Nat.le_trans HB1.out.size hAl.size)) (fun g e2=>by have h1:=(hgl g e2).2;have h2:=HB1.out.size;have h3:=hW.size;omega)
  have hIn:=HIn.out y1.drew hD
  clear HIn HHas
  go_upto_region 4 with fail
  refine lk0 (fun w'=>w'.cell? ⟨Bp,0,none⟩=some (.int .i64 at_)∧w'.cell? ⟨Bp,1,none⟩=some (.int .i64 0)∧w'.cell? ⟨Bp,2,none⟩=some (.slice ea n ec)∧w'.cell? ⟨Bp,3,none⟩=some vk∧w'.cell? ⟨w.heap.size,0,none⟩=some (.slice qa kn qc)∧w'.cell? ⟨w.heap.size,1,none⟩=some (.slice qb vn qd)) 11 (HCt2.out _ hD) (fun hHeld=>?_)
  refine lkT 23 0 (.pointer (some ⟨Bp,0,none⟩)) rfl (Or.inl ⟨by rfl,?_⟩) hHeld ?_
  ·intro w hSw;go_simp
  (try simp only[Act.put,sIx,sZ0,sZ1])
  refine lkT 24 1 (.pointer (some ⟨Bp,0,none⟩)) rfl (Or.inl ⟨by rfl,?_⟩) hHeld ?_
  ·intro w hSw;go_simp
  (try simp only[Act.put,sIx,sZ0,sZ1])
  refine lkT 25 2 (.pointer (some ⟨Bp,0,none⟩)) rfl (Or.inl ⟨by rfl,?_⟩) hHeld ?_
  ·intro w hSw;go_simp
  (try simp only[Act.put,sIx,sZ0,sZ1])
  refine lkT 26 3 (.pointer (some ⟨Bp,2,none⟩)) rfl (Or.inl ⟨by rfl,?_⟩) hHeld ?_
  ·intro w hSw;go_simp
  (try simp only[Act.put,sIx,sZ0,sZ1])
  refine lkT 27 4 (.slice ea n ec) rfl (Or.inl ⟨by rfl,?_⟩) hHeld ?_
  ·intro w hSw;obtain⟨s0,s1,s2,s3,s4,s5⟩:=hSw;go_simp
  (try simp only[Act.put,sIx,sZ0,sZ1])
  refine lkT 28 5 (.int .i64 (k:Int)) rfl (Or.inl ⟨by rfl,?_⟩) hHeld ?_
  ·intro w hSw;go_simp
  (try simp only[Act.put,sIx,sZ0,sZ1])
  refine lkT 29 6 (.agg #[.slice qa kn qc,.slice qb vn qd]) rfl (Or.inl ⟨by rfl,?_⟩) hHeld ?_
  ·intro w hSw;obtain⟨s0,s1,s2,s3,s4,s5⟩:=hSw;go_simp
  (try simp only[Act.put,sIx,sZ0,sZ1])
  refine lk1 7 rfl (fun K hK=>?_)
  go_simp
  have hA2:=hD.alloc hD.size (.cells #[.slice qa kn qc,.slice qb vn qd] 64)
  refine hK.out _ _ (HCt2.out _ hA2) (fun hHeld=>?_)
  (try simp only[Act.put,sIx,sZ0,sZ1])
  clear hK K
  refine lk1 8 rfl (fun K hK=>?_)
  go_simp
  rw[show y1.drew.heap.size=y1.heap.size from rfl,show y1.drew.alloc (.cells #[.slice qa kn qc,.slice qb vn qd] 64)=(y1.alloc (.cells #[.slice qa kn qc,.slice qb vn qd] 64)).drew from rfl] at hIn
  refine hIn.mono ?_
  rintro r y2 ⟨⟨v',rfl,ho2⟩,hg2⟩
  go_simp
  have hA3:Below y1.heap.size y1 (y1.alloc (.cells #[.slice qa kn qc,.slice qb vn qd] 64)).drew:=hA2
  have hoth:∀B t cs,Blk y1 B t cs→(∀g,ea=some ⟨g,0,none⟩→B≠g)→Blk y2 B t cs:=fun B t cs hb hng=>by
   have h1:=hb.on hA3
   refine(hg2.block B h1.lt (fun e2=>?_)).trans h1
   cases ea with
   | none=>cases e2
   | some ad =>
    obtain⟨ag,ao,aq⟩:=ad
    have h2:=Option.some.inj e2
    rcases hea with h3|⟨g3,h3⟩
    ·cases h3
    ·have h4:=Option.some.inj h3
     injection h4 with h4 h5 h6
     subst h4 h5 h6
     exact hng _ rfl h2
  have kp2:Blk y2 Bp 133 [.int .i64 at_,.int .i64 0,.slice ea n ec,vk]:=hoth _ _ _ KP1.out (fun g e2 e3=>by
   subst e3
   rcases HOn.out.2 with⟨h1,_⟩|⟨g2,_,cur,h3,_,h5,_⟩
   ·rw[e2] at h1;injection h1 with h1 _ _;cases h1
   ·rw[e2] at h3
    injection h3 with h3 _ _
    have h4:=Option.some.inj h3
    injection h4 with h4 _ _
    subst h4
    have h6:w.heap[Bp]?=some (.cells _ 133 (0,0)):=HB.out
    rw[h5] at h6
    injection h6 with h6
    injection h6 with _ h6 _
    exact absurd h6 (by decide))
  have ke2:Blk y2 w.heap.size 64 [.slice qa kn qc,.slice qb vn qd]:=hoth _ _ _ KE1.out (fun g e2 e3=>by have:=(hgl g e2).2;omega)
  refine hK.out _ _ ⟨kp2.cell 0,kp2.cell 1,kp2.cell 2,kp2.cell 3,ke2.cell 0,ke2.cell 1⟩ (fun hHeld=>?_)
  (try simp only[Act.put,sIx,sZ0,sZ1])
  clear hK K
  refine lkC [10] 32 9 (.pointer (some ⟨Bp,0,none⟩)) rfl (Or.inl ⟨by rfl,?_⟩) hHeld ?_
  ·intro w hSw;go_simp
  (try simp only[Act.put,sIx,sZ0,sZ1])
  refine lkT 33 10 (.pointer (some ⟨Bp,2,none⟩)) rfl (Or.inl ⟨by rfl,?_⟩) hHeld ?_
  ·intro w hSw;go_simp
  (try simp only[Act.put,sIx,sZ0,sZ1])
  have kc2:=kp2.cell 2
  have kf2:=kp2.frozen 2
  simp only[gZ0,gZ1] at kc2
  obtain⟨va,vcap,rfl,_⟩:=ho2.form okE13
  refine lkZ rfl (fun K hK=>?_)
  go_simp
  refine hK.out _ _ ?_
  (try simp only[Exit.then])
  (try simp only[Act.put,sIx,sZ0,sZ1])
  clear hK K hHeld
  go_wp2_with fail
  go_end0
  have hLen:min k L.length+(L.length-k+1)=(L.take k++((⟨key,val⟩,⟨qa,qc,qb,qd⟩):Eq3):: L.drop k).length:=by simp
  have kW:=kp2.set 2 (.slice va (min k L.length+(L.length-k+1)) vcap)
  have hO2:=ho2.n13
  rw[←hLen] at hO2
  have hT:KeepT [133] y2 (y2.setCell ⟨Bp,2,none⟩ (.slice va (min k L.length+(L.length-k+1)) vcap)):=(KeepT.refl _ y2).set kp2 (by decide) 2 _
  have hk1:KeepT [133,64] y1 (y2.setCell ⟨Bp,2,none⟩ (.slice va (min k L.length+(L.length-k+1)) vcap)):=((KeepT.of_below hA3).trans ((KeepT.grownN (HOy.out.on hA3) hg2).more (by decide))).trans (hT.more (by decide))
  have hb2:Below base w y2:=((HB1.out.mono hlo).trans (hA3.mono (Nat.le_trans hlo HB1.out.size))).grown hg2 (Nat.le_trans hlo (Nat.le_trans HB1.out.size hA3.size)) (fun b e2=>by
   cases ea with
   | none=>cases e2
   | some ad =>
    obtain⟨ag,ao,aq⟩:=ad
    have h2:=Option.some.inj e2
    rcases hea with h3|⟨g3,h3⟩
    ·cases h3
    ·have h4:=Option.some.inj h3
     injection h4 with h4 h5 h6
     subst h4 h5 h6
     have h7:ag=b:=h2
     rw[←h7]
     exact(hgl _ rfl).1)
  refine⟨rfl,_,_,kW,own_keepO (us:=[64]) (KeepO.ofT hT (by decide)) hO2 (by decide),?_,fun x hx=>?_,(KeepT.of_below HB1.out).trans hk1,hb2.setCell (p:=⟨Bp,2,none⟩) hbb _,fun B cs hB hb=>((KeepT.grownN (HOy.out.on hA3) hg2).blk ((hb.on HB1.out).on hA3) (by decide)).other _ _ hB⟩
  ·rw[HPut.out,if_neg (by simp)]
   simp only[List.map_append,List.map_cons,List.map_take,List.map_drop]
  ·have hku:=KeepO.ofT (us:=UB) hk1 (by decide)
   rcases List.mem_append.1 hx with h1|h1
   ·exact((HXy.out x (List.mem_of_mem_take h1)).keep hku).q fl
   ·rcases List.mem_cons.1 h1 with h1|h1
    ·rw[h1];exact HE.out.keep (KeepU.ofB (KeepO.ofT ((KeepT.of_below HB1.out).trans hk1) (by decide)) (hb2.setCell (p:=⟨Bp,2,none⟩) hbb _) hfl)
    ·exact((HXy.out x (List.mem_of_mem_drop h1)).keep hku).q fl
end Go.Proofs.YtpecobmfabmpkaaGreatDoor
namespace Go.Proofs.YtpecobmfabmpkaaGreatDoor
open Go.RowKit
structure VKeep (N0 Nl:Nat)(us:List TypeId)(w w':World):Prop where
 k:∀(B:Nat) (o:Obj),w.heap[B]?=some o→N0≤B→(∀c t fz,o=.cells c t fz→t∉us)→w'.heap[B]?=some o
 t:KeepT [64,50,3,144] w w'
 b:Below Nl w w'
theorem VKeep.blk {N0 Nl:Nat}{us:List TypeId}{w w':World}(h:VKeep N0 Nl us w w'){B ty:Nat}{cs:List Value}(hB:Blk w B ty cs)(hn:N0≤B)(ht:ty∉us):Blk w' B ty cs:=h.k B _ hB hn (fun c t fz e=>by injection e with _ h2 _;rw[←h2];exact ht)
theorem VKeep.trans {N0 Nl:Nat}{us:List TypeId}{a b c:World}(h:VKeep N0 Nl us a b)(k:VKeep N0 Nl us b c):VKeep N0 Nl us a c:=⟨fun B o hB hn ht=>k.k B o (h.k B o hB hn ht) hn ht,h.t.trans k.t,h.b.trans k.b⟩
theorem VKeep.below {N0 Nl:Nat}{us:List TypeId}{w w':World}(h:Below w.heap.size w w')(hN:Nl≤w.heap.size):VKeep N0 Nl us w w':=⟨fun B _ hB _ _=>(h.5 B (Array.getElem?_eq_some_iff.1 hB).1).trans hB,KeepT.of_below h,h.mono hN⟩
theorem VKeep.more {N0 Nl:Nat}{us vs:List TypeId}{w w':World}(h:VKeep N0 Nl us w w')(hs:∀t∈us,t∈vs):VKeep N0 Nl vs w w':=⟨fun B o hB hn ht=>h.k B o hB hn (fun c t fz e hm=>ht c t fz e (hs t hm)),h.t,h.b⟩
structure VisOK {σ:Type}(V:Nat)(cap:Array Value)(stp:σ→List Et→σ × Bool)(Inv:σ→Nat→World→Prop)(N0 Nl:Nat)(rk:σ→Nat):Prop where
 rank:∀(s:σ) (l:List Et),rk s≤rk (stp s l).1+1
 call:∀(s:σ) (X:Nat) (W:World) (at_:Int) (p:Pg) (ve vk:Value) (L:List Eq3),0<rk s→Inv s X W→PgR 0 W p ve vk L→OwnN W X ve L→SrtE p.es→p.es.length≤1000→(∀e∈p.es,itemOk e.k e.v=true)→Calls Tryz.prog V (#[.agg (pgc at_ p.lv ve vk).toArray]++cap) W fun e w'=>e=.returned (.bool (stp s p.es).2)∧Inv (stp s p.es).1 w'.heap.size w'∧VKeep N0 Nl [64] W w'
 keep:∀(s:σ) (X:Nat) (W W':World),Inv s X W→KeepT [144] W W'→(∀k,k<Nl→k<W.heap.size→W'.heap[k]?=W.heap[k]?)→Inv s X W'
 enter:∀args w,(callFunc V args).run Tryz.prog w=.ok (.enter V args) w
def EachPost {σ:Type}(stp:σ→List Et→σ × Bool)(Inv:σ→Nat→World→Prop)(N0 Nl Wb S:Nat)(s:σ)(l:List Et)(lk:List UInt8)(w:World)(e:Ending)(w':World):Prop :=
 e=.returned (.bool (stp s l).2)∧(∃X',X'≤w'.heap.size∧Inv (stp s l).1 X' w')∧(∃a n c,Blk w' Wb 144 [.pointer (some ⟨S,0,none⟩),.slice a n c]∧BsP 0 w' a n c lk)∧VKeep N0 Nl [64,144] w w'
theorem codEach0 {σ:Type}(V:Nat)(cap:Array Value)(stp:σ→List Et→σ × Bool)(Inv:σ→Nat→World→Prop)(N0 Nl:Nat)(rk:σ→Nat)(hV:VisOK V cap stp Inv N0 Nl rk)(w:World)(Wb S:Nat)(at_:Int)(ve vk fv:Value)(l:List Et)(L:List Eq3)(la:Option Addr)(ln lc:Nat)(lb:List UInt8)(s:σ)(X:Nat)(hrk:0<rk s)(hI:Inv s X w)(hon:OwnN w X ve L)(hB:Blk w Wb 144 [.pointer (some ⟨S,0,none⟩),.slice la ln lc])(hp:PgR 0 w ⟨0,l,[]⟩ ve vk L)(hl:LfOk l)(hlast:BsP 0 w la ln lc lb)(hlt:Op.bytesLess lb (fstK l)=true)(hfv:∃a n c,fv=.slice a n c)(hN0:N0≤Wb)(hNl:Nl≤N0):
  Calls Tryz.prog 76 #[.pointer (some ⟨Wb,0,none⟩),.agg (pgc at_ 0 ve vk).toArray,fv,.func (.func V) #[] cap] w (EachPost stp Inv N0 Nl Wb S s l (lstK l) w):=by
 obtain⟨fa,fn,fc,rfl⟩:=hfv
 obtain⟨ea,ec,xa,xc,rfl,rfl⟩:=hp.forms
 have hll:=hl.len
 have hBl:=hB.lt
 have W1:Below w.heap.size w (w.alloc (.cells (pgc at_ 0 (.slice ea l.length ec) (.slice xa 0 xc)).toArray 133)):=(Below.refl _ w).alloc (Nat.le_refl _) _
 have k1:Blk (w.alloc (.cells (pgc at_ 0 (.slice ea l.length ec) (.slice xa 0 xc)).toArray 133)) w.heap.size 133 (pgc at_ 0 (.slice ea l.length ec) (.slice xa 0 xc)):=Blk.new w _ _
 generalize hW:w.alloc (.cells (pgc at_ 0 (.slice ea l.length ec) (.slice xa 0 xc)).toArray 133)=Y0 at *
 have hp0:=hp.below W1
 have hCk:=codCheckL Y0 Wb at_ (.pointer (some ⟨S,0,none⟩)) (.slice ea l.length ec) (.slice xa 0 xc) l L la ln lc lb (hB.on W1) hp0 hl.ne (hlast.keep (KeepU.of_below W1)) hlt (by omega)
 have hI0:=hV.keep s X w Y0 hI (KeepT.of_below W1) (lw_below W1)
 have hon0:=hon.on W1
 have HVc:Hid (∀W,Inv s X W→PgR 0 W ⟨0,l,[]⟩ (.slice ea l.length ec) (.slice xa 0 xc) L→OwnN W X (.slice ea l.length ec) L→Calls Tryz.prog V (#[.agg (pgc at_ 0 (.slice ea l.length ec) (.slice xa 0 xc)).toArray]++cap) W fun e w'=>e=.returned (.bool (stp s l).2)∧Inv (stp s l).1 w'.heap.size w'∧VKeep N0 Nl [64] W w'):=fun W hI hp ho=>hV.call s X W at_ ⟨0,l,[]⟩ _ _ L hrk hI hp ho hl.srt (by show l.length≤1000;omega) hl.ok
 have hf:=hV.enter
 have HKp:=mkHid hV.keep
 have HI0:=mkHid hI0
 have HP0:=mkHid hp0
 have HK1:=mkHid k1
 have HW1:=mkHid W1
 have HOn:=mkHid hon0
 clear hI hB hp hl hlast hlt hV hp0 hI0 hon hon0
 unfold pgc at *
 obtain⟨n,hn⟩:∃n,n=l.length:=⟨_,rfl⟩
 have k1:Blk Y0 w.heap.size 133 [.int .i64 at_,.int .i64 0,.slice ea n ec,.slice xa 0 xc]:=by rw[hn];exact k1
 rw[←hn] at hCk HVc HP0 HK1 hW HOn ⊢
 have HN:=mkHid hn
 have d0:=k1.cell 0
 have d1:=k1.cell 1
 have d2:=k1.cell 2
 have d3:=k1.cell 3
 simp only[gZ0,gZ1] at d0 d1 d2 d3
 show Calls Tryz.prog _ #[_,.agg #[.int .i64 at_,.int .i64 0,.slice ea n ec,.slice xa 0 xc],_,_] w _
 have hW':w.alloc (.cells #[.int .i64 at_,.int .i64 0,.slice ea n ec,.slice xa 0 xc] 133)=Y0:=hW
 have hCk:Calls Tryz.prog 115 #[.pointer (some ⟨Wb,0,none⟩),.agg #[.int .i64 at_,.int .i64 0,.slice ea n ec,.slice xa 0 xc]] Y0 _:=hCk
 clear hW k1 hn W1
 go_enter Tryz.func76,Tryz.ntmps76
 go_upto_region 1 with fail
 (try rw[hW'])
 clear hW'
 go_upto_region 2 with(go_at_call 115;refine hCk.mono ?_;rintro r1 y1 ⟨rfl,⟨la1,ln1,lc1,hb1,hls1⟩,hT1,hbl1⟩)
 have hsz1:=HW1.out.size
 have hI1:=HKp.out s X Y0 y1 HI0.out hT1 (fun k hk _=>(hbl1 Nl (by omega) (by omega)).5 k hk)
 have hVc:=HVc.out y1 hI1 (HP0.out.keep (KeepU.zero (KeepO.ofT hT1 (by decide)))) (own_keepO (us:=[64]) (KeepO.ofT hT1 (by decide)) HOn.out (by decide))
 have kp1:=hT1.blk HK1.out (by decide)
 have d0:=kp1.cell 0
 have d1:=kp1.cell 1
 have d2:=kp1.cell 2
 have d3:=kp1.cell 3
 simp only[gZ0,gZ1] at d0 d1 d2 d3
 have HB1:=mkHid (And.intro hb1 (And.intro hls1 hT1))
 have HBl1:=mkHid hbl1
 have HKp1:=mkHid kp1
 have hsz:=HW1.out.size
 have hV01:VKeep N0 Nl [64,144] w y1:=(VKeep.below HW1.out (by omega)).trans ⟨fun B o hB _ ht=>hT1.same B o hB (fun c t fz e hm=>ht c t fz e (by simp at hm;rw[hm];simp)),hT1.more (by decide),hbl1 Nl (by omega) (by omega)⟩
 have HV01:=mkHid hV01
 obtain⟨bb,hbb⟩:∃b,b=(stp s l).2:=⟨_,rfl⟩
 rw[←hbb] at hVc
 have HBb:=mkHid hbb
 clear hb1 hls1 hT1 hbl1 HVc hCk kp1 hI1 hV01 hbb
 cases bb with
 | false =>
  go_wp2_with (go_at_fn V;refine hVc.mono ?_;rintro r2 y2 ⟨rfl,hI2,hk2⟩;have HR2:=mkHid (And.intro hI2 hk2);clear hI2 hk2)
  go_ret
  refine⟨by rw[←HBb.out];rfl,⟨_,Nat.le_refl _,HR2.out.1⟩,⟨la1,ln1,lc1,HR2.out.2.blk HB1.out.1 hN0 (by decide),HB1.out.2.1.keep (KeepU.zero (KeepO.ofT HR2.out.2.t (by decide)))⟩,HV01.out.trans (HR2.out.2.more (by decide))⟩
 | true =>
  go_upto_region 4 with(go_at_fn V;refine hVc.mono ?_;rintro r2 y2 ⟨rfl,hI2,hk2⟩)
  have hD:Below y2.heap.size y2 y2.drew:=(Below.refl _ y2).drew
  have kw2:=hk2.blk HB1.out.1 hN0 (by decide)
  have kp2:=hk2.blk HKp1.out (by omega) (by decide)
  have HCt:Hid (∀W,Below y2.heap.size y2 W→W.cell? ⟨Wb,0,none⟩=some (.pointer (some ⟨S,0,none⟩))∧W.cell? ⟨w.heap.size,0,none⟩=some (.int .i64 at_)∧W.cell? ⟨w.heap.size,1,none⟩=some (.int .i64 0)∧W.cell? ⟨w.heap.size,2,none⟩=some (.slice ea n ec)∧W.cell? ⟨w.heap.size,3,none⟩=some (.slice xa 0 xc)):=fun W hW=>⟨(kw2.on hW).cell 0,(kp2.on hW).cell 0,(kp2.on hW).cell 1,(kp2.on hW).cell 2,(kp2.on hW).cell 3⟩
  have HFd:=pgFind0 y2.drew (.agg #[.pointer (some ⟨S,0,none⟩)]) at_ 0 (.slice ea n ec) xa fa xc fn fc ⟨_,_,_,rfl⟩ ⟨_,rfl⟩
  have HR2:=mkHid (And.intro hI2 (And.intro hk2 (And.intro kw2 kp2)))
  clear hVc hI2 hk2 kw2 kp2
  refine lk0 (fun W=>W.cell? ⟨Wb,0,none⟩=some (.pointer (some ⟨S,0,none⟩))∧W.cell? ⟨w.heap.size,0,none⟩=some (.int .i64 at_)∧W.cell? ⟨w.heap.size,1,none⟩=some (.int .i64 0)∧W.cell? ⟨w.heap.size,2,none⟩=some (.slice ea n ec)∧W.cell? ⟨w.heap.size,3,none⟩=some (.slice xa 0 xc)) 7 (HCt.out _ hD) (fun hHeld=>?_)
  refine lkT 17 0 (.pointer (some ⟨Wb,0,none⟩)) rfl (Or.inl ⟨by rfl,?_⟩) hHeld ?_
  ·intro w hSw;go_simp
  (try simp only[Act.put,sIx,sZ0,sZ1])
  refine lkT 18 1 (.pointer (some ⟨Wb,0,none⟩)) rfl (Or.inl ⟨by rfl,?_⟩) hHeld ?_
  ·intro w hSw;go_simp
  (try simp only[Act.put,sIx,sZ0,sZ1])
  refine lkT 19 2 (.pointer (some ⟨Wb,0,none⟩)) rfl (Or.inl ⟨by rfl,?_⟩) hHeld ?_
  ·intro w hSw;go_simp
  (try simp only[Act.put,sIx,sZ0,sZ1])
  refine lkT 20 3 (.agg #[.pointer (some ⟨S,0,none⟩)]) rfl (Or.inl ⟨by rfl,?_⟩) hHeld ?_
  ·intro w hSw;obtain⟨s0,s1,s2,s3,s4⟩:=hSw;go_simp
  (try simp only[Act.put,sIx,sZ0,sZ1])
  refine lkT 21 4 (.agg #[.int .i64 at_,.int .i64 0,.slice ea n ec,.slice xa 0 xc]) rfl (Or.inl ⟨by rfl,?_⟩) hHeld ?_
  ·intro w hSw;obtain⟨s0,s1,s2,s3,s4⟩:=hSw;go_simp
  (try simp only[Act.put,sIx,sZ0,sZ1])
  refine lkT 22 5 (.slice fa fn fc) rfl (Or.inl ⟨by rfl,?_⟩) hHeld ?_
  ·intro w hSw;go_simp
  (try simp only[Act.put,sIx,sZ0,sZ1])
  refine lk1 6 rfl (fun K hK=>?_)
  go_simp
  refine HFd.mono ?_
  rintro r3 y3 ⟨rfl,hb3⟩
  go_simp
  have hB23:=hD.trans (hb3.mono hD.size)
  refine hK.out _ _ (HCt.out _ hB23) (fun hHeld=>?_)
  (try simp only[Act.put,sIx,sZ0,sZ1])
  clear hK K HFd
  refine lkZ rfl (fun K hK=>?_)
  go_simp
  refine hK.out _ _ ?_
  (try simp only[Exit.then])
  (try simp only[Act.put,sIx,sZ0,sZ1])
  clear hK K hHeld
  obtain⟨_,_,_,_,e3⟩:=HCt.out _ hB23
  have HB23:=mkHid hB23
  clear hB23 hb3 hD HCt
  go_wp2_with fail
  go_loopg [9] 0 (fun kx s9 wr=>s9=.int .i64 0∧0≤kx∧wr=y3)
  case atStart=>exact⟨rfl,Nat.zero_le _,rfl⟩
  case round =>
   obtain⟨rfl,_,rfl⟩:=hrel
   go_wp2_with fail
   go_ret
   have hk23:VKeep N0 Nl [64,144] y2 wr:=VKeep.below HB23.out (by have:=HR2.out.2.2.2.lt;omega)
   refine⟨by rw[←HBb.out];rfl,⟨_,HB23.out.size,HKp.out _ _ _ _ HR2.out.1 (KeepT.of_below HB23.out) (lw_below HB23.out)⟩,⟨la1,ln1,lc1,HR2.out.2.2.1.on HB23.out,(HB1.out.2.1.keep (KeepU.zero (KeepO.ofT HR2.out.2.1.t (by decide)))).keep (KeepU.of_below HB23.out)⟩,(HV01.out.trans (HR2.out.2.1.more (by decide))).trans hk23⟩
def eachF {σ:Type}(stp:σ→List Et→σ × Bool):σ→List (List Et)→σ × Bool
 | s,[]=>(s,true)
 | s,l::ls=>if (stp s l).2=true then eachF stp (stp s l).1 ls else ((stp s l).1,false)
theorem less_nil {k:List UInt8}(h:1≤k.length):Op.bytesLess [] k=true:=by
 cases k with
 | nil=>simp at h
 | cons a k=>rfl
theorem fst_mem {l:List Et}(h:l≠[]):∃e∈l,e.k=fstK l:=by
 cases l with
 | nil=>exact absurd rfl h
 | cons a l=>exact⟨a,List.mem_cons_self,rfl⟩
theorem lst_mem {l:List Et}(h:l≠[]):∃e∈l,e.k=(l.getD (l.length-1) et0).k:=by
 have hp:=List.length_pos_iff.2 h
 have hlt:l.length-1<l.length:=by omega
 refine⟨l[l.length-1],List.getElem_mem _,?_⟩
 rw[List.getD_eq_getElem?_getD,List.getElem?_eq_getElem hlt]
 rfl
theorem next_lt {Q:Ps}(hs:SrtE (entsP Q))(hne:∀p∈Q,p.2≠[]){k:Nat}(hk:k+1<Q.length):Op.bytesLess ((Q.getD k (0,[])).2.getD ((Q.getD k (0,[])).2.length-1) et0).k (fstK (Q.getD (k+1) (0,[])).2)=true:=by
 have h1:Q.getD k (0,[])=Q[k]:=by simp[show k<Q.length by omega]
 have h2:Q.getD (k+1) (0,[])=Q[k+1]:=by simp[hk]
 have e:Q=Q.take k++Q[k]::Q[k+1]::Q.drop (k+1+1):=by
  rw[List.getElem_cons_drop,List.getElem_cons_drop,List.take_append_drop]
 rw[e,entsP_append,entsP,entsP] at hs
 have h3:=(List.pairwise_append.1 hs).2.1
 have h4:=(List.pairwise_append.1 h3).2.2
 rw[h1,h2]
 obtain⟨a,ha,ha2⟩:=lst_mem (hne Q[k] (List.getElem_mem _))
 obtain⟨b,hb,hb2⟩:=fst_mem (hne Q[k+1] (List.getElem_mem _))
 rw[←ha2,←hb2]
 exact h4 a ha b (List.mem_append_left _ hb)
theorem each_drop {σ:Type}(stp:σ→List Et→σ × Bool)(s:σ)(Q:Ps){k:Nat}(hk:k<Q.length):eachF stp s ((Q.map (·.2)).drop k)=if (stp s (Q.getD k (0,[])).2).2=true then eachF stp (stp s (Q.getD k (0,[])).2).1 ((Q.map (·.2)).drop (k+1)) else ((stp s (Q.getD k (0,[])).2).1,false):=by
 have h1:Q.getD k (0,[])=Q[k]:=by simp[hk]
 rw[List.drop_eq_getElem_cons (by simpa using hk),eachF,h1,List.getElem_map]
end Go.Proofs.YtpecobmfabmpkaaGreatDoor
