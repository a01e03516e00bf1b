/- PvN PvQ AppF PvR -/
import Derived.Test.YtpecobmfabmpkaaGreatDoorM17
set_option maxRecDepth 20000
set_option maxHeartbeats 6000000
namespace Go.Proofs.YtpecobmfabmpkaaGreatDoor
section
open Go.RowKit
variable {fl:Nat}
def EachNPost {σ:Type}(r:σ × Bool)(Inv:σ→Nat→World→Prop)(N0 Nl:Nat)(w:World)(e:Ending)(w':World):Prop :=
 e=.returned (.bool r.2)∧(∃X',Inv r.1 X' w')∧VKeep N0 Nl [64,144] w w'
theorem rdN_empty13 (w:World)(a:Option Addr)(c:Nat):RdN 0 w (.slice a 0 c) []:=⟨⟨a,c,rfl,Nat.zero_le _,fun h=>absurd h (Nat.lt_irrefl 0)⟩,fun x hx=>by cases hx⟩
theorem codEach1 {σ:Type}(V:Nat)(cap:Array Value)(stp:σ→List Et→σ × Bool)(Inv:σ→Nat→World→Prop)(N0 Nl:Nat)(rk:σ→Nat)(hV:VisOK V cap stp Inv N0 Nl rk)(w:World)(S J P base m:Nat)(t:Tl)(j:Jl)(Wb rt:Nat)(Q:Ps)(at_:Int)(ve vk:Value)(fa:Option Addr)(fn fc:Nat)(from_:List UInt8)(s:σ)(X:Nat)(hrk:Q.length+1≤rk s)(h:SpAx w S J P base t j)(hN:NdAt t j rt Q)(hk:Tk t j m ((rt:Int):: secsP Q))(hso:SrtE (entsP Q))(hI:Inv s X w)(hon:OwnN w X ve [])(hst:(stp s []).2=true)
  (hB:Blk w Wb 144 [.pointer (some ⟨S,0,none⟩),.slice none 0 0]) (hve:RdN 0 w ve []) (hO:OwnZ w N0 vk ((Q.map (·.1)).map Int.ofNat)) (hfr:BsP fl w fa fn fc from_) (hN0:N0≤Wb) (hNl:Nl≤N0) (hfl:fl≤Nl:=by omega):
  Calls Tryz.prog 76 #[.pointer (some ⟨Wb,0,none⟩),.agg (pgc at_ 1 ve vk).toArray,.slice fa fn fc,.func (.func V) #[] cap] w fun e w'=>∃i:Nat,i<Q.length∧(0<i→Op.bytesLess from_ (fstK (Q.getD i (0,[])).2)=false)∧(i+1<Q.length→Op.bytesLess from_ (fstK (Q.getD (i+1) (0,[])).2)=true)∧EachNPost (eachF stp (stp s []).1 ((Q.map (·.2)).drop i)) Inv N0 Nl w e w':=by
 obtain⟨ea,ec,hve1,_,_⟩:=hve.form
 subst hve1
 obtain⟨xa,xc,hvk1,_,_,_⟩:=OwnRw.form okI13 hO.c
 rw[List.length_map,List.length_map] at hvk1
 subst hvk1
 have hf:=hk.fit
 have hn2:=hf.few.n
 have hq2:=hN.n
 have hq254:=hN.n2
 have hNd:=node_kids hN hk
 have hBl:=hB.lt
 have W1:Below w.heap.size w (w.alloc (.cells (pgc at_ 1 (.slice ea 0 ec) (.slice xa Q.length xc)).toArray 133)):=(Below.refl _ w).alloc (Nat.le_refl _) _
 have k1:Blk (w.alloc (.cells (pgc at_ 1 (.slice ea 0 ec) (.slice xa Q.length xc)).toArray 133)) w.heap.size 133 (pgc at_ 1 (.slice ea 0 ec) (.slice xa Q.length xc)):=Blk.new w _ _
 generalize hW:w.alloc (.cells (pgc at_ 1 (.slice ea 0 ec) (.slice xa Q.length xc)).toArray 133)=Y0 at *
 have hCk:Calls Tryz.prog 115 #[.pointer (some ⟨Wb,0,none⟩),.agg #[.int .i64 at_,.int .i64 1,.slice ea 0 ec,.slice xa Q.length xc]] Y0 fun e w'=>e=.returned (.tuple #[])∧Below Y0.heap.size Y0 w':=codCheckN Y0 Wb at_ (.slice ea 0 ec) (.slice xa Q.length xc) ⟨_,_,_,rfl⟩ ⟨_,_,_,rfl⟩
 have hV0:VKeep N0 Nl [64,144] w Y0:=VKeep.below W1 (by omega)
 have hI0:=hV.keep s X w Y0 hI (KeepT.of_below W1) (lw_below W1)
 have hon0:=hon.on W1
 have HVc:Hid (∀W,Inv s X W→PgR 0 W ⟨1,[],Q.map (·.1)⟩ (.slice ea 0 ec) (.slice xa Q.length xc) []→OwnN W X (.slice ea 0 ec) []→Calls Tryz.prog V (#[.agg (pgc at_ 1 (.slice ea 0 ec) (.slice xa Q.length xc)).toArray]++cap) W fun e w'=>e=.returned (.bool (stp s []).2)∧Inv (stp s []).1 w'.heap.size w'∧VKeep N0 Nl [64] W w'):=fun W hI hp ho=>hV.call s X W at_ ⟨1,[],Q.map (·.1)⟩ _ _ [] (by omega) hI hp ho List.Pairwise.nil (Nat.zero_le _) (fun e he=>by cases he)
 rw[hst] at HVc
 have HSt:Hid (∀W,VKeep N0 Nl [64,144] w W→SpAx W S J P base t j∧OwnZ W N0 (.slice xa Q.length xc) ((Q.map (·.1)).map Int.ofNat)∧BsP fl W fa fn fc from_):=fun W hW=>⟨h.keep13 (hW.t.more (by decide)),by
  have ho:=hO
  refine⟨ho.1,?_⟩
  rcases ho.2 with h2|⟨g,cp,cur,h3,h4,h5,h6⟩
  ·exact .inl h2
  ·exact .inr ⟨g,cp,cur,h3,h4,hW.k g _ h5 h4 (fun c t fz e=>by injection e with _ e2 _;rw[←e2];decide),h6⟩,hfr.keep (KeepU.ofB (KeepO.ofT hW.t (by decide)) hW.b hfl)⟩
 have hfn:=hV.enter
 have HEa:Hid (∀(s:σ) (X:Nat) (W:World) (a2:Int) (ve vk:Value) (l:List Et) (L:List Eq3) (la:Option Addr) (ln lc:Nat) (lb:List UInt8),0<rk s→Inv s X W→OwnN W X ve L→Blk W Wb 144 [.pointer (some ⟨S,0,none⟩),.slice la ln lc]→PgR 0 W ⟨0,l,[]⟩ ve vk L→LfOk l→BsP 0 W la ln lc lb→Op.bytesLess lb (fstK l)=true→Calls Tryz.prog 76 #[.pointer (some ⟨Wb,0,none⟩),.agg (pgc a2 0 ve vk).toArray,.slice fa fn fc,.func (.func V) #[] cap] W (EachPost stp Inv N0 Nl Wb S s l (lstK l) W)):=fun s X W a2 ve vk l L la ln lc lb q0 q1 q1' q2 q3 q4 q5 q6 =>
  codEach0 V cap stp Inv N0 Nl rk hV W Wb S a2 ve vk (.slice fa fn fc) l L la ln lc lb s X q0 q1 q1' q2 q3 q4 q5 q6 ⟨_,_,_,rfl⟩ hN0 hNl
 have HKp:=mkHid hV.keep
 have HRk:=mkHid hV.rank
 have HR0:Hid (Q.length≤rk (stp s []).1):=by have:=hV.rank s [];unfold Hid;omega
 have HI0:=mkHid hI0
 have HOn:=mkHid hon0
 have HK1:=mkHid (And.intro k1 (hB.on W1))
 have HV0:=mkHid hV0
 have HNd:=mkHid hNd
 have HN:=mkHid (And.intro hN (And.intro hk hso))
 have HRd0:Hid (RdN 0 w (.slice ea 0 ec) []):=hve
 clear h hN hk hso hI hon hon0 hB hve hO hfr hV hI0 hV0 hNd hst
 unfold pgc at HVc HK1 k1 hW
 obtain⟨n,hn⟩:∃n,n=Q.length:=⟨_,rfl⟩
 rw[←hn] at hCk HVc HSt HK1 hW k1 hq2 hq254
 have HNn:=mkHid hn
 have d0:=k1.cell 0
 have d1:=k1.cell 1
 have d2:=k1.cell 2
 have d3:=k1.cell 3
 simp only[gZ0,gZ1] at d0 d1 d2 d3
 show Calls Tryz.prog _ #[_,.agg #[.int .i64 at_,.int .i64 1,.slice ea 0 ec,.slice xa Q.length xc],_,_] w _
 rw[←hn] at ⊢
 have hW':w.alloc (.cells #[.int .i64 at_,.int .i64 1,.slice ea 0 ec,.slice xa n xc] 133)=Y0:=hW
 clear k1 hn W1 hW
 go_enter Tryz.func76,Tryz.ntmps76
 go_upto_region 1 with fail
 (try rw[hW'])
 clear hW'
 go_upto_region 2 with(go_at_call 115;refine hCk.mono ?_;rintro r1 y1 ⟨rfl,hb1⟩)
 have hI1:=HKp.out s X Y0 y1 HI0.out (KeepT.of_below hb1) (lw_below hb1)
 have hV1:=HV0.out.trans (VKeep.below hb1 (by have:=HV0.out.b.size;have:=HK1.out.2.lt;omega))
 have hz1:=(HSt.out y1 hV1).2.1.rd
 have hVc:=HVc.out y1 hI1 ⟨rdN_empty13 y1 ea ec,hz1,rfl⟩ (HOn.out.on hb1)
 have kp1:=HK1.out.1.on hb1
 have kw1:=HK1.out.2.on hb1
 have d0:=kp1.cell 0
 have d1:=kp1.cell 1
 have d2:=kp1.cell 2
 have d3:=kp1.cell 3
 simp only[gZ0,gZ1] at d0 d1 d2 d3
 have HB1:=mkHid (And.intro kp1 kw1)
 have HV1:=mkHid hV1
 clear hb1 hI1 hV1 hz1 kp1 kw1 HVc hCk
 go_upto_region 4 with(go_at_fn V;refine hVc.mono ?_;rintro r2 y2 ⟨rfl,hI2,hk2⟩)
 have hD:Below y2.heap.size y2 y2.drew:=(Below.refl _ y2).drew
 have hV2:=HV1.out.trans (hk2.more (vs:=[64,144]) (by decide))
 have hNl2:Nl≤y2.heap.size:=Nat.le_trans (Nat.le_trans hNl (Nat.le_trans hN0 (Nat.le_of_lt hBl))) (Nat.le_trans hV2.t.size (Nat.le_refl _))
 have hVD:=hV2.trans (VKeep.below (N0:=N0) hD hNl2)
 obtain⟨hAD,hOD,hfD⟩:=HSt.out y2.drew hVD
 have hFd:=pgFind y2.drew S J P base m t j at_ (.slice ea 0 ec) (.slice xa n xc) (Q.map (·.1)) _ fa fn fc from_ hAD hf hOD.rd ⟨_,_,_,rfl⟩ hfD.is HNd.out (by rw[List.length_map,←HNn.out];omega) (by rw[List.length_map,←HNn.out];omega)
 unfold gT pgc at hFd
 have kp2:=hk2.blk HB1.out.1 (by omega) (by decide)
 have kw2:=hk2.blk HB1.out.2 hN0 (by decide)
 have HCt:Hid (∀W la ln lc,VKeep N0 Nl [64,144] y2 W→Blk W Wb 144 [.pointer (some ⟨S,0,none⟩),.slice la ln lc]→W.cell? ⟨Wb,0,none⟩=some (.pointer (some ⟨S,0,none⟩))∧W.cell? ⟨w.heap.size,0,none⟩=some (.int .i64 at_)∧W.cell? ⟨w.heap.size,1,none⟩=some (.int .i64 1)∧W.cell? ⟨w.heap.size,2,none⟩=some (.slice ea 0 ec)∧W.cell? ⟨w.heap.size,3,none⟩=some (.slice xa n xc)):=fun W la ln lc hW hb=>by
  have hq:=hW.blk kp2 (by omega) (by decide)
  exact⟨hb.cell 0,hq.cell 0,hq.cell 1,hq.cell 2,hq.cell 3⟩
 have HI2:=mkHid hI2
 have HV2:=mkHid hV2
 have HW2:=mkHid kw2
 clear hVc hI2 hk2 kp2 hAD hOD hfD
 refine lk0 (fun W=>W.cell? ⟨Wb,0,none⟩=some (.pointer (some ⟨S,0,none⟩))∧W.cell? ⟨w.heap.size,0,none⟩=some (.int .i64 at_)∧W.cell? ⟨w.heap.size,1,none⟩=some (.int .i64 1)∧W.cell? ⟨w.heap.size,2,none⟩=some (.slice ea 0 ec)∧W.cell? ⟨w.heap.size,3,none⟩=some (.slice xa n xc)) 7 (HCt.out _ _ _ _ (VKeep.below hD hNl2) (kw2.on hD)) (fun hHeld=>?_)
 refine lkT 17 0 (.pointer (some ⟨Wb,0,none⟩)) rfl (Or.inl ⟨by rfl,?_⟩) hHeld ?_
 ·intro w hSw;go_simp
 (try simp only[Act.put,sIx,sZ0,sZ1])
 refine lkT 18 1 (.pointer (some ⟨Wb,0,none⟩)) rfl (Or.inl ⟨by rfl,?_⟩) hHeld ?_
 ·intro w hSw;go_simp
 (try simp only[Act.put,sIx,sZ0,sZ1])
 refine lkT 19 2 (.pointer (some ⟨Wb,0,none⟩)) rfl (Or.inl ⟨by rfl,?_⟩) hHeld ?_
 ·intro w hSw;go_simp
 (try simp only[Act.put,sIx,sZ0,sZ1])
 refine lkT 20 3 (.agg #[.pointer (some ⟨S,0,none⟩)]) rfl (Or.inl ⟨by rfl,?_⟩) hHeld ?_
 ·intro w hSw;obtain⟨s0,s1,s2,s3,s4⟩:=hSw;go_simp
 (try simp only[Act.put,sIx,sZ0,sZ1])
 refine lkT 21 4 (.agg #[.int .i64 at_,.int .i64 1,.slice ea 0 ec,.slice xa n xc]) rfl (Or.inl ⟨by rfl,?_⟩) hHeld ?_
 ·intro w hSw;obtain⟨s0,s1,s2,s3,s4⟩:=hSw;go_simp
 (try simp only[Act.put,sIx,sZ0,sZ1])
 refine lkT 22 5 (.slice fa fn fc) rfl (Or.inl ⟨by rfl,?_⟩) hHeld ?_
 ·intro w hSw;go_simp
 (try simp only[Act.put,sIx,sZ0,sZ1])
 refine lk1 6 rfl (fun K hK=>?_)
 go_simp
 refine hFd.mono ?_
 rintro r3 y3 ⟨⟨i,rfl,hil,hi1,hi2⟩,hb3⟩
 go_simp
 have hB23:=hD.trans (hb3.mono hD.size)
 refine hK.out _ _ (HCt.out _ _ _ _ (VKeep.below hB23 hNl2) (kw2.on hB23)) (fun hHeld=>?_)
 (try simp only[Act.put,sIx,sZ0,sZ1])
 clear hK K hFd
 refine lkZ rfl (fun K hK=>?_)
 go_simp
 refine hK.out _ _ ?_
 (try simp only[Exit.then])
 (try simp only[Act.put,sIx,sZ0,sZ1])
 clear hK K hHeld
 rw[List.length_map,←HNn.out] at hil hi2
 have HB23:=mkHid hB23
 have HI12:=mkHid (And.intro hi1 hi2)
 clear hB23 hb3 hD hi1 hi2 hVD kw2 d0 d1 d2 d3
 obtain⟨s2,hs2⟩:∃s2,s2=(stp s []).1:=⟨_,rfl⟩
 rw[←hs2] at HI2
 have HS2:=mkHid hs2
 clear hs2
 go_wp2_with fail
 go_loopg [9] n (fun kx s9 wr=>∃(k:Nat) (s':σ) (X':Nat) (la:Option Addr) (ln lc:Nat) (lb:List UInt8),k≤n∧n-k≤kx∧s9=.int .i64 (k:Int)∧Hid (n-k≤rk s')∧Hid (X'≤wr.heap.size∧Inv s' X' wr)∧Hid (eachF stp s2 ((Q.map (·.2)).drop i)=eachF stp s' ((Q.map (·.2)).drop k))∧Hid (VKeep N0 Nl [64,144] y2 wr)∧Hid (Blk wr Wb 144 [.pointer (some ⟨S,0,none⟩),.slice la ln lc])∧Hid (BsP 0 wr la ln lc lb)∧Hid (k<n→Op.bytesLess lb (fstK (Q.getD k (0,[])).2)=true))
 case atStart=>exact⟨i,s2,y2.heap.size,none,0,0,[],Nat.le_of_lt hil,by omega,rfl,by (unfold Hid;have h1:=HR0.out;rw[←HS2.out,←HNn.out] at h1;omega),⟨HB23.out.size,HKp.out _ _ _ _ HI2.out (KeepT.of_below HB23.out) (lw_below HB23.out)⟩,rfl,VKeep.below HB23.out hNl2,HW2.out.on HB23.out,fun W hW=>isB_none W,fun hk=>less_nil (by
  have h1:=HN.out.1.lf (Q.getD i (0,[])) (by rw[show Q.getD i (0,[])=Q[i]'(by rw[←HNn.out];exact hil) from by simp[show i<Q.length by rw[←HNn.out];exact hil]];exact List.getElem_mem _)
  obtain⟨e,he,hek⟩:=fst_mem h1.ok.ne
  rw[←hek]
  exact(item_facts (h1.ok.ok e he)).1)⟩
 case round =>
  obtain⟨k,s',X',la,ln,lc,lb,hkn,hkx,rfl,HRr,HI,HE,HVr,HWr,HLr,HLt⟩:=hrel
  have HTr:=mkHid (HV2.out.trans HVr.out)
  obtain⟨c0,d0,d1,d2,d3⟩:=HCt.out wr la ln lc HVr.out HWr.out
  obtain⟨hAw,hOw,hfw⟩:=HSt.out wr HTr.out
  have hNlw:Nl≤wr.heap.size:=Nat.le_trans hNl2 HVr.out.t.size
  by_cases hlt:k<n
  ·have hlt':(k:Int)<(n:Int):=by omega
   have hkQ:k<Q.length:=by rw[←HNn.out];exact hlt
   obtain⟨q,hq⟩:∃q,q=Q.getD k (0,[]):=⟨_,rfl⟩
   have hqk:Q.getD k (0,[])=Q[k]:=by simp[hkQ]
   have hqm:q∈Q:=by rw[hq,hqk];exact List.getElem_mem _
   have hks1:(Q.map (·.1))[k]?=some q.1:=by rw[List.getElem?_map,List.getElem?_eq_getElem hkQ,hq,hqk];rfl
   have hNk:=HNd.out k q.1 hks1
   simp only[←hq] at hNk
   obtain⟨f1,f2,f3,f4⟩:=hNk
   have hlq:LfOk q.2:=(HN.out.1.lf q hqm).ok
   have hDw:Below wr.heap.size wr wr.drew:=(Below.refl _ wr).drew
   have hKd:=pgKid wr.drew S J P base m t j at_ 1 (.slice ea 0 ec) (.slice xa n xc) (Q.map (·.1)) k q.1 ⟨0,q.2,[]⟩ (SpAx.keep hAw (KeepT.of_below hDw)) hf (RdZ.keep hOw.rd (KeepO.of_below hDw)) hks1 f1 f2 f3 rfl (by omega)
   unfold gT pgc at hKd
   have hKd:Calls Tryz.prog 72 #[.agg #[.pointer (some ⟨S,0,none⟩)],.agg #[.int .i64 at_,.int .i64 1,.slice ea 0 ec,.slice xa n xc],.int .i64 (k:Int)] wr.drew fun e w'=>(∃v ve vk L,e=.returned v∧PgO w' wr.drew.heap.size (q.1:Int) ⟨0,q.2,[]⟩ v ve vk L)∧Below wr.drew.heap.size wr.drew w':=hKd
   have hlt2:=HLt.out hlt
   rw[←hq] at hlt2
   have hEd:=each_drop stp s' Q hkQ
   rw[←hq] at hEd
   have HEd:=mkHid (HE.out.trans hEd)
   have hnx:k+1<n→Op.bytesLess (lstK q.2) (fstK (Q.getD (k+1) (0,[])).2)=true:=fun h1=>by
    have:=next_lt HN.out.2.2 (fun p hp=>(HN.out.1.lf p hp).ok.ne) (k:=k) (by rw[←HNn.out];exact h1)
    rw[←hq] at this
    exact this
   have HNx:=mkHid hnx
   have HLq:=mkHid hlq
   have HL2:=mkHid hlt2
   clear f1 f2 f3 f4 hks1 hqm hqk hAw hOw hfw hEd hnx hlq hlt2 HE hq
   go_upto_region 7 with fail
   refine lk0 (fun W=>W.cell? ⟨Wb,0,none⟩=some (.pointer (some ⟨S,0,none⟩))∧W.cell? ⟨w.heap.size,0,none⟩=some (.int .i64 at_)∧W.cell? ⟨w.heap.size,1,none⟩=some (.int .i64 1)∧W.cell? ⟨w.heap.size,2,none⟩=some (.slice ea 0 ec)∧W.cell? ⟨w.heap.size,3,none⟩=some (.slice xa n xc)) 11 (HCt.out _ _ _ _ (HVr.out.trans (VKeep.below hDw hNlw)) (HWr.out.on hDw)) (fun hHeld=>?_)
   refine lkC [10] 31 0 (.pointer (some ⟨Wb,0,none⟩)) rfl (Or.inl ⟨by rfl,?_⟩) hHeld ?_
   ·intro w hSw;go_simp
   (try simp only[Act.put,sIx,sZ0,sZ1])
   refine lkC [2,3,4,7,10] 32 1 (.pointer (some ⟨Wb,0,none⟩)) rfl (Or.inl ⟨by rfl,?_⟩) hHeld ?_
   ·intro w hSw;go_simp
   (try simp only[Act.put,sIx,sZ0,sZ1])
   refine lkC [3,4,7,10] 33 2 (.pointer (some ⟨Wb,0,none⟩)) rfl (Or.inl ⟨by rfl,?_⟩) hHeld ?_
   ·intro w hSw;go_simp
   (try simp only[Act.put,sIx,sZ0,sZ1])
   refine lkC [4,7,10] 34 3 (.pointer (some ⟨Wb,0,none⟩)) rfl (Or.inl ⟨by rfl,?_⟩) hHeld ?_
   ·intro w hSw;go_simp
   (try simp only[Act.put,sIx,sZ0,sZ1])
   refine lkC [7,10] 35 4 (.agg #[.pointer (some ⟨S,0,none⟩)]) rfl (Or.inl ⟨by rfl,?_⟩) hHeld ?_
   ·intro w hSw;obtain⟨s0,s1,s2,s3,s4⟩:=hSw;go_simp
   (try simp only[Act.put,sIx,sZ0,sZ1])
   refine lkC [7,10] 36 5 (.agg #[.int .i64 at_,.int .i64 1,.slice ea 0 ec,.slice xa n xc]) rfl (Or.inl ⟨by rfl,?_⟩) hHeld ?_
   ·intro w hSw;obtain⟨s0,s1,s2,s3,s4⟩:=hSw;go_simp
   (try simp only[Act.put,sIx,sZ0,sZ1])
   refine lkC [7,10] 37 6 (.int .i64 (k:Int)) rfl (Or.inl ⟨by rfl,?_⟩) hHeld ?_
   ·intro w hSw;go_simp
   (try simp only[Act.put,sIx,sZ0,sZ1])
   refine lkC [10] 39 8 (.slice fa fn fc) rfl (Or.inl ⟨by rfl,?_⟩) hHeld ?_
   ·intro w hSw;go_simp
   (try simp only[Act.put,sIx,sZ0,sZ1])
   refine lkC [10] 40 9 (.func (.func V) #[] cap) rfl (Or.inl ⟨by rfl,?_⟩) hHeld ?_
   ·intro w hSw;go_simp
   (try simp only[Act.put,sIx,sZ0,sZ1])
   refine lk1 7 rfl (fun K hK=>?_)
   go_simp
   refine hKd.mono ?_
   rintro r5 y5 ⟨⟨v5,ve5,vk5,L5,rfl,hp5⟩,hb5⟩
   obtain⟨e5,g5,x5,h5,hve5,hvk5⟩:=hp5.r.forms
   subst hve5 hvk5
   have hvv:=hp5.v
   subst hvv
   go_simp
   have hB5:=hDw.trans (hb5.mono hDw.size)
   refine hK.out _ _ (HCt.out _ _ _ _ (HVr.out.trans (VKeep.below hB5 hNlw)) (HWr.out.on hB5)) (fun hHeld=>?_)
   (try simp only[Act.put,sIx,sZ0,sZ1])
   clear hK K hKd
   have hEa:=HEa.out s' X' y5 (q.1:Int) _ _ q.2 L5 la ln lc lb (by have:=HRr.out;omega) (HKp.out _ _ _ _ HI.out.2 (KeepT.of_below hB5) (lw_below hB5)) (own_base hp5.e HI.out.1) (HWr.out.on hB5) hp5.r HLq.out (HLr.out.keep (KeepU.of_below hB5)) HL2.out
   have HB5:=mkHid hB5
   clear hp5 hb5 hB5
   obtain⟨bb,hbb⟩:∃b,b=(stp s' q.2).2:=⟨_,rfl⟩
   have HBb:=mkHid hbb
   clear hbb
   refine lk1 10 rfl (fun K hK=>?_)
   go_simp
   refine hEa.mono ?_
   rintro r6 y6 ⟨hr6,⟨X6,hX6,hI6⟩,⟨a6,n6,c6,hb6,hl6⟩,hk6⟩
   rw[←HBb.out] at hr6
   subst hr6
   go_simp
   have hV6:=(HVr.out.trans (VKeep.below HB5.out hNlw)).trans hk6
   refine hK.out _ _ (HCt.out _ _ _ _ hV6 hb6) (fun hHeld=>?_)
   (try simp only[Act.put,sIx,sZ0,sZ1])
   clear hK K hEa
   refine lkZ rfl (fun K hK=>?_)
   go_simp
   refine hK.out _ _ ?_
   (try simp only[Exit.then])
   (try simp only[Act.put,sIx,sZ0,sZ1])
   clear hK K hHeld
   have HI6:=mkHid (And.intro hX6 hI6)
   have HV6:=mkHid hV6
   have HW6:=mkHid (And.intro hb6 hl6)
   clear hI6 hX6 hV6 hb6 hl6 hk6 hDw c0 d0 d1 d2 d3
   cases bb with
   | false =>
    go_wp2_with fail
    go_ret
    refine⟨i,hil,HI12.out.1,HI12.out.2,?_⟩
    rw[←HS2.out,HEd.out,←HBb.out,if_neg (by simp)]
    exact⟨rfl,⟨_,HI6.out.2⟩,HV2.out.trans HV6.out⟩
   | true =>
    have hwk:IntKind.i64.wrap ((k:Int)+1)=(k:Int)+1:=wrapi64_in _ (by omega) (by omega)
    go_wp2_with fail
    go_roundg (n-(k+1))
    all_goals first|exact Nat.lt_of_lt_of_le (Nat.sub_lt_sub_left hlt (Nat.lt_succ_self k)) hkx|skip
    all_goals exact⟨k+1,(stp s' q.2).1,X6,a6,n6,c6,lstK q.2,hlt,Nat.le_refl _,by go_num,by (unfold Hid;have h1:=HRk.out s' q.2;have h2:=HRr.out;omega),HI6.out,by unfold Hid;rw[HEd.out,←HBb.out,if_pos rfl],HV6.out,HW6.out.1,HW6.out.2,HNx.out⟩
  ·have hlt':¬(k:Int)<(n:Int):=by omega
   have hkn2:k=Q.length:=by rw[←HNn.out];omega
   have hend:eachF stp s' ((Q.map (·.2)).drop k)=(s',true):=by rw[List.drop_of_length_le (by rw[List.length_map,hkn2];exact Nat.le_refl _)];rfl
   have HEnd:=mkHid hend
   clear hkn2 hend hAw hOw hfw
   go_wp2_with fail
   go_ret
   refine⟨i,hil,HI12.out.1,HI12.out.2,?_⟩
   rw[←HS2.out,HE.out,HEnd.out]
   exact⟨rfl,⟨_,HI.out.2⟩,HV2.out.trans HVr.out⟩
end
section
open Go.RowKit
theorem load_et13 (w:World)(g:Nat)(c0 c1:Value)(h:Blk w g 64 [c0,c1]):(loadVar 64 ⟨g,0,none⟩).run Tryz.prog w=.ok (.agg #[c0,c1]) w :=
 run_loadVar_row w g 64 64 #[c0,c1] (0,0) _ h Tryz.underlying64 (by kernel_rfl) (by kernel_rfl)
theorem codCopied (w:World)(e:Et)(q:EtA)(he:EtP w e q)(hk:e.k.length≤1000)(hv:e.v.length≤1000):
  Calls Tryz.prog 78 #[.agg (etc2 e q).toArray] w fun r w'=>(∃q',r=.returned (.agg (etc2 e q').toArray)∧EtP w' e q')∧Below w.heap.size w w':=by
 have W1:Below w.heap.size w ((w.alloc (.cells (etc2 e q).toArray 64)).alloc (.cells #[.slice none 0 0,.slice none 0 0] 64)):=((Below.refl _ w).alloc (Nat.le_refl _) _).alloc (by simp) _
 have k0:Blk ((w.alloc (.cells (etc2 e q).toArray 64)).alloc (.cells #[.slice none 0 0,.slice none 0 0] 64)) w.heap.size 64 (etc2 e q):=(Blk.newAt w w.heap.size 64 _ _ rfl rfl).alloc _
 have k1:Blk ((w.alloc (.cells (etc2 e q).toArray 64)).alloc (.cells #[.slice none 0 0,.slice none 0 0] 64)) (w.heap.size+1) 64 [.slice none 0 0,.slice none 0 0]:=Blk.newAt _ (w.heap.size+1) 64 _ _ (by simp) rfl
 generalize hW:(w.alloc (.cells (etc2 e q).toArray 64)).alloc (.cells #[.slice none 0 0,.slice none 0 0] 64)=Y0 at *
 have he0:=he.below W1
 have hD:Below Y0.heap.size Y0 Y0.drew:=(Below.refl _ Y0).drew
 have HC1:=codClone13 q.a e.k.length q.c e.k Y0.drew ((he0.below hD).is).k (by omega)
 have HC2:Hid (∀W,Below Y0.heap.size Y0 W→Calls Tryz.prog 75 #[.slice q.b e.v.length q.d] W fun x w'=>(∃v,x=.returned v∧OwnB w' W.heap.size v e.v)∧Below W.heap.size W w'):=fun W hW=>codClone13 q.b e.v.length q.d e.v W ((he0.below hW).is).v (by omega)
 obtain⟨kn,hkn⟩:∃x,x=e.k.length:=⟨_,rfl⟩
 obtain⟨vn,hvn⟩:∃x,x=e.v.length:=⟨_,rfl⟩
 unfold etc2 at *
 have HPo:Hid (∀(w':World) (a b:Option Addr) (c d:Nat),OwnB w' Y0.heap.size (.slice a e.k.length c) e.k→OwnB w' Y0.heap.size (.slice b e.v.length d) e.v→EtP w' e ⟨a,c,b,d⟩):=fun w' a b c d h1 h2 W hW=>⟨own_isB (n:=e.k.length) (own_keepO hW h1 (by decide)),own_isB (n:=e.v.length) (own_keepO hW h2 (by decide))⟩
 rw[←hkn] at HC1 k0 hW HPo ⊢
 rw[←hvn] at HC2 k0 hW HPo ⊢
 have HCt:Hid (∀W,Below Y0.heap.size Y0 W→W.cell? ⟨w.heap.size,0,none⟩=some (.slice q.a kn q.c)∧W.cell? ⟨w.heap.size,1,none⟩=some (.slice q.b vn q.d)):=fun W hW=>⟨(k0.on hW).cell 0,(k0.on hW).cell 1⟩
 have HK1:=mkHid k1
 have HW1:=mkHid W1
 have hsz:w.heap.size+1<Y0.heap.size:=k1.lt
 have HKn:=mkHid (And.intro hkn hvn)
 have HW:=mkHid hW
 clear he he0 k0 k1 W1 hkn hvn hW
 go_enter Tryz.func78,Tryz.ntmps78
 go_upto_region 1 with fail
 (try rw[HW.out])
 refine lk0 (fun W=>W.cell? ⟨w.heap.size,0,none⟩=some (.slice q.a kn q.c)∧W.cell? ⟨w.heap.size,1,none⟩=some (.slice q.b vn q.d)) 7 (HCt.out _ hD) (fun hHeld=>?_)
 refine lkT 3 0 (.pointer (some ⟨w.heap.size,0,none⟩)) rfl (Or.inl ⟨by rfl,?_⟩) hHeld ?_
 ·intro w hSw;go_simp
 (try simp only[Act.put,sIx,sZ0,sZ1])
 refine lkT 4 1 (.slice q.a kn q.c) rfl (Or.inl ⟨by rfl,?_⟩) hHeld ?_
 ·intro w hSw;obtain⟨s0,s1⟩:=hSw;go_simp
 (try simp only[Act.put,sIx,sZ0,sZ1])
 refine lkT 6 3 (.pointer (some ⟨w.heap.size,1,none⟩)) rfl (Or.inl ⟨by rfl,?_⟩) hHeld ?_
 ·intro w hSw;go_simp
 (try simp only[Act.put,sIx,sZ0,sZ1])
 refine lkT 7 4 (.slice q.b vn q.d) rfl (Or.inl ⟨by rfl,?_⟩) hHeld ?_
 ·intro w hSw;obtain⟨s0,s1⟩:=hSw;go_simp
 (try simp only[Act.put,sIx,sZ0,sZ1])
 refine lk1 2 rfl (fun K hK=>?_)
 go_simp
 refine HC1.mono ?_
 rintro r1 y1 ⟨⟨v1,rfl,ho1⟩,hb1⟩
 obtain⟨a1,c1,hv1,-⟩:=ho1.isB
 subst hv1
 rw[←HKn.out.1] at ho1 ⊢
 go_simp
 have hB1:=hD.trans (hb1.mono hD.size)
 refine hK.out _ _ (HCt.out _ hB1) (fun hHeld=>?_)
 (try simp only[Act.put,sIx,sZ0,sZ1])
 clear hK K HC1
 refine lk1 5 rfl (fun K hK=>?_)
 go_simp
 refine(HC2.out y1 hB1).mono ?_
 rintro r2 y2 ⟨⟨v2,rfl,ho2⟩,hb2⟩
 obtain⟨a2,c2,hv2,-⟩:=ho2.isB
 subst hv2
 rw[←HKn.out.2] at ho2 ⊢
 go_simp
 have hB2:=hB1.trans (hb2.mono hB1.size)
 refine hK.out _ _ (HCt.out _ hB2) (fun hHeld=>?_)
 (try simp only[Act.put,sIx,sZ0,sZ1])
 clear hK K HC2
 refine lkT 9 6 (.agg #[.slice a1 kn c1,.slice a2 vn c2]) rfl (Or.inl ⟨by rfl,?_⟩) hHeld ?_
 ·intro w hSw;go_simp
 (try simp only[Act.put,sIx,sZ0,sZ1])
 have kr:=HK1.out.on hB2
 have x0:=kr.cell 0
 have x1:=kr.cell 1
 have f0:=kr.frozen 0
 have f1:=kr.frozen 1
 simp only[gZ0,gZ1] at x0 x1
 have hk9:=(kr.set 0 (.slice a1 kn c1)).set 1 (.slice a2 vn c2)
 have hT9:KeepT [64] y2 ((y2.setCell ⟨w.heap.size+1,0,none⟩ (.slice a1 kn c1)).setCell ⟨w.heap.size+1,1,none⟩ (.slice a2 vn c2)):=((KeepT.refl _ y2).set kr (by decide) 0 _).set (kr.set 0 _) (by decide) 1 _
 have hB9:=((HW1.out.trans (hB2.mono HW1.out.size)).setCell (p:=⟨w.heap.size+1,0,none⟩) (by show w.heap.size≤w.heap.size+1;omega) (.slice a1 kn c1)).setCell (p:=⟨w.heap.size+1,1,none⟩) (by show w.heap.size≤w.heap.size+1;omega) (.slice a2 vn c2)
 have hE2:EtP y2 e ⟨a1,c1,a2,c2⟩:=HPo.out y2 a1 a2 c1 c2 (own_keepO (us:=[5]) (KeepO.of_below hb2) (own_base ho1 (Nat.le_refl _)) (by decide)) (own_base ho2 hB1.size)
 have HF:=mkHid (And.intro hk9 (And.intro hB9 (hE2.keep (KeepO.ofT hT9 (by decide)))))
 clear hk9 hT9 hB9 hE2 ho1 ho2 hb1 hb2 hB1 hB2 kr hD
 refine lkZ rfl (fun K hK=>?_)
 go_simp
 refine hK.out _ _ ?_
 (try simp only[Exit.then])
 (try simp only[Act.put,sIx,sZ0,sZ1])
 clear hK K hHeld
 go_wp2_with fail
 refine bodyPost_ret (results_cell1 (P:=Tryz.prog) rfl _ _ (w.heap.size+1) _ rfl (load_et13 _ _ _ _ HF.out.1)) rfl ?_
 exact⟨⟨⟨a1,c1,a2,c2⟩,rfl,HF.out.2.2⟩,HF.out.2.1⟩
theorem appN_run {w:World}{base B:Nat}{v:Value}{L:List Eq3}{x:Eq3}(ho:OwnN w base v L)(hB:Blk w B 64 (etc2 x.1 x.2))(hn:L.length≤1000000)(hb:base≤w.heap.size)(ty:TypeId):
  ∃v' w',(Builtin.append_ #[50,50] ty #[v,.slice (some ⟨B,0,none⟩) 1 1]).run Tryz.prog w=.ok v' w'∧OwnN w' base v' (L++[x])∧w.grownBy w' v.ownBlock∧(v'.ownBlock=v.ownBlock∨v'.ownBlock=some w.heap.size):=by
 obtain⟨i0,hi,hz0,hz1,hz2⟩:=info_parts infoN
 have hc:∀j u,(etc2 x.1 x.2)[j]?=some u→w.cell? ((⟨B,0,none⟩:Addr).add j)=some u:=fun j u hu=>by
  rw[Addr.add_lit,Nat.zero_add,hB.cell]
  exact hu
 have hl:(etc2 x.1 x.2).length=1 * i0.size:=by rw[hz1];rfl
 have hone:∀u∈etc2 x.1 x.2,u.oneCell'=true:=fun u hu=>by
  simp only[etc2,List.mem_cons,List.not_mem_nil,or_false] at hu
  rcases hu with rfl|rfl<;>rfl
 have hby:(L.length+1) * 48≤140737488355328:=by omega
 obtain⟨v',w',hr,h2,h3,_⟩:=run_append_own (P:=Tryz.prog) (w:=w) base 50 ty 64 i0 etZ 2 48 Tryz.underlying50 hi hz0 hz1 hz2 rfl (by decide) v L.length (ets L) ho ⟨B,0,none⟩ 1 1 (etc2 x.1 x.2) (by rw[hl,hz1]) hc hone (bytes_max (by decide) hby) hby hb
 have hets:ets [x]=etc2 x.1 x.2:=by simp[ets]
 refine⟨v',w',hr,?_,h3,?_⟩
 ·unfold OwnN
  rw[ets_append,hets,List.length_append,List.length_singleton]
  exact h2
 rcases ho.2 with⟨rfl,h0⟩|⟨g,cap,cur,rfl,hbg,hg,hle,hm,hsz,htk⟩
 ·have hr2:=run_append_nil (P:=Tryz.prog) w 50 ty 64 i0 etZ Tryz.underlying50 hi hz0 ⟨B,0,none⟩ 1 1 (etc2 x.1 x.2) hl hc (by omega) (by omega) (by rw[hz2];omega)
  rw[hr2] at hr
  injection hr with e1 _
  exact .inr (by rw[←e1];rfl)
 ·have hox:(ets L).length=L.length * i0.size:=by rw[hz1,ets_length]
  by_cases hroom:L.length+1≤cap
  ·have hr2:=run_append_room (P:=Tryz.prog) w 50 ty 64 i0 Tryz.underlying50 hi g L.length cap cur hg ⟨B,0,none⟩ 1 1 (etc2 x.1 x.2) hl hc hone hroom (by rw[hl,hz1,hsz];have:(L.length+1) * 2≤cap * 2:=Nat.mul_le_mul_right _ hroom;omega)
   rw[hr2] at hr
   injection hr with e1 _
   exact .inl (by rw[←e1];rfl)
  ·have holds:∀j u,(ets L)[j]?=some u→w.cell? ((⟨g,0,none⟩:Addr).add j)=some u:=ho.cells (g:=g) rfl
   have hr2:=run_append_grow (P:=Tryz.prog) w 50 ty 64 i0 etZ Tryz.underlying50 hi hz0 ⟨g,0,none⟩ L.length cap (ets L) hox holds ⟨B,0,none⟩ 1 1 (etc2 x.1 x.2) hl hc (by omega) (by omega) (growslice_fits (by omega) (by rw[hz2];exact hby))
   rw[hr2] at hr
   injection hr with e1 _
   exact .inr (by rw[←e1];rfl)
def gat (fr:List UInt8)(most:Int)(acc l:List Et):List Et:=acc++(l.drop (atE l fr)).take (min (most-(acc.length:Int)).toNat 1000)
def stpS (fr:List UInt8)(most:Int)(acc l:List Et):List Et × Bool:=(gat fr most acc l,decide (((gat fr most acc l).length:Int)<most))
def rkS (acc:List Et):Nat:=300-acc.length/1000
structure InvS (fl Fb Lb Mb Nl:Nat)(fa:Option Addr)(fn fc:Nat)(fr:List UInt8)(most:Int)(acc:List Et)(X:Nat)(W:World):Prop where
 f:Blk W Fb 33 [.slice fa fn fc]
 b:BsP fl W fa fn fc fr
 m:Blk W Mb 3 [.int .i64 most]
 l:∃v L,Blk W Lb 50 [v]∧OwnN W Nl v L∧(∀k,v.ownBlock=some k→k<X)∧L.map Prod.fst=acc∧∀x∈L,EtP W x.1 x.2
theorem gat_len (fr:List UInt8)(most:Int)(acc l:List Et):(gat fr most acc l).length≤acc.length+1000:=by
 unfold gat
 rw[List.length_append,List.length_take]
 omega
theorem InvS.keep {fl Fb Lb Mb Nl:Nat}{fa:Option Addr}{fn fc:Nat}{fr:List UInt8}{most:Int}{acc:List Et}{X:Nat}{W W':World}(h:InvS fl Fb Lb Mb Nl fa fn fc fr most acc X W)(hk:KeepT [144] W W')(hlw:∀k,k<Nl→k<W.heap.size→W'.heap[k]?=W.heap[k]?)(hfl:fl≤Nl):InvS fl Fb Lb Mb Nl fa fn fc fr most acc X W':=by
 obtain⟨v,L,h1,h2,h3,h4,h5⟩:=h.l
 exact⟨hk.blk h.f (by decide),h.b.keep ⟨KeepO.ofT hk (by decide),fun k h1 h2=>hlw k (by omega) h2⟩,hk.blk h.m (by decide),v,L,hk.blk h1 (by decide),own_keepO (us:=[64]) (KeepO.ofT hk (by decide)) h2 (by decide),h3,h4,fun x hx=>(h5 x hx).keep (KeepO.ofT hk (by decide))⟩
theorem callScan (fl Fb Lb Mb N0 Nl:Nat)(fa:Option Addr)(fn fc:Nat)(fr:List UInt8)(most:Int)(hL:Lb<N0)(hNl:Nl≤Lb)(acc:List Et)(X:Nat)(W:World)(at_:Int)(p:Pg)(ve vk:Value)(L:List Eq3)(hrk:0<rkS acc)(hI:InvS fl Fb Lb Mb Nl fa fn fc fr most acc X W)(hp:PgR 0 W p ve vk L)(hon:OwnN W X ve L)(hs:SrtE p.es)(hn:p.es.length≤1000)(hit:∀e∈p.es,itemOk e.k e.v=true)(hfl:fl≤Nl):
  Calls Tryz.prog 77 #[.agg (pgc at_ p.lv ve vk).toArray,.pointer (some ⟨Fb,0,none⟩),.pointer (some ⟨Lb,0,none⟩),.pointer (some ⟨Mb,0,none⟩)] W fun e w'=>e=.returned (.bool (stpS fr most acc p.es).2)∧InvS fl Fb Lb Mb Nl fa fn fc fr most (stpS fr most acc p.es).1 w'.heap.size w'∧VKeep N0 Nl [64] W w':=by
 obtain⟨ea,ec,xa,xc,rfl,rfl⟩:=hp.forms
 have hLl:=hp.len
 have hes:=hp.es
 have hacc:acc.length<300000:=by unfold rkS at hrk;omega
 have W1:Below W.heap.size W (W.alloc (.cells (pgc at_ p.lv (.slice ea p.es.length ec) (.slice xa p.ks.length xc)).toArray 133)):=(Below.refl _ W).alloc (Nat.le_refl _) _
 have kp:Blk (W.alloc (.cells (pgc at_ p.lv (.slice ea p.es.length ec) (.slice xa p.ks.length xc)).toArray 133)) W.heap.size 133 (pgc at_ p.lv (.slice ea p.es.length ec) (.slice xa p.ks.length xc)):=Blk.new W _ _
 generalize hW:W.alloc (.cells (pgc at_ p.lv (.slice ea p.es.length ec) (.slice xa p.ks.length xc)).toArray 133)=Y0 at *
 have hI0:=hI.keep (KeepT.of_below W1) (lw_below W1) hfl
 have HFd:=codFind13 at_ p.lv (.slice ea p.es.length ec) (.slice xa p.ks.length xc) L fa fn fc fr Y0 (hp.e.keep (KeepU.of_below W1)) (by rw[hes];exact hs) hI0.b.is (by rw[hLl];exact hn)
 rw[hes] at HFd
 have hal:=atE_le p.es fr
 obtain⟨v0,L0,hl1,hl2,hl3,hl4,hl5⟩:=hI0.l
 obtain⟨va,vc,hv0,-⟩:=hl2.form
 have hln0:L0.length=acc.length:=by rw[←hl4,List.length_map]
 have hsep:∀kk,v0.ownBlock=some kk→(Value.slice ea p.es.length ec).ownBlock≠some kk:=fun kk h1 h2=>by
  have h3:=hl3 kk h1
  have h4:=(World.ownsRow.lt hon kk h2).1
  omega
 have hV0:VKeep N0 Nl [64] W Y0:=VKeep.below W1 (by have:=hI.l;obtain⟨_,_,q1,_⟩:=this;have:=q1.lt;omega)
 have HI0:=mkHid (And.intro hI0.f (And.intro hI0.b hI0.m))
 have HL0:=mkHid (And.intro hl1 (And.intro hl2 (And.intro hl4 hl5)))
 have HSep:=mkHid hsep
 have HV0:=mkHid hV0
 have HOn:=mkHid (hon.on W1)
 have HLx:Hid (∀x∈L,EtP Y0 x.1 x.2):=fun x hx=>((hp.e.is x hx).below W1).p
 have HKp:=mkHid kp
 have HIt:=mkHid hit
 have HEs:=mkHid (And.intro hes hLl)
 obtain⟨a,ha⟩:∃a,a=atE p.es fr:=⟨_,rfl⟩
 obtain⟨hh,hhh⟩:∃b,b=hasE13 p.es fr:=⟨_,rfl⟩
 rw[←ha,←hhh] at HFd
 rw[←ha] at hal
 obtain⟨n,hnn⟩:∃n,n=p.es.length:=⟨_,rfl⟩
 unfold pgc at *
 rw[←hnn] at HFd hal hn HSep HOn HKp hW ⊢
 have HA:=mkHid ha
 have HNn:=mkHid hnn
 have hb2:=HI0.out.1.cell 0
 have d0:=HKp.out.cell 0
 have d1:=HKp.out.cell 1
 have d2:=HKp.out.cell 2
 have d3:=HKp.out.cell 3
 simp only[gZ0,gZ1] at hb2 d0 d1 d2 d3
 have hW2:=HV0.out.t.size
 clear hI hp hon hs hit hI0 hl1 hl2 hl3 hl4 hl5 hsep hV0 kp W1 hes hLl ha hhh hnn hln0 hv0
 generalize p.ks.length=kn at *
 generalize hlv:(p.lv:Int)=lv at *
 clear hlv
 go_enter Tryz.func77,Tryz.ntmps77
 go_upto_region 1 with fail
 (try rw[hW])
 clear hW
 go_wp2_with (go_at_call 74;refine HFd.mono ?_;rintro r1 y1 ⟨rfl,hb1⟩;have HB1:=mkHid hb1;clear hb1)
 clear hb2 d0 d1 d2 d3
 go_loopg [6] n (fun kx s6 wr=>∃(k:Nat) (v:Value) (Lk:List Eq3),k≤n∧n-k≤kx∧s6=.int .i64 (k:Int)∧a≤k∧Hid (k-a≤(most-(acc.length:Int)).toNat∧Lk.map Prod.fst=acc++(p.es.drop a).take (k-a))∧Hid (Blk wr Lb 50 [v]∧OwnN wr Nl v Lk∧∀x∈Lk,EtP wr x.1 x.2)∧Hid (∀kk,v.ownBlock=some kk→(Value.slice ea n ec).ownBlock≠some kk)∧Hid (VKeep N0 Nl [64] W wr)∧Hid (Blk wr Fb 33 [.slice fa fn fc]∧BsP fl wr fa fn fc fr∧Blk wr Mb 3 [.int .i64 most])∧Hid (Blk wr W.heap.size 133 [.int .i64 at_,.int .i64 lv,.slice ea n ec,.slice xa kn xc]∧OwnN wr X (.slice ea n ec) L∧∀x∈L,EtP wr x.1 x.2))
 case atStart=>exact⟨a,v0,L0,by have h:=hal;exact h,by omega,rfl,Nat.le_refl _,⟨by omega,by rw[HL0.out.2.2.1,Nat.sub_self,List.take_zero,List.append_nil]⟩,⟨HL0.out.1.on HB1.out,HL0.out.2.1.on HB1.out,fun x hx=>(HL0.out.2.2.2 x hx).below HB1.out⟩,HSep.out,HV0.out.trans (VKeep.below HB1.out (by have:=HL0.out.1.lt;omega)),⟨HI0.out.1.on HB1.out,HI0.out.2.1.keep (KeepU.of_below HB1.out),HI0.out.2.2.on HB1.out⟩,⟨HKp.out.on HB1.out,HOn.out.on HB1.out,fun x hx=>(HLx.out x hx).below HB1.out⟩⟩
 case round =>
  obtain⟨k,v,Lk,hkn,hkx,rfl,hak,HT,HO,HS,HV,HI,HP⟩:=hrel
  obtain⟨va,vc,hv,-⟩:=HO.out.2.1.form
  subst hv
  have l0:=HO.out.1.cell 0
  have d2:=HP.out.1.cell 2
  have m0:=HI.out.2.2.cell 0
  simp only[gZ0,gZ1] at l0 d2 m0
  obtain⟨ln,hln⟩:∃ln,ln=Lk.length:=⟨_,rfl⟩
  rw[←hln] at l0
  have hLn:ln=acc.length+(k-a):=by
   have:=congrArg List.length HT.out.2
   rw[List.length_map,←hln,List.length_append,List.length_take,List.length_drop,←HNn.out] at this
   omega
  have HLn:=mkHid hln
  have HLa:=mkHid hLn
  clear hln hLn
  by_cases hgo:k<n∧(ln:Int)<most
  ·obtain⟨hk,hm⟩:=hgo
   have hk':(k:Int)<(n:Int):=by omega
   have hk0:(0:Int)≤(k:Int):=by omega
   have hLL:L.length=n:=by rw[HEs.out.2,HNn.out]
   obtain⟨g,hge,hg0,hg1,hcl⟩:=HP.out.2.1.at_ k (by omega)
   subst hge
   obtain⟨x,hx⟩:∃x,x=L[k]'(by omega):=⟨_,rfl⟩
   have hxm:x∈L:=by rw[hx];exact List.getElem_mem _
   have hxe:x.1=p.es[k]'(by rw[←HNn.out];exact hk):=by
    have h1:(L.map Prod.fst)[k]?=p.es[k]?:=by rw[HEs.out.1]
    rw[List.getElem?_map,List.getElem?_eq_getElem (by omega),List.getElem?_eq_getElem (by rw[←HNn.out];exact hk)] at h1
    rw[hx]
    exact Option.some.inj h1
   have hif:=item_facts (HIt.out x.1 (by rw[hxe];exact List.getElem_mem _))
   have g0:=hcl 0 (by omega)
   have g1:=hcl 1 (by omega)
   rw[←hx] at g0 g1
   simp only[etc2,Nat.add_zero,gZ0,gZ1] at g0 g1
   have hDw:Below wr.heap.size wr wr.drew:=(Below.refl _ wr).drew
   have hCp:=codCopied wr.drew x.1 x.2 ((HP.out.2.2 x hxm).below hDw) (by omega) (by omega)
   unfold etc2 at hCp
   generalize hkl:x.1.k.length=kl at *
   generalize hvl:x.1.v.length=vl at *
   have HKV:=mkHid (And.intro hkl hvl)
   have HXe:=mkHid hxe
   clear hkl hvl hcl hx hxe
   have HCt:Hid (∀V,Below wr.heap.size wr V→V.cell? ⟨Lb,0,none⟩=some (.slice va Lk.length vc)∧V.cell? ⟨W.heap.size,2,none⟩=some (.slice (some ⟨g,0,none⟩) n ec)∧V.cell? ⟨g,k * 2,none⟩=some (.slice x.2.a kl x.2.c)∧V.cell? ⟨g,k * 2+1,none⟩=some (.slice x.2.b vl x.2.d)):=fun V hV=>by
    have hc:=fun (i:Nat)=>cell_same (hV.5 g hg1) i
    exact⟨(HO.out.1.on hV).cell 0,(HP.out.1.on hV).cell 2,(hc _).trans g0,(hc _).trans g1⟩
   have hgd1:(decide ((k:Int)<(n:Int)))=true:=decide_eq_true hk'
   have hgd2:(decide ((ln:Int)<most))=true:=decide_eq_true hm
   go_upto_region 4 with fail
   refine lk0 (fun V=>V.cell? ⟨Lb,0,none⟩=some (.slice va Lk.length vc)∧V.cell? ⟨W.heap.size,2,none⟩=some (.slice (some ⟨g,0,none⟩) n ec)∧V.cell? ⟨g,k * 2,none⟩=some (.slice x.2.a kl x.2.c)∧V.cell? ⟨g,k * 2+1,none⟩=some (.slice x.2.b vl x.2.d)) 9 (HCt.out _ hDw) (fun hHeld=>?_)
   refine lkC [8] 27 0 (.slice va Lk.length vc) rfl (Or.inl ⟨by rfl,?_⟩) hHeld ?_
   ·intro w hSw;obtain⟨s0,s1,s2,s3⟩:=hSw;go_simp
   (try simp only[Act.put,sIx,sZ0,sZ1])
   refine lkC [2,4,5,6,7,8] 28 1 (.pointer (some ⟨W.heap.size,2,none⟩)) rfl (Or.inl ⟨by rfl,?_⟩) hHeld ?_
   ·intro w hSw;go_simp
   (try simp only[Act.put,sIx,sZ0,sZ1])
   refine lkC [4,5,6,7,8] 29 2 (.slice (some ⟨g,0,none⟩) n ec) rfl (Or.inl ⟨by rfl,?_⟩) hHeld ?_
   ·intro w hSw;obtain⟨s0,s1,s2,s3⟩:=hSw;go_simp
   (try simp only[Act.put,sIx,sZ0,sZ1])
   refine lkC [4,5,6,7,8] 30 3 (.int .i64 (k:Int)) rfl (Or.inl ⟨by rfl,?_⟩) hHeld ?_
   ·intro w hSw;go_simp
   (try simp only[Act.put,sIx,sZ0,sZ1])
   refine lkC [5,6,7,8] 31 4 (.pointer (some ⟨g,k * 2,none⟩)) rfl (Or.inl ⟨by rfl,?_⟩) hHeld ?_
   ·intro w hSw;go_simp
   (try simp only[Act.put,sIx,sZ0,sZ1])
   refine lkC [6,7,8] 32 5 (.agg #[.slice x.2.a kl x.2.c,.slice x.2.b vl x.2.d]) rfl (Or.inl ⟨by rfl,?_⟩) hHeld ?_
   ·intro w hSw;obtain⟨s0,s1,s2,s3⟩:=hSw;go_simp
   (try simp only[Act.put,sIx,sZ0,sZ1])
   refine lk1 6 rfl (fun K hK=>?_)
   go_simp
   refine hCp.mono ?_
   rintro r5 y5 ⟨⟨q5,rfl,he5⟩,hb5⟩
   go_simp
   have hB5:=hDw.trans (hb5.mono hDw.size)
   refine hK.out _ _ (HCt.out _ hB5) (fun hHeld=>?_)
   (try simp only[Act.put,sIx,sZ0,sZ1])
   clear hK K hCp
   refine lk1 7 rfl (fun K hK=>?_)
   go_simp
   have hA6:Below y5.heap.size y5 (y5.alloc (.cells #[.slice q5.a kl q5.c,.slice q5.b vl q5.d] 64)):=(Below.refl _ y5).alloc (Nat.le_refl _) _
   have kB6:Blk (y5.alloc (.cells #[.slice q5.a kl q5.c,.slice q5.b vl q5.d] 64)) y5.heap.size 64 (etc2 x.1 q5):=by
    unfold etc2
    rw[HKV.out.1,HKV.out.2]
    exact Blk.newAt y5 y5.heap.size 64 _ _ rfl rfl
   have hB6:=hB5.trans (hA6.mono hB5.size)
   have he6:=he5.below hA6
   refine hK.out _ _ (HCt.out _ hB6) (fun hHeld=>?_)
   (try simp only[Act.put,sIx,sZ0,sZ1])
   clear hK K
   have hNlw:Nl≤(y5.alloc (.cells #[.slice q5.a kl q5.c,.slice q5.b vl q5.d] 64)).heap.size:=Nat.le_trans (Nat.le_trans hNl (Nat.le_of_lt HO.out.1.lt)) hB6.size
   obtain⟨v7,y7,hr7,hO7,hg7,hfr7⟩:=appN_run (x:=(x.1,q5)) (HO.out.2.1.on hB6) kB6 (by have:=HLa.out;rw[←HLn.out];omega) hNlw 50
   have hsz6:wr.heap.size<(y5.alloc (.cells #[.slice q5.a kl q5.c,.slice q5.b vl q5.d] 64)).heap.size:=Nat.lt_of_le_of_lt hB5.size kB6.lt
   generalize y5.alloc (.cells #[.slice q5.a kl q5.c,.slice q5.b vl q5.d] 64)=y6 at *
   have hT7:KeepT [64] y6 y7:=KeepT.grownN (HO.out.2.1.on hB6) hg7
   have hng:∀o,y6.heap[g]?=some o→y7.heap[g]?=some o:=fun o ho=>(hg7.block g (Nat.lt_trans hg1 hsz6) (fun e=>HS.out g e.symm rfl)).trans ho
   have hg6:y6.heap[g]?=wr.heap[g]?:=hB6.5 g hg1
   have hg7':y7.heap[g]?=wr.heap[g]?:=by
    obtain⟨o,ho⟩:∃o,wr.heap[g]?=some o:=⟨_,Array.getElem?_eq_getElem hg1⟩
    rw[ho]
    exact hng o (hg6.trans ho)
   obtain⟨v7a,v7c,hv7,-⟩:=hO7.form
   obtain⟨nl,hnl⟩:∃nl,nl=(Lk++[(x.1,q5)]).length:=⟨_,rfl⟩
   rw[←hnl] at hv7
   subst hv7
   clear hnl
   have hLb7:=hT7.blk (HO.out.1.on hB6) (by decide)
   have hPb7:=hT7.blk (HP.out.1.on hB6) (by decide)
   have hS7:(fun V:World=>V.cell? ⟨Lb,0,none⟩=some (.slice va Lk.length vc)∧V.cell? ⟨W.heap.size,2,none⟩=some (.slice (some ⟨g,0,none⟩) n ec)∧V.cell? ⟨g,k * 2,none⟩=some (.slice x.2.a kl x.2.c)∧V.cell? ⟨g,k * 2+1,none⟩=some (.slice x.2.b vl x.2.d)) y7:=⟨hLb7.cell 0,hPb7.cell 2,(cell_same hg7' _).trans g0,(cell_same hg7' _).trans g1⟩
   refine lk1 8 rfl (fun K hK=>?_)
   refine step_app_run y6 (by rfl) _ _ 50 50 50 (by rfl) (by rfl) _ _ (by rfl) (by rfl) hr7 35 rfl ?_
   refine hK.out _ _ hS7 (fun hHeld=>?_)
   (try simp only[Act.put,sIx,sZ0,sZ1])
   clear hK K
   have l7:=hLb7.cell 0
   have lf7:=hLb7.frozen 0
   simp only[List.getElem?_cons_zero] at l7
   have hT8:KeepT [50] y7 (y7.setCell ⟨Lb,0,none⟩ (.slice v7a nl v7c)):=(KeepT.refl _ y7).set hLb7 (by decide) 0 _
   have hLb8:=hLb7.set 0 (.slice v7a nl v7c)
   have hTx:KeepT [64,50] wr (y7.setCell ⟨Lb,0,none⟩ (.slice v7a nl v7c)):=(KeepT.of_below hB6).trans ((hT7.more (by decide)).trans (hT8.more (by decide)))
   have HN8:=mkHid (And.intro hLb8 (And.intro (own_keepO (us:=[64]) (KeepO.ofT hT8 (by decide)) hO7 (by decide):OwnN (y7.setCell ⟨Lb,0,none⟩ (.slice v7a nl v7c)) Nl (.slice v7a nl v7c) (Lk++[(x.1,q5)])) hTx))
   have HE8:Hid (∀z∈Lk++[(x.1,q5)],EtP (y7.setCell ⟨Lb,0,none⟩ (.slice v7a nl v7c)) z.1 z.2):=fun z hz=>by
    rcases List.mem_append.1 hz with h1|h1
    ·exact(HO.out.2.2 z h1).keep (KeepO.ofT hTx (by decide))
    ·rw[List.mem_singleton.1 h1]
     exact he6.keep (KeepO.ofT ((hT7.more (us:=[64,50]) (by decide)).trans (hT8.more (by decide))) (by decide))
   have HT8:Hid (k+1-a≤(most-(acc.length:Int)).toNat∧(Lk++[(x.1,q5)]).map Prod.fst=acc++(p.es.drop a).take (k+1-a)):=by
    refine⟨by have:=HLa.out;omega,?_⟩
    have h1:(p.es.drop a)[k-a]?=some x.1:=by rw[List.getElem?_drop,show a+(k-a)=k by omega,HXe.out,List.getElem?_eq_getElem]
    rw[List.map_append,HT.out.2,show k+1-a=(k-a)+1 by omega,List.take_add_one,h1,List.append_assoc]
    rfl
   have HS8:Hid (∀kk,(Value.slice v7a nl v7c).ownBlock=some kk→(Value.slice (some ⟨g,0,none⟩) n ec).ownBlock≠some kk):=fun kk h1 h2=>by
    rcases hfr7 with h3|h3
    ·exact HS.out kk (h3▸h1) h2
    ·rw[h3] at h1
     have e1:=Option.some.inj h1
     have e2:g=kk:=Option.some.inj h2
     omega
   have HV8:Hid (VKeep N0 Nl [64] W (y7.setCell ⟨Lb,0,none⟩ (.slice v7a nl v7c))):=HV.out.trans ⟨fun B o hB hn ht=>by
     have h1:=hT7.same B o ((hB6.5 B (Array.getElem?_eq_some_iff.1 hB).1).trans hB) ht
     exact(Below.heap_setCell _ _ _ _ (by show B≠Lb;omega)).trans h1,hTx.more (by decide),((hB6.mono (Nat.le_trans hNl (Nat.le_of_lt HO.out.1.lt))).grown hg7 hNlw (fun kk e=>(World.ownsRow.lt HO.out.2.1 kk e).1)).setCell (p:=⟨Lb,0,none⟩) hNl _⟩
   have HI8:Hid (Blk (y7.setCell ⟨Lb,0,none⟩ (.slice v7a nl v7c)) Fb 33 [.slice fa fn fc]∧BsP fl (y7.setCell ⟨Lb,0,none⟩ (.slice v7a nl v7c)) fa fn fc fr∧Blk (y7.setCell ⟨Lb,0,none⟩ (.slice v7a nl v7c)) Mb 3 [.int .i64 most]):=⟨hTx.blk HI.out.1 (by decide),HI.out.2.1.keep (KeepU.ofB (KeepO.ofT hTx (by decide)) (((hB6.mono (Nat.le_trans hNl (Nat.le_of_lt HO.out.1.lt))).grown hg7 hNlw (fun kk e=>(World.ownsRow.lt HO.out.2.1 kk e).1)).setCell (p:=⟨Lb,0,none⟩) hNl _) hfl),hTx.blk HI.out.2.2 (by decide)⟩
   have hon6:OwnN y6 X (.slice (some ⟨g,0,none⟩) n ec) L:=HP.out.2.1.on hB6
   have hon7:OwnN y7 X (.slice (some ⟨g,0,none⟩) n ec) L:=World.ownsRow.kept hon6 hg7 (.inr (fun e=>HS.out g e.symm rfl))
   have HP8:Hid (Blk (y7.setCell ⟨Lb,0,none⟩ (.slice v7a nl v7c)) W.heap.size 133 [.int .i64 at_,.int .i64 lv,.slice (some ⟨g,0,none⟩) n ec,.slice xa kn xc]∧OwnN (y7.setCell ⟨Lb,0,none⟩ (.slice v7a nl v7c)) X (.slice (some ⟨g,0,none⟩) n ec) L∧∀x∈L,EtP (y7.setCell ⟨Lb,0,none⟩ (.slice v7a nl v7c)) x.1 x.2):=⟨hTx.blk HP.out.1 (by decide),own_keepO (us:=[64]) (KeepO.ofT hT8 (by decide)) hon7 (by decide),fun z hz=>(HP.out.2.2 z hz).keep (KeepO.ofT hTx (by decide))⟩
   clear hon6 hon7 hT7 hT8 hTx hng hg6 hg7 hg7' hO7 hfr7 hLb8 hPb7 hS7 hLb7 hB6 hB5 hb5 he5 he6 kB6
   refine lkZ rfl (fun K hK=>?_)
   go_simp
   refine hK.out _ _ ?_
   (try simp only[Exit.then])
   (try simp only[Act.put,sIx,sZ0,sZ1])
   clear hK K hHeld
   have hwk:IntKind.i64.wrap ((k:Int)+1)=(k:Int)+1:=wrapi64_in _ (by omega) (by omega)
   generalize y7.setCell ⟨Lb,0,none⟩ (.slice v7a nl v7c)=Y8 at *
   go_wp2_with fail
   go_roundg (n-(k+1))
   all_goals first|exact Nat.lt_of_lt_of_le (Nat.sub_lt_sub_left hk (Nat.lt_succ_self k)) hkx|skip
   all_goals exact⟨k+1,.slice v7a nl v7c,Lk++[(x.1,q5)],hk,Nat.le_refl _,by go_num,by omega,HT8.out,⟨HN8.out.1,HN8.out.2.1,HE8.out⟩,HS8.out,HV8.out,HI8.out,HP8.out⟩
  ·have hfin:Lk.map Prod.fst=gat fr most acc p.es:=by
    rw[HT.out.2]
    unfold gat
    rw[←HA.out]
    congr 1
    have hT:=HT.out.1
    have hdl:(p.es.drop a).length=n-a:=by rw[List.length_drop,←HNn.out]
    by_cases hk:k<n
    ·have h1:¬(ln:Int)<most:=fun h=>hgo ⟨hk,h⟩
     have hLn:=HLa.out
     congr 1
     omega
    ·rw[List.take_of_length_le (by omega),List.take_of_length_le (by omega)]
   have hres:decide ((ln:Int)<most)=(stpS fr most acc p.es).2:=by
    unfold stpS
    rw[←hfin,List.length_map,←HLn.out]
   have HRes:=mkHid hres
   have HFin:=mkHid hfin
   clear hfin hres
   have hpost:InvS fl Fb Lb Mb Nl fa fn fc fr most (stpS fr most acc p.es).1 wr.heap.size wr:=⟨HI.out.1,HI.out.2.1,HI.out.2.2,_,Lk,HO.out.1,HO.out.2.1,fun kk h=>(World.ownsRow.lt HO.out.2.1 kk h).2,HFin.out,HO.out.2.2⟩
   have HPost:=mkHid hpost
   clear hpost
   by_cases hk:k<n
   ·have hk':(k:Int)<(n:Int):=by omega
    have hm':¬(ln:Int)<most:=fun h=>hgo ⟨hk,h⟩
    clear hgo
    go_wp2_with fail
    go_ret
    exact⟨by rw[←HRes.out,decide_eq_false (show ¬(ln:Int)<most by omega)];rfl,HPost.out,HV.out⟩
   ·have hk':¬(k:Int)<(n:Int):=by omega
    clear hgo
    go_wp2_with fail
    go_ret
    exact⟨by rw[←HRes.out];rfl,HPost.out,HV.out⟩
theorem visScan (fl Fb Lb Mb N0 Nl:Nat)(fa:Option Addr)(fn fc:Nat)(fr:List UInt8)(most:Int)(hL:Lb<N0)(hNl:Nl≤Lb)(hfl:fl≤Nl):
  VisOK 77 #[.pointer (some ⟨Fb,0,none⟩),.pointer (some ⟨Lb,0,none⟩),.pointer (some ⟨Mb,0,none⟩)] (stpS fr most) (InvS fl Fb Lb Mb Nl fa fn fc fr most) N0 Nl rkS :=
 ⟨fun acc l=>by
  have h:=gat_len fr most acc l
  show 300-acc.length/1000≤300-(gat fr most acc l).length/1000+1
  omega,
  fun acc X W at_ p ve vk L hrk hI hp hon hs hn hit=>callScan fl Fb Lb Mb N0 Nl fa fn fc fr most hL hNl acc X W at_ p ve vk L hrk hI hp hon hs hn hit hfl,
  fun acc X W W' hI hk hlw=>hI.keep hk hlw hfl,fun args w=>by simp[callFunc,Tryz.func77];rfl⟩
end
end Go.Proofs.YtpecobmfabmpkaaGreatDoor
