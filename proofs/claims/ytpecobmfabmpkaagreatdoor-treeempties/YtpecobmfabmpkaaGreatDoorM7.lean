/- PtJ PtK -/
import Derived.Test.YtpecobmfabmpkaaGreatDoorM6
set_option maxRecDepth 20000
set_option maxHeartbeats 4000000
namespace Go.Proofs.YtpecobmfabmpkaaGreatDoor
section
open Go.RowKit
def PgPost (w:World)(b:List UInt8)(e:Ending)(w':World):Prop :=
 (match pgOf b with
 | some p=>∃ve vk L,e=.returned (.agg #[.int .i64 0,.int .i64 (p.lv:Int),ve,vk])∧OwnN w' w.heap.size ve L∧OwnZ w' w.heap.size vk (p.ks.map Int.ofNat)∧L.map Prod.fst=p.es∧∀x∈L,EtP w' x.1 x.2
 | none=>e=refused13 4)∧Below w.heap.size w w'
theorem PgPost.no {w w':World}{b:List UInt8}(h:pgOf b=none)(hb:Below w.heap.size w w'):PgPost w b (.panicked [{ v:=.iface 30 (.int .i64 4),recovered:=false }]) w':=by
 unfold PgPost
 rw[h]
 exact⟨rfl,hb⟩
theorem pars_step {n:Nat}{b:List UInt8}(h2:2≤b.length)(h3:2+(b.getD 0 0).toNat+(b.getD 1 0).toNat≤b.length):parsE (n+1) b=(parsE n (b.drop (2+(b.getD 0 0).toNat+(b.getD 1 0).toNat))).map fun x=>(⟨(b.drop 2).take (b.getD 0 0).toNat,(b.drop (2+(b.getD 0 0).toNat)).take (b.getD 1 0).toNat⟩::x.1,x.2):=by
 rw[parsE,if_pos ⟨h2,h3⟩]
theorem pars_no {n:Nat}{b:List UInt8}(h:¬(2≤b.length∧2+(b.getD 0 0).toNat+(b.getD 1 0).toNat≤b.length)):parsE (n+1) b=none:=by rw[parsE,if_neg h]
theorem SrcN.one {w:World}{B:Nat}{x:Eq3}(h:w.heap[B]?=some (.cells (etc2 x.1 x.2).toArray 64 (0,0))):SrcN w (some ⟨B,0,none⟩) 1 1 [x] :=
 ⟨rfl,(fun e=>by cases e),fun ad e j u hu=>by
  have e2:=Option.some.inj e
  subst e2
  rw[ets,ets,List.append_nil] at hu
  exact World.news_of_block h j u (by simpa using hu)⟩
theorem SB.three {w:World}{v:Value}{b:List UInt8}(h:SB w v (b.take 3))(hb:3≤b.length):∃g off c,v=.slice (some ⟨g,off,none⟩) 3 c∧∀W,KeepO UB w W→W.cell? ⟨g,off,none⟩=some (.int .u8 ((b.getD 0 0).toNat:Int))∧W.cell? ⟨g,off+1,none⟩=some (.int .u8 ((b.getD 1 0).toNat:Int))∧W.cell? ⟨g,off+2,none⟩=some (.int .u8 ((b.getD 2 0).toNat:Int)):=by
 have hl:(b.take 3).length=3:=by rw[List.length_take];omega
 obtain⟨g,off,c,e,hI⟩:=h
 rw[hl] at e hI
 refine⟨g,off,c,e,fun W hW=>?_⟩
 obtain⟨g',off',e',hc⟩:=(hI W hW).cells (by omega)
 have e2:=Option.some.inj e'
 injection e2 with q1 q2 _
 subst q1 q2
 have hn:∀i,i<3→nth (b.take 3) i=b.getD i 0:=fun i hi=>by unfold nth;rw[List.getD_eq_getElem?_getD,List.getElem?_take_of_lt hi,←List.getD_eq_getElem?_getD]
 refine⟨?_,?_,?_⟩
 ·have:=hc 0 (by omega);rw[hn 0 (by omega)] at this;exact this
 ·have:=hc 1 (by omega);rw[hn 1 (by omega)] at this;exact this
 ·have:=hc 2 (by omega);rw[hn 2 (by omega)] at this;exact this
theorem SB.two {w:World}{v:Value}{b:List UInt8}(h:SB w v (b.take 2))(hb:2≤b.length):∃g off c,v=.slice (some ⟨g,off,none⟩) 2 c∧∀W,KeepO UB w W→W.cell? ⟨g,off,none⟩=some (.int .u8 ((b.getD 0 0).toNat:Int))∧W.cell? ⟨g,off+1,none⟩=some (.int .u8 ((b.getD 1 0).toNat:Int)):=by
 have hl:(b.take 2).length=2:=by rw[List.length_take];omega
 obtain⟨g,off,c,e,hI⟩:=h
 rw[hl] at e hI
 refine⟨g,off,c,e,fun W hW=>?_⟩
 obtain⟨g',off',e',hc⟩:=(hI W hW).cells (by omega)
 have e2:=Option.some.inj e'
 injection e2 with q1 q2 _
 subst q1 q2
 have hn:∀i,i<2→nth (b.take 2) i=b.getD i 0:=fun i hi=>by unfold nth;rw[List.getD_eq_getElem?_getD,List.getElem?_take_of_lt hi,←List.getD_eq_getElem?_getD]
 refine⟨?_,?_⟩
 ·have:=hc 0 (by omega);rw[hn 0 (by omega)] at this;exact this
 ·have:=hc 1 (by omega);rw[hn 1 (by omega)] at this;exact this
theorem codPageLow (v:Value)(b:List UInt8)(w:World)(hs:SB w v b)(hb:b.length=512)(h0:b.getD 0 0=116)(h1:(b.getD 1 0).toNat=0):
  Calls Tryz.prog 102 #[v] w (PgPost w b):=by
 have HP:Hid (∀l,parsE (b.getD 2 0).toNat (b.drop 3)=some l→pgOf b=if rightE l.1=true∧zerosL l.2=true then some ⟨0,l.1,[]⟩ else none):=fun l hl=>by
  unfold pgOf
  rw[if_pos ⟨by omega,h0,by omega⟩,if_pos h1,hl]
 have HPn:Hid (parsE (b.getD 2 0).toNat (b.drop 3)=none→pgOf b=none):=fun hl=>by
  unfold pgOf
  rw[if_pos ⟨by omega,h0,by omega⟩,if_pos h1,hl]
 obtain⟨g,off,c,rfl,_⟩:=hs.head 3 (by omega)
 have HS:=mkHid hs
 have hW1:Below w.heap.size w ((w.alloc (.cells #[.slice (some ⟨g,off,none⟩) b.length c] 33)).alloc (.cells #[.int .i64 0,.int .i64 0,.slice none 0 0,.slice none 0 0] 133)):=((Below.refl _ w).alloc (Nat.le_refl _) _).alloc (by simp) _
 have k0:Blk ((w.alloc (.cells #[.slice (some ⟨g,off,none⟩) b.length c] 33)).alloc (.cells #[.int .i64 0,.int .i64 0,.slice none 0 0,.slice none 0 0] 133)) w.heap.size 33 [.slice (some ⟨g,off,none⟩) b.length c]:=(Blk.newAt w w.heap.size 33 _ [.slice (some ⟨g,off,none⟩) b.length c] rfl rfl).alloc _
 have k1:Blk ((w.alloc (.cells #[.slice (some ⟨g,off,none⟩) b.length c] 33)).alloc (.cells #[.int .i64 0,.int .i64 0,.slice none 0 0,.slice none 0 0] 133)) (w.heap.size+1) 133 [.int .i64 0,.int .i64 0,.slice none 0 0,.slice none 0 0]:=Blk.newAt _ (w.heap.size+1) 133 _ _ (by simp) rfl
 have hmf:=mkF0
 have HNx:=nextYes w.heap.size _ b 3 _ w k0 hs (by omega)
 have K0:=mkHid k0
 have K1:=mkHid k1
 have HW1:=mkHid hW1
 have H0:=mkHid h0
 have H1:=mkHid h1
 have HBl:=mkHid hb
 clear hs k0 k1 hW1 h0 h1
 simp only[hb] at HNx HS K0 K1 HW1 ⊢
 simp only[Int.cast_ofNat_Int] at HNx
 go_enter Tryz.func102,Tryz.ntmps102
 go_wp2_with fail
 refine HNx.mono ?_
 rintro e y1 ⟨u,v',rfl,hu,hv',rfl⟩
 obtain⟨g2,off2,c2,rfl,hcs⟩:=hu.three (by have:=HBl.out;omega)
 have hY1:=HW1.out.setCell (p:=⟨w.heap.size,0,none⟩) (Nat.le_refl _) v'
 have q0:=K0.out.set 0 v'
 have q1:=K1.out.other ⟨w.heap.size,0,none⟩ v' (by show w.heap.size+1≠w.heap.size;omega)
 have hsz:(((w.alloc (.cells #[.slice (some ⟨g,off,none⟩) 512 c] 33)).alloc (.cells #[.int .i64 0,.int .i64 0,.slice none 0 0,.slice none 0 0] 133)).setCell ⟨w.heap.size,0,none⟩ v').heap.size=w.heap.size+2:=by simp[World.setCell]
 clear HNx HS hu
 generalize ((w.alloc (.cells #[.slice (some ⟨g,off,none⟩) 512 c] 33)).alloc (.cells #[.int .i64 0,.int .i64 0,.slice none 0 0,.slice none 0 0] 133)).setCell ⟨w.heap.size,0,none⟩ v'=Y1 at *
 have kY:=KeepO.of_below (us:=UB) hY1
 obtain⟨a0,a1,a2⟩:=hcs Y1 kY
 have hA:=(Below.refl _ Y1).alloc (Nat.le_refl _) (.cells #[.int .i64 0,.int .i64 0,.slice none 0 0,.slice none 0 0] 133)
 have kA:=KeepO.of_below (us:=UB) hA
 obtain⟨b0,b1,b2⟩:=hcs _ (kY.trans kA)
 rw[H0.out] at b0
 rw[H1.out] at a1
 simp only[Int.natCast_zero] at a1
 have HPa:Hid (PaAt w (Y1.alloc (.cells #[.int .i64 0,.int .i64 0,.slice none 0 0,.slice none 0 0] 133)) v' (b.drop 3) 0 (.slice none 0 0) (.slice none 0 0) [] []):=
  ⟨q0.alloc _,hv',q1.alloc _,by have:=Blk.newAt Y1 (w.heap.size+2) 133 #[.int .i64 0,.int .i64 0,.slice none 0 0,.slice none 0 0] [.int .i64 0,.int .i64 0,.slice none 0 0,.slice none 0 0] hsz rfl;exact this,OwnN.nil _ _,OwnZ.nil _ _,(fun x hx=>by cases hx),hY1.alloc hY1.size _⟩
 have HNd:=needYes13 4
 have hp1:(Y1.alloc (.cells #[.int .i64 0,.int .i64 0,.slice none 0 0,.slice none 0 0] 133)).cell? ⟨Y1.heap.size,1,none⟩=some (.int .i64 0):=by rw[hsz];exact HPa.out.p.cell 1
 clear K0 K1 HW1 q0 q1 hcs a0 a2 b1 hY1 hA kA kY
 generalize hn0:(b.getD 2 0).toNat=n0 at *
 have hn0':n0<256:=by rw[←hn0];exact UInt8.toNat_lt _
 have HB3l:Hid ((b.drop 3).length≤1000):=by unfold Hid;rw[List.length_drop,HBl.out];omega
 clear hn0
 generalize (b.drop 3)=b3 at *
 go_wp2_with (go_at_call 99;refine(HNd _).mono ?_;rintro x w2 ⟨rfl,hww⟩;rw[hww];clear hww w2)
 go_loopg [30] n0 (fun kx i wr=>∃(k:Nat) (v:Value) (r:List UInt8) (ve:Value) (L:List Eq3),k≤n0∧n0-k≤kx∧i=.int .i64 (k:Int)∧Hid (PaAt w wr v r 0 ve (.slice none 0 0) L [])∧Hid (L.length=k)∧Hid (∀x∈L,x.1.k.length≤255∧x.1.v.length≤255)∧Hid (r.length≤1000)∧Hid (parsE n0 b3=(parsE (n0-k) r).map fun x=>(L.map Prod.fst++x.1,x.2)))
 case atStart=>exact⟨0,v',b3,.slice none 0 0,[],Nat.zero_le _,by omega,rfl,HPa,rfl,(fun x hx=>by cases hx),HB3l,by unfold Hid;rw[Nat.sub_zero];cases parsE n0 b3<;>rfl⟩
 case round =>
  clear HPa hp1 b0 b2 HNd
  obtain⟨k,v,r,ve,L,hk,hkx,rfl,HA,HLk,HLs,HRl,HG⟩:=hrel
  have p1:wr.cell? ⟨w.heap.size+2,1,none⟩=some (.int .i64 0):=HA.out.p.cell 1
  by_cases hlt:k<n0
  ·have hlt':(k:Int)<(n0:Int):=by omega
   by_cases h2:2≤r.length
   ·have HX:=nextYes w.heap.size v r 2 wr w HA.out.b HA.out.r h2
    simp only[Int.cast_ofNat_Int] at HX
    go_wp2_with (go_at_call 141;refine HX.mono ?_;rintro e y2 ⟨u2,v2,rfl,hu2,hv2,rfl⟩)
    obtain⟨g2,off2,c2,rfl,hcs⟩:=hu2.two h2
    have HA2:=mkHid (HA.out.cut hv2)
    clear HX hu2 HA p1
    generalize wr.setCell ⟨w.heap.size,0,none⟩ v2=Y2 at *
    have HA3:Hid (PaAt w Y2.drew v2 (r.drop 2) 0 ve (.slice none 0 0) L []):=HA2.out.on (bel_drewN (Below.refl _ Y2) 1)
    have HKu:Hid (∀W,Below w.heap.size w W→W.cell? ⟨g2,off2,none⟩=some (.int .u8 ((r.getD 0 0).toNat:Int))∧W.cell? ⟨g2,off2+1,none⟩=some (.int .u8 ((r.getD 1 0).toNat:Int))):=fun W hW=>hcs W (KeepO.of_below hW)
    clear hcs HA2
    have hkb:(r.getD 0 0).toNat<256:=UInt8.toNat_lt _
    have hvb:(r.getD 1 0).toNat<256:=UInt8.toNat_lt _
    generalize hkbe:(r.getD 0 0).toNat=kb at *
    generalize hvbe:(r.getD 1 0).toNat=vb at *
    have HKb:=mkHid hkbe
    have HVb:=mkHid hvbe
    clear hkbe hvbe
    have hwk:IntKind.i64.wrap (kb:Int)=(kb:Int):=wrapi64_in _ (by omega) (by omega)
    have hwv:IntKind.i64.wrap (vb:Int)=(vb:Int):=wrapi64_in _ (by omega) (by omega)
    refine lk0 (fun w'=>w'.cell? ⟨w.heap.size+2,2,none⟩=some ve∧w'.cell? ⟨g2,off2,none⟩=some (.int .u8 (kb:Int))∧w'.cell? ⟨g2,off2+1,none⟩=some (.int .u8 (vb:Int))) 18 ⟨HA3.out.p.cell 2,HKu.out _ HA3.out.low⟩ (fun hHeld=>?_)
    generalize Y2.drew=Y3 at *
    refine lkT 37 0 ?_ rfl (Or.inl ⟨by rfl,?_⟩) hHeld ?_
    rotate_left
    ·intro w hSw;obtain⟨s1,s2,s3⟩:=hSw;go_simp;with_reducible rfl
    (try simp only[Act.put,sIx,sZ0,sZ1])
    refine lkT 38 1 (ve) rfl (Or.inl ⟨by rfl,?_⟩) hHeld ?_
    ·intro w hSw;obtain⟨s1,s2,s3⟩:=hSw;go_simp
    (try simp only[Act.put,sIx,sZ0,sZ1])
    refine lkT 39 2 ?_ rfl (Or.inl ⟨by rfl,?_⟩) hHeld ?_
    rotate_left
    ·intro w hSw;obtain⟨s1,s2,s3⟩:=hSw;go_simp;with_reducible rfl
    (try simp only[Act.put,sIx,sZ0,sZ1])
    refine lkT 40 3 ?_ rfl (Or.inl ⟨by rfl,?_⟩) hHeld ?_
    rotate_left
    ·intro w hSw;obtain⟨s1,s2,s3⟩:=hSw;go_simp;with_reducible rfl
    (try simp only[Act.put,sIx,sZ0,sZ1])
    refine lkT 41 4 ?_ rfl (Or.inl ⟨by rfl,?_⟩) hHeld ?_
    rotate_left
    ·intro w hSw;obtain⟨s1,s2,s3⟩:=hSw;go_simp;with_reducible rfl
    (try simp only[Act.put,sIx,sZ0,sZ1])
    refine lkT 42 5 (.int .u8 (kb:Int)) rfl (Or.inl ⟨by rfl,?_⟩) hHeld ?_
    ·intro w hSw;obtain⟨s1,s2,s3⟩:=hSw;go_simp
    (try simp only[Act.put,sIx,sZ0,sZ1])
    refine lkT 43 6 (.int .i64 (kb:Int)) rfl (Or.inl ⟨by rfl,?_⟩) hHeld ?_
    ·intro w hSw;obtain⟨s1,s2,s3⟩:=hSw;go_simp
    (try simp only[Act.put,sIx,sZ0,sZ1])
    refine lkT 45 8 ?_ rfl (Or.inl ⟨by rfl,?_⟩) hHeld ?_
    rotate_left
    ·intro w hSw;obtain⟨s1,s2,s3⟩:=hSw;go_simp;with_reducible rfl
    (try simp only[Act.put,sIx,sZ0,sZ1])
    refine lkT 46 9 ?_ rfl (Or.inl ⟨by rfl,?_⟩) hHeld ?_
    rotate_left
    ·intro w hSw;obtain⟨s1,s2,s3⟩:=hSw;go_simp;with_reducible rfl
    (try simp only[Act.put,sIx,sZ0,sZ1])
    refine lkT 47 10 ?_ rfl (Or.inl ⟨by rfl,?_⟩) hHeld ?_
    rotate_left
    ·intro w hSw;obtain⟨s1,s2,s3⟩:=hSw;go_simp;with_reducible rfl
    (try simp only[Act.put,sIx,sZ0,sZ1])
    refine lkT 48 11 (.int .u8 (vb:Int)) rfl (Or.inl ⟨by rfl,?_⟩) hHeld ?_
    ·intro w hSw;obtain⟨s1,s2,s3⟩:=hSw;go_simp
    (try simp only[Act.put,sIx,sZ0,sZ1])
    refine lkT 49 12 (.int .i64 (vb:Int)) rfl (Or.inl ⟨by rfl,?_⟩) hHeld ?_
    ·intro w hSw;obtain⟨s1,s2,s3⟩:=hSw;go_simp
    (try simp only[Act.put,sIx,sZ0,sZ1])
    have HRd:Hid ((r.drop 2).length=r.length-2):=List.length_drop
    by_cases hk1:kb≤(r.drop 2).length
    ·have HX1:=nextYes w.heap.size v2 (r.drop 2) kb Y3 w HA3.out.b HA3.out.r hk1
     refine lk1 7 rfl (fun K hK=>?_)
     go_simp
     go_wp2_with (go_at_call 141;refine HX1.mono ?_;rintro e y3 ⟨u3,v3,rfl,hu3,hv3,rfl⟩)
     have HA4:=mkHid (HA3.out.cut hv3)
     have HU3:=mkHid hu3
     refine hK.out _ _ ⟨HA4.out.p.cell 2,HKu.out _ HA4.out.low⟩ (fun hHeld=>?_)
     (try simp only[Act.put,sIx,sZ0,sZ1])
     clear hK K HX1 hu3 hv3 HA3
     generalize Y3.setCell ⟨w.heap.size,0,none⟩ v3=Y4 at *
     have HRd2:Hid (((r.drop 2).drop kb).length=r.length-2-kb):=by unfold Hid;rw[List.length_drop,HRd.out]
     by_cases hv1:vb≤((r.drop 2).drop kb).length
     ·have hkv:2+kb+vb≤r.length:=by have:=HRd.out;have:=HRd2.out;omega
      have hnk:n0-k=(n0-(k+1))+1:=by omega
      have HX2:=nextYes w.heap.size v3 ((r.drop 2).drop kb) vb Y4 w HA4.out.b HA4.out.r hv1
      refine lk1 13 rfl (fun K hK=>?_)
      go_simp
      go_wp2_with (go_at_call 141;refine HX2.mono ?_;rintro e y5 ⟨u5,v5,rfl,hu5,hv5,rfl⟩)
      have HA6:=mkHid (HA4.out.cut hv5)
      have HU5:=mkHid hu5
      refine hK.out _ _ ⟨HA6.out.p.cell 2,HKu.out _ HA6.out.low⟩ (fun hHeld=>?_)
      (try simp only[Act.put,sIx,sZ0,sZ1])
      clear hK K HX2 hu5 hv5 HA4
      generalize Y4.setCell ⟨w.heap.size,0,none⟩ v5=Y6 at *
      obtain⟨kg,ko,kc,rfl,HIk⟩:=HU3.out
      obtain⟨vg,vo,vc,rfl,HIv⟩:=HU5.out
      have hkl:((r.drop 2).take kb).length=kb:=by rw[List.length_take];omega
      have hvl:(((r.drop 2).drop kb).take vb).length=vb:=by rw[List.length_take];omega
      have HEt:Hid (EtP w ⟨(r.drop 2).take kb,((r.drop 2).drop kb).take vb⟩ ⟨some ⟨kg,ko,none⟩,kc,some ⟨vg,vo,none⟩,vc⟩):=fun W hW=>⟨HIk W hW,HIv W hW⟩
      clear HIk HIv HU3 HU5
      have HEc:Hid (etc2 ⟨(r.drop 2).take kb,((r.drop 2).drop kb).take vb⟩ ⟨some ⟨kg,ko,none⟩,kc,some ⟨vg,vo,none⟩,vc⟩=[.slice (some ⟨kg,ko,none⟩) kb kc,.slice (some ⟨vg,vo,none⟩) vb vc]):=by unfold Hid etc2;simp only[hkl,hvl]
      simp only[hkl,hvl]
      refine lkT 51 14 (.agg #[.slice (some ⟨kg,ko,none⟩) kb kc,.slice (some ⟨vg,vo,none⟩) vb vc]) rfl (Or.inl ⟨by rfl,?_⟩) hHeld ?_
      ·intro w hSw;obtain⟨s1,s2,s3⟩:=hSw;go_simp
      (try simp only[Act.put,sIx,sZ0,sZ1])
      refine lk1 15 rfl (fun K hK=>?_)
      go_simp
      have HA7:=mkHid (HA6.out.on ((Below.refl _ Y6).alloc (Nat.le_refl _) (.cells #[.slice (some ⟨kg,ko,none⟩) kb kc,.slice (some ⟨vg,vo,none⟩) vb vc] 64)))
      have KB7:Hid ((Y6.alloc (.cells #[.slice (some ⟨kg,ko,none⟩) kb kc,.slice (some ⟨vg,vo,none⟩) vb vc] 64)).heap[Y6.heap.size]?=some (.cells #[.slice (some ⟨kg,ko,none⟩) kb kc,.slice (some ⟨vg,vo,none⟩) vb vc] 64 (0,0))):=heap_alloc_new Y6 _
      refine hK.out _ _ ⟨HA7.out.p.cell 2,HKu.out _ HA7.out.low⟩ (fun hHeld=>?_)
      (try simp only[Act.put,sIx,sZ0,sZ1])
      clear hK K HA6
      generalize Y6.alloc (.cells #[.slice (some ⟨kg,ko,none⟩) kb kc,.slice (some ⟨vg,vo,none⟩) vb vc] 64)=Y7 at *
      generalize Y6.heap.size=Bn at *
      have HSr:Hid (SrcN Y7 (some ⟨Bn,0,none⟩) 1 1 [(⟨(r.drop 2).take kb,((r.drop 2).drop kb).take vb⟩,⟨some ⟨kg,ko,none⟩,kc,some ⟨vg,vo,none⟩,vc⟩)]):=SrcN.one (by rw[HEc.out];exact KB7.out)
      refine lk1 16 rfl (fun K hK=>?_)
      refine step_appNs Y7 (by rfl) _ _ (by rfl) (w.heap.size+3) ve L (by rfl) HA7.out.e (some ⟨Bn,0,none⟩) 1 1 [(⟨(r.drop 2).take kb,((r.drop 2).drop kb).take vb⟩,⟨some ⟨kg,ko,none⟩,kc,some ⟨vg,vo,none⟩,vc⟩)] (by rfl) HSr.out (by have:=HLk.out;omega) HA7.out.lt 53 rfl ?_
      intro v8 Y8 ho8 hg8
      obtain⟨a8,c8,he8,_⟩:=ho8.form
      obtain⟨hA9,hP8⟩:=HA7.out.app ho8 hg8 HEt.out
      generalize hln:(L++[((⟨(r.drop 2).take kb,((r.drop 2).drop kb).take vb⟩:Et),(⟨some ⟨kg,ko,none⟩,kc,some ⟨vg,vo,none⟩,vc⟩:EtA))]).length=ln at he8
      subst he8
      have HA9:=mkHid hA9
      have d2:Y8.cell? ⟨w.heap.size+2,2,none⟩=some ve:=hP8.cell 2
      have f2:=hP8.frozen 2
      have HB8:Hid (Below w.heap.size w Y8):=HA7.out.low.grown hg8 HA7.out.low.size (fun k e=>by have:=(World.ownsRow.lt HA7.out.e k e).1;omega)
      refine hK.out _ _ ⟨hP8.cell 2,HKu.out _ HB8.out⟩ (fun hHeld=>?_)
      (try simp only[Act.put,sIx,sZ0,sZ1])
      clear hK K hP8 ho8 hg8 HA7 KB7 HSr hA9
      refine lk1 17 rfl (fun K hK=>?_)
      go_simp
      refine hK.out _ _ hHeld (fun hHeld=>?_)
      (try simp only[Act.put,sIx,sZ0,sZ1])
      clear hK K
      refine lkZ rfl (fun K hK=>?_)
      go_simp
      refine hK.out _ _ (NoPanic.normal ?_)
      (try simp only[Act.put,sIx,sZ0,sZ1])
      clear hK K d2 f2 hHeld
      generalize Y8.setCell ⟨w.heap.size+2,2,none⟩ (.slice a8 ln c8)=Y9 at *
      have HG1:Hid (parsE n0 b3=(parsE (n0-(k+1)) (r.drop (2+kb+vb))).map fun x=>((L++[((⟨(r.drop 2).take kb,((r.drop 2).drop kb).take vb⟩:Et),(⟨some ⟨kg,ko,none⟩,kc,some ⟨vg,vo,none⟩,vc⟩:EtA))]).map Prod.fst++x.1,x.2)):=by
       unfold Hid
       rw[HG.out,hnk,pars_step h2 (by rw[HKb.out,HVb.out];exact hkv),HKb.out,HVb.out,Option.map_map,List.drop_drop,List.map_append]
       congr 1
       funext x
       simp
      have HLn:Hid ((L++[((⟨(r.drop 2).take kb,((r.drop 2).drop kb).take vb⟩:Et),(⟨some ⟨kg,ko,none⟩,kc,some ⟨vg,vo,none⟩,vc⟩:EtA))]).length=k+1):=by unfold Hid;rw[List.length_append,HLk.out];rfl
      have HLs9:Hid (∀x∈L++[((⟨(r.drop 2).take kb,((r.drop 2).drop kb).take vb⟩:Et),(⟨some ⟨kg,ko,none⟩,kc,some ⟨vg,vo,none⟩,vc⟩:EtA))],x.1.k.length≤255∧x.1.v.length≤255):=fun x hx=>by
       rcases List.mem_append.1 hx with h|h
       ·exact HLs.out x h
       ·rw[List.mem_singleton.1 h]
        exact⟨by rw[hkl];omega,by rw[hvl];omega⟩
      rw[List.drop_drop,List.drop_drop,←Nat.add_assoc] at HA9
      clear hln HEc HEt hkl hvl
      go_wp2_with fail
      go_roundg (n0-(k+1))
      case measure=>omega
      case rel=>exact⟨k+1,v5,r.drop (2+kb+vb),_,_,by omega,Nat.le_refl _,by go_num,HA9,HLn,HLs9,by unfold Hid;rw[List.length_drop];have:=HRl.out;omega,HG1⟩
     ·have hkv:¬(2≤r.length∧2+kb+vb≤r.length):=by have:=HRd.out;have:=HRd2.out;omega
      have hnk:n0-k=(n0-(k+1))+1:=by omega
      have HX2:=nextNo w.heap.size v3 ((r.drop 2).drop kb) vb Y4 w HA4.out.b HA4.out.r hv1
      have HNo:Hid (pgOf b=none):=HPn.out (by rw[HG.out,hnk,pars_no (by rw[HKb.out,HVb.out];exact hkv)];rfl)
      have HBl4:=mkHid HA4.out.low
      refine lk1 13 rfl (fun K hK=>?_)
      go_simp
      go_wp2_with (go_at_call 141;refine HX2.mono ?_;rintro e y5 ⟨rfl,rfl⟩)
      exact bp_panic (PgPost.no HNo.out HBl4.out)
    ·have hkv:¬(2≤r.length∧2+kb+vb≤r.length):=by have:=HRd.out;omega
     have hnk:n0-k=(n0-(k+1))+1:=by omega
     have HX1:=nextNo w.heap.size v2 (r.drop 2) kb Y3 w HA3.out.b HA3.out.r hk1
     have HNo:Hid (pgOf b=none):=HPn.out (by rw[HG.out,hnk,pars_no (by rw[HKb.out,HVb.out];exact hkv)];rfl)
     have HBl4:=mkHid HA3.out.low
     refine lk1 7 rfl (fun K hK=>?_)
     go_simp
     go_wp2_with (go_at_call 141;refine HX1.mono ?_;rintro e y5 ⟨rfl,rfl⟩)
     exact bp_panic (PgPost.no HNo.out HBl4.out)
   ·have hnk:n0-k=(n0-(k+1))+1:=by omega
    have HX:=nextNo w.heap.size v r 2 wr w HA.out.b HA.out.r h2
    simp only[Int.cast_ofNat_Int] at HX
    have HNo:Hid (pgOf b=none):=HPn.out (by rw[HG.out,hnk,pars_no (fun h=>h2 h.1)];rfl)
    have HBl4:=mkHid HA.out.low
    go_wp2_with (go_at_call 141;refine HX.mono ?_;rintro e y2 ⟨rfl,rfl⟩)
    exact bp_panic (PgPost.no HNo.out HBl4.out)
  ·have hlt':¬(k:Int)<(n0:Int):=by omega
   have HPo:Hid (pgOf b=if rightE (L.map Prod.fst)=true∧zerosL r=true then some ⟨0,L.map Prod.fst,[]⟩ else none):=by
    unfold Hid
    have h3:parsE n0 b3=some (L.map Prod.fst,r):=by
     rw[HG.out,show n0-k=0 by omega,parsE]
     simp
    exact HP.out _ h3
   have kE:=KeepO.of_below (us:=UB) HA.out.low
   have hRd:RdN 0 wr ve L:=HA.out.e.rd (fun x hx=>(HA.out.x x hx).keep kE)
   have HRt:=codRightLow 0 ve (.slice none 0 0) L wr hRd (by have:=HLk.out;omega) (fun x hx=>by have:=HLs.out x hx;omega)
   have HRtB:=mkHid hRd
   obtain⟨rg,ro,rc,rfl,hri⟩:=(HA.out.r.keep kE).isB
   have hrl:=HRl.out
   obtain⟨va,vc,rfl,_⟩:=HA.out.e.form
   have HNy:=needYes13 4
   have HNn:=needNo13 4
   unfold pgc at HRt
   simp only[Int.natCast_zero] at HRt
   have p0:wr.cell? ⟨w.heap.size+2,0,none⟩=some (.int .i64 0):=HA.out.p.cell 0
   have p2:wr.cell? ⟨w.heap.size+2,2,none⟩=some (.slice va L.length vc):=HA.out.p.cell 2
   have p3:wr.cell? ⟨w.heap.size+2,3,none⟩=some (.slice none 0 0):=HA.out.p.cell 3
   have HTr:Hid (∀W,Below wr.heap.size wr W→Calls Tryz.prog 143 #[.slice (some ⟨rg,ro,none⟩) r.length rc,.string ⟨#[0]⟩] W fun e w'=>(∃a' n' c',e=.returned (.slice a' n' c')∧n'≤r.length∧(n'=0↔zerosL r=true))∧Below W.heap.size W w'):=fun W hW=>codTrim _ _ _ r W (hri.below hW rfl) (by omega)
   clear hRd hri HG kE
   by_cases hR:rightE (L.map Prod.fst)=true
   ·rw[hR] at HRt
    go_wp2_with fail
    refine HRt.mono ?_
    rintro e y2 ⟨rfl,hb2⟩
    have HAy:=mkHid (HA.out.on hb2)
    have c0:y2.cell? ⟨w.heap.size,0,none⟩=some (.slice (some ⟨rg,ro,none⟩) r.length rc):=HAy.out.b.cell 0
    have HTy:=HTr.out y2 hb2
    clear p0 p1 p2 p3 HRt HTr
    go_wp2_with fail
    refine HTy.mono ?_
    rintro e y3 ⟨⟨a3,n3,c3,rfl,hn3,hz3⟩,hb3⟩
    have HAz:=mkHid (HAy.out.on hb3)
    clear HTy c0
    by_cases h30:n3=0
    ·have HPs:Hid (pgOf b=some ⟨0,L.map Prod.fst,[]⟩):=by unfold Hid;rw[HPo.out,if_pos ⟨hR,hz3.1 h30⟩]
     have h30':(n3:Int)=0:=by omega
     clear h30 hz3
     have z0:y3.cell? ⟨w.heap.size+2,0,none⟩=some (.int .i64 0):=HAz.out.p.cell 0
     have z1:y3.cell? ⟨w.heap.size+2,1,none⟩=some (.int .i64 0):=HAz.out.p.cell 1
     have z2:y3.cell? ⟨w.heap.size+2,2,none⟩=some (.slice va L.length vc):=HAz.out.p.cell 2
     have z3:y3.cell? ⟨w.heap.size+2,3,none⟩=some (.slice none 0 0):=HAz.out.p.cell 3
     have r0:=HAz.out.res.cell 0
     have r1:=HAz.out.res.cell 1
     have r2:=HAz.out.res.cell 2
     have r3:=HAz.out.res.cell 3
     simp only[gZ0,gZ1] at r0 r1 r2 r3
     have g0:=HAz.out.res.frozen 0
     have g1:=HAz.out.res.frozen 1
     have g2':=HAz.out.res.frozen 2
     have g3:=HAz.out.res.frozen 3
     go_wp2_with (go_at_call 99;refine(HNy _).mono ?_;rintro x w2 ⟨rfl,hww⟩;rw[hww];clear hww w2)
     refine bodyPost_ret (retPg rfl _ _ (w.heap.size+1) _ _ _ _ rfl ((((HAz.out.res.set 0 _).set 1 _).set 2 _).set 3 _)) rfl ?_
     obtain⟨q1,q2,q3,q4⟩:=HAz.out.done (grown4 y3 (w.heap.size+1) (.int .i64 0) (.int .i64 0) (.slice va L.length vc) (.slice none 0 0))
     unfold PgPost
     rw[HPs.out]
     exact⟨⟨_,_,L,rfl,q1,q2,rfl,q3⟩,q4⟩
    ·have HNo:Hid (pgOf b=none):=by unfold Hid;rw[HPo.out,if_neg (fun h=>h30 (hz3.2 h.2))]
     have h30':¬(n3:Int)=0:=by omega
     have hbq:((n3:Int)==0)=false:=beq_eq_false_iff_ne.2 h30'
     have HBl4:=mkHid HAz.out.low
     clear h30 hz3
     go_wp2_with (go_at_call 99;refine(HNn _).mono ?_;rintro x w2 ⟨rfl,hww⟩;rw[hww];clear hww w2)
     exact bp_panic (PgPost.no HNo.out HBl4.out)
   ·have hR':rightE (L.map Prod.fst)=false:=Bool.eq_false_iff.2 hR
    rw[hR'] at HRt
    have HNo:Hid (pgOf b=none):=by unfold Hid;rw[HPo.out,if_neg (fun h=>hR h.1)]
    go_wp2_with fail
    refine HRt.mono ?_
    rintro e y2 ⟨rfl,hb2⟩
    have HBl4:=mkHid (HA.out.on hb2).low
    clear p0 p1 p2 p3 HRt HTr hR hR'
    go_wp2_with (go_at_call 99;refine(HNn _).mono ?_;rintro x w2 ⟨rfl,hww⟩;rw[hww];clear hww w2)
    exact bp_panic (PgPost.no HNo.out HBl4.out)
theorem parsK_step {n:Nat}{b:List UInt8}(h2:2≤b.length):parsK (n+1) b=(parsK n (b.drop 2)).map fun x=>(((b.getD 0 0).toNat * 256+(b.getD 1 0).toNat):: x.1,x.2):=by rw[parsK,if_pos h2]
theorem parsK_no {n:Nat}{b:List UInt8}(h:¬2≤b.length):parsK (n+1) b=none:=by rw[parsK,if_neg h]
theorem step_appZ13 {ops:Array Oper}{o:Oper}{a:Act}{K:Act→World→Prop}{Q:Exit→Act→World→Prop}{E:Prop}(w:World)(hgd:o.guard=none)(s x:Operand)
  (ho:o.op=.call { callee:=.builtin .append,args:=#[s,x],argTypes:=#[58,58] }) (base:Nat)
  (v:Value) (l:List Int) (hs:a.eval s=v) (hown:OwnZ w base v l) (B:Nat) (z:Int) (hx:a.eval x=.slice (some ⟨B,0,none⟩) 1 1)
  (hb:w.heap[B]?=some (.cells #[.int .i64 z] 3 (0,0))) (hle:l.length≤4096) (hbase:base≤w.heap.size) (d:Tmp) (hd:o.dst=some d)
  (h:∀v' w',OwnZ w' base v' (l++[z])→w.grownBy w' v.ownBlock→K (a.put (some d) v') w'):
  if Region.wanted o (yielded ops a.tmps)=true then Oper.wp Tryz.prog o a w K Q else E:=by
 have hw:Region.wanted o (yielded ops a.tmps)=true:=by simp[Region.wanted,hgd]
 rw[if_pos hw]
 obtain⟨i0,hi,hz0,hz1,hz2⟩:=info_parts infoI3
 refine wp_append_own w s x 58 ho base 3 i0 (.int .i64 0) 1 8 Tryz.underlying58 hi hz0 hz1 hz2 rfl (by omega) v l.length _ hs hown ⟨B,0,none⟩ 1 1 [.int .i64 z] hx (by simp) (fun j u hu=>World.news_of_block hb j u (by simpa using hu)) (fun u hu=>by rw[List.mem_singleton.1 hu];rfl) (by unfold maxLen;omega) (by omega) hbase ?_
 intro v' w' h1 h2 _
 rw[hd]
 refine h v' w' ?_ h2
 unfold OwnZ
 rw[List.length_append,zv_append]
 exact h1
theorem or13 (a b:Nat)(ha:a<256)(hb:b<256):bits .or .i64 ((a:Int) * 256) (b:Int)=((a * 256+b:Nat):Int):=by
 show IntKind.i64.wrap ((BitVec.ofInt 64 ((a:Int) * 256) ||| BitVec.ofInt 64 (b:Int)).toNat:Int)=_
 rw[show (a:Int) * 256=((2 ^ 8 * a:Nat):Int) by omega,BitVec.ofInt_natCast,BitVec.ofInt_natCast,BitVec.toNat_or,BitVec.toNat_ofNat,BitVec.toNat_ofNat,Nat.mod_eq_of_lt (by omega),Nat.mod_eq_of_lt (by omega),←Nat.two_pow_add_eq_or_of_lt (i:=8) (b:=b) (by omega) a]
 rw[show 2 ^ 8 * a+b=a * 256+b by omega]
 exact wrapi64_in _ (by omega) (by omega)
theorem codPageUp (v:Value)(b:List UInt8)(w:World)(hs:SB w v b)(hb:b.length=512)(h0:b.getD 0 0=116)(lv:Nat)(h1:(b.getD 1 0).toNat=lv)(hlv:0<lv)(hlv2:lv≤11):
  Calls Tryz.prog 102 #[v] w (PgPost w b):=by
 have HP:Hid (∀l,parsK (b.getD 2 0).toNat (b.drop 3)=some l→pgOf b=if 1<l.1.length∧zerosL l.2=true then some ⟨lv,[],l.1⟩ else none):=fun l hl=>by
  unfold pgOf
  rw[if_pos ⟨by omega,h0,by omega⟩,if_neg (by omega),hl,h1]
 have HPn:Hid (parsK (b.getD 2 0).toNat (b.drop 3)=none→pgOf b=none):=fun hl=>by
  unfold pgOf
  rw[if_pos ⟨by omega,h0,by omega⟩,if_neg (by omega),hl]
 obtain⟨g,off,c,rfl,_⟩:=hs.head 3 (by omega)
 have HS:=mkHid hs
 have hW1:Below w.heap.size w ((w.alloc (.cells #[.slice (some ⟨g,off,none⟩) b.length c] 33)).alloc (.cells #[.int .i64 0,.int .i64 0,.slice none 0 0,.slice none 0 0] 133)):=((Below.refl _ w).alloc (Nat.le_refl _) _).alloc (by simp) _
 have k0:Blk ((w.alloc (.cells #[.slice (some ⟨g,off,none⟩) b.length c] 33)).alloc (.cells #[.int .i64 0,.int .i64 0,.slice none 0 0,.slice none 0 0] 133)) w.heap.size 33 [.slice (some ⟨g,off,none⟩) b.length c]:=(Blk.newAt w w.heap.size 33 _ [.slice (some ⟨g,off,none⟩) b.length c] rfl rfl).alloc _
 have k1:Blk ((w.alloc (.cells #[.slice (some ⟨g,off,none⟩) b.length c] 33)).alloc (.cells #[.int .i64 0,.int .i64 0,.slice none 0 0,.slice none 0 0] 133)) (w.heap.size+1) 133 [.int .i64 0,.int .i64 0,.slice none 0 0,.slice none 0 0]:=Blk.newAt _ (w.heap.size+1) 133 _ _ (by simp) rfl
 have hmf:=mkF0
 have HNx:=nextYes w.heap.size _ b 3 _ w k0 hs (by omega)
 have K0:=mkHid k0
 have K1:=mkHid k1
 have HW1:=mkHid hW1
 have H0:=mkHid h0
 have H1:=mkHid h1
 have HBl:=mkHid hb
 clear hs k0 k1 hW1 h0 h1
 simp only[hb] at HNx HS K0 K1 HW1 ⊢
 simp only[Int.cast_ofNat_Int] at HNx
 go_enter Tryz.func102,Tryz.ntmps102
 go_wp2_with fail
 refine HNx.mono ?_
 rintro e y1 ⟨u,v',rfl,hu,hv',rfl⟩
 obtain⟨g2,off2,c2,rfl,hcs⟩:=hu.three (by have:=HBl.out;omega)
 have hY1:=HW1.out.setCell (p:=⟨w.heap.size,0,none⟩) (Nat.le_refl _) v'
 have q0:=K0.out.set 0 v'
 have q1:=K1.out.other ⟨w.heap.size,0,none⟩ v' (by show w.heap.size+1≠w.heap.size;omega)
 have hsz:(((w.alloc (.cells #[.slice (some ⟨g,off,none⟩) 512 c] 33)).alloc (.cells #[.int .i64 0,.int .i64 0,.slice none 0 0,.slice none 0 0] 133)).setCell ⟨w.heap.size,0,none⟩ v').heap.size=w.heap.size+2:=by simp[World.setCell]
 clear HNx HS hu
 generalize ((w.alloc (.cells #[.slice (some ⟨g,off,none⟩) 512 c] 33)).alloc (.cells #[.int .i64 0,.int .i64 0,.slice none 0 0,.slice none 0 0] 133)).setCell ⟨w.heap.size,0,none⟩ v'=Y1 at *
 have kY:=KeepO.of_below (us:=UB) hY1
 obtain⟨a0,a1,a2⟩:=hcs Y1 kY
 have hA:=(Below.refl _ Y1).alloc (Nat.le_refl _) (.cells #[.int .i64 0,.int .i64 (lv:Int),.slice none 0 0,.slice none 0 0] 133)
 have kA:=KeepO.of_below (us:=UB) hA
 obtain⟨b0,b1,b2⟩:=hcs _ (kY.trans kA)
 rw[H0.out] at b0
 rw[H1.out] at a1
 have hwl:IntKind.i64.wrap (lv:Int)=(lv:Int):=wrapi64_in _ (by omega) (by omega)
 have hlv':(lv:Int)≤11:=by omega
 have hlv0:¬(lv:Int)=0:=by omega
 have HPa:Hid (PaAt w (Y1.alloc (.cells #[.int .i64 0,.int .i64 (lv:Int),.slice none 0 0,.slice none 0 0] 133)) v' (b.drop 3) lv (.slice none 0 0) (.slice none 0 0) [] []):=
  ⟨q0.alloc _,hv',q1.alloc _,by have:=Blk.newAt Y1 (w.heap.size+2) 133 #[.int .i64 0,.int .i64 (lv:Int),.slice none 0 0,.slice none 0 0] [.int .i64 0,.int .i64 (lv:Int),.slice none 0 0,.slice none 0 0] hsz rfl;exact this,OwnN.nil _ _,OwnZ.nil _ _,(fun x hx=>by cases hx),hY1.alloc hY1.size _⟩
 have HNd:=needYes13 4
 have hp1:(Y1.alloc (.cells #[.int .i64 0,.int .i64 (lv:Int),.slice none 0 0,.slice none 0 0] 133)).cell? ⟨Y1.heap.size,1,none⟩=some (.int .i64 (lv:Int)):=by rw[hsz];exact HPa.out.p.cell 1
 clear K0 K1 HW1 q0 q1 hcs a0 a2 b1 hY1 hA kA kY
 generalize hn0:(b.getD 2 0).toNat=n0 at *
 have hn0':n0<256:=by rw[←hn0];exact UInt8.toNat_lt _
 have HB3l:Hid ((b.drop 3).length≤1000):=by unfold Hid;rw[List.length_drop,HBl.out];omega
 clear hn0
 generalize (b.drop 3)=b3 at *
 go_wp2_with (go_at_call 99;refine(HNd _).mono ?_;rintro x w2 ⟨rfl,hww⟩;rw[hww];clear hww w2)
 go_loopg [30] n0 (fun kx i wr=>∃(k:Nat) (v:Value) (r:List UInt8) (vk:Value) (ks:List Nat),k≤n0∧n0-k≤kx∧i=.int .i64 (k:Int)∧Hid (PaAt w wr v r lv (.slice none 0 0) vk [] (ks.map Int.ofNat))∧Hid (ks.length=k)∧Hid (r.length≤1000)∧Hid (parsK n0 b3=(parsK (n0-k) r).map fun x=>(ks++x.1,x.2)))
 case atStart=>exact⟨0,v',b3,.slice none 0 0,[],Nat.zero_le _,by omega,rfl,HPa,rfl,HB3l,by unfold Hid;rw[Nat.sub_zero];cases parsK n0 b3<;>rfl⟩
 case round =>
  clear HPa hp1 b0 b2 HNd
  obtain⟨k,v,r,vk,ks,hk,hkx,rfl,HA,HLk,HRl,HG⟩:=hrel
  have p1:wr.cell? ⟨w.heap.size+2,1,none⟩=some (.int .i64 (lv:Int)):=HA.out.p.cell 1
  by_cases hlt:k<n0
  ·have hlt':(k:Int)<(n0:Int):=by omega
   have hnk:n0-k=(n0-(k+1))+1:=by omega
   by_cases h2:2≤r.length
   ·have HX:=nextYes w.heap.size v r 2 wr w HA.out.b HA.out.r h2
    simp only[Int.cast_ofNat_Int] at HX
    go_wp2_with (go_at_call 141;refine HX.mono ?_;rintro e y2 ⟨u2,v2,rfl,hu2,hv2,rfl⟩)
    obtain⟨g2,off2,c2,rfl,hcs⟩:=hu2.two h2
    have HA2:=mkHid (HA.out.cut hv2)
    clear HX hu2 HA p1
    generalize wr.setCell ⟨w.heap.size,0,none⟩ v2=Y2 at *
    have HA3:Hid (PaAt w Y2.drew v2 (r.drop 2) lv (.slice none 0 0) vk [] (ks.map Int.ofNat)):=HA2.out.on (bel_drewN (Below.refl _ Y2) 1)
    have HKu:Hid (∀W,Below w.heap.size w W→W.cell? ⟨g2,off2,none⟩=some (.int .u8 ((r.getD 0 0).toNat:Int))∧W.cell? ⟨g2,off2+1,none⟩=some (.int .u8 ((r.getD 1 0).toNat:Int))):=fun W hW=>hcs W (KeepO.of_below hW)
    clear hcs HA2
    have HG1:Hid (parsK n0 b3=(parsK (n0-(k+1)) (r.drop 2)).map fun x=>((ks++[(r.getD 0 0).toNat * 256+(r.getD 1 0).toNat])++x.1,x.2)):=by
     unfold Hid
     rw[HG.out,hnk,parsK_step h2,Option.map_map]
     congr 1
     funext x
     simp
    have hkb:(r.getD 0 0).toNat<256:=UInt8.toNat_lt _
    have hvb:(r.getD 1 0).toNat<256:=UInt8.toNat_lt _
    generalize (r.getD 0 0).toNat=kb at *
    generalize (r.getD 1 0).toNat=vb at *
    have hwk:IntKind.i64.wrap (kb:Int)=(kb:Int):=wrapi64_in _ (by omega) (by omega)
    have hwv:IntKind.i64.wrap (vb:Int)=(vb:Int):=wrapi64_in _ (by omega) (by omega)
    have hwk2:IntKind.i64.wrap ((kb:Int) * 256)=(kb:Int) * 256:=wrapi64_in _ (by omega) (by omega)
    have hor:=or13 kb vb hkb hvb
    refine lk0 (fun w'=>w'.cell? ⟨w.heap.size+2,3,none⟩=some vk∧w'.cell? ⟨g2,off2,none⟩=some (.int .u8 (kb:Int))∧w'.cell? ⟨g2,off2+1,none⟩=some (.int .u8 (vb:Int))) 15 ⟨HA3.out.p.cell 3,HKu.out _ HA3.out.low⟩ (fun hHeld=>?_)
    generalize Y2.drew=Y3 at *
    refine lkT 57 0 ?_ rfl (Or.inl ⟨by rfl,?_⟩) hHeld ?_
    rotate_left
    ·intro w hSw;obtain⟨s1,s2,s3⟩:=hSw;go_simp;with_reducible rfl
    (try simp only[Act.put,sIx,sZ0,sZ1])
    refine lkT 58 1 (vk) rfl (Or.inl ⟨by rfl,?_⟩) hHeld ?_
    ·intro w hSw;obtain⟨s1,s2,s3⟩:=hSw;go_simp
    (try simp only[Act.put,sIx,sZ0,sZ1])
    refine lkT 59 2 ?_ rfl (Or.inl ⟨by rfl,?_⟩) hHeld ?_
    rotate_left
    ·intro w hSw;obtain⟨s1,s2,s3⟩:=hSw;go_simp;with_reducible rfl
    (try simp only[Act.put,sIx,sZ0,sZ1])
    refine lkT 60 3 ?_ rfl (Or.inl ⟨by rfl,?_⟩) hHeld ?_
    rotate_left
    ·intro w hSw;obtain⟨s1,s2,s3⟩:=hSw;go_simp;with_reducible rfl
    (try simp only[Act.put,sIx,sZ0,sZ1])
    refine lkT 61 4 (.int .u8 (kb:Int)) rfl (Or.inl ⟨by rfl,?_⟩) hHeld ?_
    ·intro w hSw;obtain⟨s1,s2,s3⟩:=hSw;go_simp
    (try simp only[Act.put,sIx,sZ0,sZ1])
    refine lkT 62 5 (.int .i64 (kb:Int)) rfl (Or.inl ⟨by rfl,?_⟩) hHeld ?_
    ·intro w hSw;obtain⟨s1,s2,s3⟩:=hSw;go_simp
    (try simp only[Act.put,sIx,sZ0,sZ1])
    refine lkT 63 6 (.int .i64 ((kb:Int) * 256)) rfl (Or.inl ⟨by rfl,?_⟩) hHeld ?_
    ·intro w hSw;obtain⟨s1,s2,s3⟩:=hSw;go_simp
    (try simp only[Act.put,sIx,sZ0,sZ1])
    refine lkT 64 7 ?_ rfl (Or.inl ⟨by rfl,?_⟩) hHeld ?_
    rotate_left
    ·intro w hSw;obtain⟨s1,s2,s3⟩:=hSw;go_simp;with_reducible rfl
    (try simp only[Act.put,sIx,sZ0,sZ1])
    refine lkT 65 8 ?_ rfl (Or.inl ⟨by rfl,?_⟩) hHeld ?_
    rotate_left
    ·intro w hSw;obtain⟨s1,s2,s3⟩:=hSw;go_simp;with_reducible rfl
    (try simp only[Act.put,sIx,sZ0,sZ1])
    refine lkT 66 9 (.int .u8 (vb:Int)) rfl (Or.inl ⟨by rfl,?_⟩) hHeld ?_
    ·intro w hSw;obtain⟨s1,s2,s3⟩:=hSw;go_simp
    (try simp only[Act.put,sIx,sZ0,sZ1])
    refine lkT 67 10 (.int .i64 (vb:Int)) rfl (Or.inl ⟨by rfl,?_⟩) hHeld ?_
    ·intro w hSw;obtain⟨s1,s2,s3⟩:=hSw;go_simp
    (try simp only[Act.put,sIx,sZ0,sZ1])
    refine lkT 68 11 (.int .i64 ((kb * 256+vb:Nat):Int)) rfl (Or.inl ⟨by rfl,?_⟩) hHeld ?_
    ·intro w hSw;obtain⟨s1,s2,s3⟩:=hSw;go_simp
    (try simp only[Act.put,sIx,sZ0,sZ1])
    generalize hz:kb * 256+vb=z at *
    clear hor hwk2
    refine lk1 12 rfl (fun K hK=>?_)
    go_simp
    have HA7:=mkHid (HA3.out.on ((Below.refl _ Y3).alloc (Nat.le_refl _) (.cells #[.int .i64 (z:Int)] 3)))
    have KB7:Hid ((Y3.alloc (.cells #[.int .i64 (z:Int)] 3)).heap[Y3.heap.size]?=some (.cells #[.int .i64 (z:Int)] 3 (0,0))):=heap_alloc_new Y3 _
    refine hK.out _ _ ⟨HA7.out.p.cell 3,HKu.out _ HA7.out.low⟩ (fun hHeld=>?_)
    (try simp only[Act.put,sIx,sZ0,sZ1])
    clear hK K HA3
    generalize Y3.alloc (.cells #[.int .i64 (z:Int)] 3)=Y7 at *
    generalize Y3.heap.size=Bn at *
    refine lk1 13 rfl (fun K hK=>?_)
    refine step_appZ13 Y7 (by rfl) _ _ (by rfl) (w.heap.size+3) vk (ks.map Int.ofNat) (by rfl) HA7.out.k Bn (z:Int) (by rfl) KB7.out (by have:=HLk.out;rw[List.length_map];omega) HA7.out.lt 70 rfl ?_
    intro v8 Y8 ho8 hg8
    obtain⟨a8,c8,he8,_⟩:=ho8.isZ
    obtain⟨hA9,hP8⟩:=HA7.out.appK ho8 hg8
    generalize hln:(ks.map Int.ofNat++[(z:Int)]).length=ln at he8
    subst he8
    have HA9:=mkHid hA9
    have d2:Y8.cell? ⟨w.heap.size+2,3,none⟩=some vk:=hP8.cell 3
    have f2:=hP8.frozen 3
    have HB8:Hid (Below w.heap.size w Y8):=HA7.out.low.grown hg8 HA7.out.low.size (fun k e=>by have:=(World.ownsRow.lt HA7.out.k k e).1;omega)
    refine hK.out _ _ ⟨hP8.cell 3,HKu.out _ HB8.out⟩ (fun hHeld=>?_)
    (try simp only[Act.put,sIx,sZ0,sZ1])
    clear hK K hP8 ho8 hg8 HA7 KB7 hA9
    refine lk1 14 rfl (fun K hK=>?_)
    go_simp
    refine hK.out _ _ hHeld (fun hHeld=>?_)
    (try simp only[Act.put,sIx,sZ0,sZ1])
    clear hK K
    refine lkZ rfl (fun K hK=>?_)
    go_simp
    refine hK.out _ _ (NoPanic.normal ?_)
    (try simp only[Act.put,sIx,sZ0,sZ1])
    clear hK K d2 f2 hHeld
    generalize Y8.setCell ⟨w.heap.size+2,3,none⟩ (.slice a8 ln c8)=Y9 at *
    have HA10:Hid (PaAt w Y9 v2 (r.drop 2) lv (.slice none 0 0) (.slice a8 ln c8) [] ((ks++[z]).map Int.ofNat)):=by
     have:=HA9.out
     unfold Hid
     rw[List.map_append]
     exact this
    have HLn:Hid ((ks++[z]).length=k+1):=by unfold Hid;rw[List.length_append,HLk.out];rfl
    clear hln hz HA9
    go_wp2_with fail
    go_roundg (n0-(k+1))
    case measure=>omega
    case rel=>exact⟨k+1,v2,r.drop 2,_,ks++[z],by omega,Nat.le_refl _,by go_num,HA10,HLn,by unfold Hid;rw[List.length_drop];have:=HRl.out;omega,HG1⟩
   ·have HX:=nextNo w.heap.size v r 2 wr w HA.out.b HA.out.r h2
    simp only[Int.cast_ofNat_Int] at HX
    have HNo:Hid (pgOf b=none):=HPn.out (by rw[HG.out,hnk,parsK_no h2];rfl)
    have HBl4:=mkHid HA.out.low
    go_wp2_with (go_at_call 141;refine HX.mono ?_;rintro e y2 ⟨rfl,rfl⟩)
    exact bp_panic (PgPost.no HNo.out HBl4.out)
  ·have hlt':¬(k:Int)<(n0:Int):=by omega
   have HPo:Hid (pgOf b=if 1<ks.length∧zerosL r=true then some ⟨lv,[],ks⟩ else none):=by
    unfold Hid
    have h3:parsK n0 b3=some (ks,r):=by
     rw[HG.out,show n0-k=0 by omega,parsK]
     simp
    exact HP.out _ h3
   have kE:=KeepO.of_below (us:=UB) HA.out.low
   obtain⟨va,vc,hve,_⟩:=HA.out.k.isZ
   rw[List.length_map] at hve
   subst hve
   have HRt:=codRightUp 0 lv (.slice none 0 0) va ks.length vc wr hlv
   obtain⟨rg,ro,rc,rfl,hri⟩:=(HA.out.r.keep kE).isB
   have hrl:=HRl.out
   have HNy:=needYes13 4
   have HNn:=needNo13 4
   unfold pgc at HRt
   have p0:wr.cell? ⟨w.heap.size+2,0,none⟩=some (.int .i64 0):=HA.out.p.cell 0
   have p2:wr.cell? ⟨w.heap.size+2,2,none⟩=some (.slice none 0 0):=HA.out.p.cell 2
   have p3:wr.cell? ⟨w.heap.size+2,3,none⟩=some (.slice va ks.length vc):=HA.out.p.cell 3
   have HTr:Hid (∀W,Below wr.heap.size wr W→Calls Tryz.prog 143 #[.slice (some ⟨rg,ro,none⟩) r.length rc,.string ⟨#[0]⟩] W fun e w'=>(∃a' n' c',e=.returned (.slice a' n' c')∧n'≤r.length∧(n'=0↔zerosL r=true))∧Below W.heap.size W w'):=fun W hW=>codTrim _ _ _ r W (hri.below hW rfl) (by omega)
   clear hri HG kE
   by_cases hR:1<ks.length
   ·rw[decide_eq_true hR] at HRt
    go_wp2_with fail
    refine HRt.mono ?_
    rintro e y2 ⟨rfl,hb2⟩
    have HAy:=mkHid (HA.out.on hb2)
    have c0:y2.cell? ⟨w.heap.size,0,none⟩=some (.slice (some ⟨rg,ro,none⟩) r.length rc):=HAy.out.b.cell 0
    have HTy:=HTr.out y2 hb2
    clear p0 p1 p2 p3 HRt HTr
    go_wp2_with fail
    refine HTy.mono ?_
    rintro e y3 ⟨⟨a3,n3,c3,rfl,hn3,hz3⟩,hb3⟩
    have HAz:=mkHid (HAy.out.on hb3)
    clear HTy c0
    by_cases h30:n3=0
    ·have HPs:Hid (pgOf b=some ⟨lv,[],ks⟩):=by unfold Hid;rw[HPo.out,if_pos ⟨hR,hz3.1 h30⟩]
     have h30':(n3:Int)=0:=by omega
     clear h30 hz3
     have z0:y3.cell? ⟨w.heap.size+2,0,none⟩=some (.int .i64 0):=HAz.out.p.cell 0
     have z1:y3.cell? ⟨w.heap.size+2,1,none⟩=some (.int .i64 (lv:Int)):=HAz.out.p.cell 1
     have z2:y3.cell? ⟨w.heap.size+2,2,none⟩=some (.slice none 0 0):=HAz.out.p.cell 2
     have z3:y3.cell? ⟨w.heap.size+2,3,none⟩=some (.slice va ks.length vc):=HAz.out.p.cell 3
     have r0:=HAz.out.res.cell 0
     have r1:=HAz.out.res.cell 1
     have r2:=HAz.out.res.cell 2
     have r3:=HAz.out.res.cell 3
     simp only[gZ0,gZ1] at r0 r1 r2 r3
     have g0:=HAz.out.res.frozen 0
     have g1:=HAz.out.res.frozen 1
     have g2':=HAz.out.res.frozen 2
     have g3:=HAz.out.res.frozen 3
     go_wp2_with (go_at_call 99;refine(HNy _).mono ?_;rintro x w2 ⟨rfl,hww⟩;rw[hww];clear hww w2)
     refine bodyPost_ret (retPg rfl _ _ (w.heap.size+1) _ _ _ _ rfl ((((HAz.out.res.set 0 _).set 1 _).set 2 _).set 3 _)) rfl ?_
     obtain⟨q1,q2,q3,q4⟩:=HAz.out.done (grown4 y3 (w.heap.size+1) (.int .i64 0) (.int .i64 (lv:Int)) (.slice none 0 0) (.slice va ks.length vc))
     unfold PgPost
     rw[HPs.out]
     exact⟨⟨_,_,[],rfl,q1,q2,rfl,q3⟩,q4⟩
    ·have HNo:Hid (pgOf b=none):=by unfold Hid;rw[HPo.out,if_neg (fun h=>h30 (hz3.2 h.2))]
     have h30':¬(n3:Int)=0:=by omega
     have hbq:((n3:Int)==0)=false:=beq_eq_false_iff_ne.2 h30'
     have HBl4:=mkHid HAz.out.low
     clear h30 hz3
     go_wp2_with (go_at_call 99;refine(HNn _).mono ?_;rintro x w2 ⟨rfl,hww⟩;rw[hww];clear hww w2)
     exact bp_panic (PgPost.no HNo.out HBl4.out)
   ·rw[decide_eq_false hR] at HRt
    have HNo:Hid (pgOf b=none):=by unfold Hid;rw[HPo.out,if_neg (fun h=>hR h.1)]
    go_wp2_with fail
    refine HRt.mono ?_
    rintro e y2 ⟨rfl,hb2⟩
    have HBl4:=mkHid (HA.out.on hb2).low
    clear p0 p1 p2 p3 HRt HTr hR
    go_wp2_with (go_at_call 99;refine(HNn _).mono ?_;rintro x w2 ⟨rfl,hww⟩;rw[hww];clear hww w2)
    exact bp_panic (PgPost.no HNo.out HBl4.out)
end
end Go.Proofs.YtpecobmfabmpkaaGreatDoor
