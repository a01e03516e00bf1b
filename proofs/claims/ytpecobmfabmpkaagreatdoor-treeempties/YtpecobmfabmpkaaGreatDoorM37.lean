/- PvD -/
import Derived.Test.YtpecobmfabmpkaaGreatDoorM35
import Derived.Test.YtpecobmfabmpkaaGreatDoorM32
import Derived.Test.YtpecobmfabmpkaaGreatDoorM36
set_option maxRecDepth 20000
set_option maxHeartbeats 4000000
namespace Go.Proofs.YtpecobmfabmpkaaGreatDoor
open Go.RowKit
theorem codJoin13 (w w0:World)(S J P base m:Nat)(t:Tl)(j:Jl)(Bp rt s gs a1 a2 k n cap g:Nat)(pa va xa:Option Addr)(pc vn vc xc:Nat)(e1 k1 e2 k2:SlV)(ks:List Nat)(l:List Et)(L:List Eq3)(h:SpAx w S J P base t j)(hf:Fit t j m)(hf1:Fit (spWr t j (s:Int) (leafB l)) j m)(hf2:Fit (gvT (spWr t j (s:Int) (leafB l)) j (gs:Int)) j m)
  (hz1:spWrE t j (s:Int) (leafB l)=0) (hz2:gvE (spWr t j (s:Int) (leafB l)) j (gs:Int)=0) (hz3:spWrE (gvT (spWr t j (s:Int) (leafB l)) j (gs:Int)) j (rt:Int) (nodeB (ks.take k++s::ks.drop (k+2)))=0) (hsn:s≤4096) (hgn:gs≤4096) (hrn:rt≤4096)
  (hK:KS base w0 w) (hB:Blk w Bp 133 [.int .i64 (rt:Int),.int .i64 1,.slice pa 0 pc,.slice (some ⟨g,0,none⟩) n cap]) (hBp:w0.heap.size≤Bp) (hO:OwnZ w w0.heap.size (.slice (some ⟨g,0,none⟩) n cap) (ks.map Int.ofNat)) (hk:k+2≤n) (hn:n≤254) (hp:PgR 0 w ⟨0,l,[]⟩ (.slice va vn vc) (.slice xa 0 xc) L) (hl:LfOk l)
  (hks:∀i∈ks,i<65536) (hgo:(a1=s∧gs=a2)∨(a1≠s∧gs=a1)) (hlo0:base≤w0.heap.size):
  Calls Tryz.prog 153 #[gT S,.pointer (some ⟨Bp,0,none⟩),.agg #[.int .i64 (k:Int),.int .i64 (a1:Int),.int .i64 0,.slice e1.1 e1.2.1 e1.2.2,.slice k1.1 k1.2.1 k1.2.2,.int .i64 (a2:Int),.int .i64 0,.slice e2.1 e2.2.1 e2.2.2,.slice k2.1 k2.2.1 k2.2.2],.agg #[.int .i64 (s:Int),.int .i64 0,.slice va vn vc,.slice xa 0 xc]] w fun e w'=>e=.returned (.tuple #[])∧SpAx w' S J P base (spWr (gvT (spWr t j (s:Int) (leafB l)) j (gs:Int)) j (rt:Int) (nodeB (ks.take k++s::ks.drop (k+2)))) j∧Blk w' Bp 133 [.int .i64 (rt:Int),.int .i64 1,.slice pa 0 pc,.slice (some ⟨g,0,none⟩) (n-1) cap]∧OwnZ w' w0.heap.size (.slice (some ⟨g,0,none⟩) (n-1) cap) ((ks.take k++s::ks.drop (k+2)).map Int.ofNat)∧KS base w0 w':=by
 have hlo:=spcOK.lo h
 have hsz0:w0.heap.size≤w.heap.size:=hK.o.size
 have hBl:=hB.lt
 have hksl:ks.length=n:=by obtain⟨_,_,_,hn',_⟩:=(OwnZ.c hO).cur;rw[hn',List.length_map]
 have hks2:∀i∈(ks.take k++s::ks.drop (k+2)),i<65536:=fun i hi=>by
  rcases List.mem_append.1 hi with h1|h1
  ·exact hks i (List.mem_of_mem_take h1)
  ·rcases List.mem_cons.1 h1 with h1|h1
   ·omega
   ·exact hks i (List.mem_of_mem_drop h1)
 have hkl2:(ks.take k++s::ks.drop (k+2)).length=n-1:=by rw[List.length_append,List.length_cons,List.length_take,List.length_drop];omega
 have hki:(ks.map Int.ofNat).take k++(s:Int):: (ks.map Int.ofNat).drop (k+2)=(ks.take k++s::ks.drop (k+2)).map Int.ofNat:=by simp[List.map_take,List.map_drop]
 unfold gT
 have W1:Below w.heap.size w (((w.alloc (.cells #[.pointer (some ⟨S,0,none⟩)] 87)).alloc (.cells #[.int .i64 (k:Int),.int .i64 (a1:Int),.int .i64 0,.slice e1.1 e1.2.1 e1.2.2,.slice k1.1 k1.2.1 k1.2.2,.int .i64 (a2:Int),.int .i64 0,.slice e2.1 e2.2.1 e2.2.2,.slice k2.1 k2.2.1 k2.2.2] 215)).alloc (.cells #[.int .i64 (s:Int),.int .i64 0,.slice va vn vc,.slice xa 0 xc] 133)):=(((Below.refl _ w).alloc (Nat.le_refl _) _).alloc (by simp) _).alloc (by simp;omega) _
 have k0:Blk (((w.alloc (.cells #[.pointer (some ⟨S,0,none⟩)] 87)).alloc (.cells #[.int .i64 (k:Int),.int .i64 (a1:Int),.int .i64 0,.slice e1.1 e1.2.1 e1.2.2,.slice k1.1 k1.2.1 k1.2.2,.int .i64 (a2:Int),.int .i64 0,.slice e2.1 e2.2.1 e2.2.2,.slice k2.1 k2.2.1 k2.2.2] 215)).alloc (.cells #[.int .i64 (s:Int),.int .i64 0,.slice va vn vc,.slice xa 0 xc] 133)) w.heap.size 87 [.pointer (some ⟨S,0,none⟩)]:=((Blk.newAt w w.heap.size 87 #[.pointer (some ⟨S,0,none⟩)] [.pointer (some ⟨S,0,none⟩)] rfl rfl).alloc _).alloc _
 have k1':Blk (((w.alloc (.cells #[.pointer (some ⟨S,0,none⟩)] 87)).alloc (.cells #[.int .i64 (k:Int),.int .i64 (a1:Int),.int .i64 0,.slice e1.1 e1.2.1 e1.2.2,.slice k1.1 k1.2.1 k1.2.2,.int .i64 (a2:Int),.int .i64 0,.slice e2.1 e2.2.1 e2.2.2,.slice k2.1 k2.2.1 k2.2.2] 215)).alloc (.cells #[.int .i64 (s:Int),.int .i64 0,.slice va vn vc,.slice xa 0 xc] 133)) (w.heap.size+1) 215 [.int .i64 (k:Int),.int .i64 (a1:Int),.int .i64 0,.slice e1.1 e1.2.1 e1.2.2,.slice k1.1 k1.2.1 k1.2.2,.int .i64 (a2:Int),.int .i64 0,.slice e2.1 e2.2.1 e2.2.2,.slice k2.1 k2.2.1 k2.2.2]:=(Blk.newAt _ (w.heap.size+1) 215 _ _ (by simp) rfl).alloc _
 have k2':Blk (((w.alloc (.cells #[.pointer (some ⟨S,0,none⟩)] 87)).alloc (.cells #[.int .i64 (k:Int),.int .i64 (a1:Int),.int .i64 0,.slice e1.1 e1.2.1 e1.2.2,.slice k1.1 k1.2.1 k1.2.2,.int .i64 (a2:Int),.int .i64 0,.slice e2.1 e2.2.1 e2.2.2,.slice k2.1 k2.2.1 k2.2.2] 215)).alloc (.cells #[.int .i64 (s:Int),.int .i64 0,.slice va vn vc,.slice xa 0 xc] 133)) (w.heap.size+2) 133 [.int .i64 (s:Int),.int .i64 0,.slice va vn vc,.slice xa 0 xc]:=Blk.newAt _ (w.heap.size+2) 133 _ _ (by simp) rfl
 generalize hW:((w.alloc (.cells #[.pointer (some ⟨S,0,none⟩)] 87)).alloc (.cells #[.int .i64 (k:Int),.int .i64 (a1:Int),.int .i64 0,.slice e1.1 e1.2.1 e1.2.2,.slice k1.1 k1.2.1 k1.2.2,.int .i64 (a2:Int),.int .i64 0,.slice e2.1 e2.2.1 e2.2.2,.slice k2.1 k2.2.1 k2.2.2] 215)).alloc (.cells #[.int .i64 (s:Int),.int .i64 0,.slice va vn vc,.slice xa 0 xc] 133)=Y0 at *
 have hA0:=SpAx.keep h (KeepT.of_below W1)
 have hK0:=hK.trans (KS.of_below W1 hlo)
 have hP0:=hB.on W1
 have hO0:OwnZ Y0 w0.heap.size (.slice (some ⟨g,0,none⟩) n cap) (ks.map Int.ofNat):=own_keepO (us:=[3]) (KeepO.of_below W1) hO (by decide)
 have hp0:=hp.below W1
 have hY3:Y0.heap.size=w.heap.size+3:=by rw[←hW];simp
 have HWr:Hid (∀W,KeepO UE Y0 W→SpAx W S J P base t j→Calls Tryz.prog 100 #[.agg #[.pointer (some ⟨S,0,none⟩)],.agg #[.int .i64 (s:Int),.int .i64 0,.slice va vn vc,.slice xa 0 xc]] W fun e w'=>e=.returned (.tuple #[])∧SpAx w' S J P base (spWr t j (s:Int) (leafB l)) j∧KS base W w'):=fun W hW hA=>by
  have:=pgWrite (fl:=0) W S J P base m t j s ⟨0,l,[]⟩ (.slice va vn vc) (.slice xa 0 xc) L hA hf (hp0.keep (KeepU.zero hW)) (pgS_leaf13 hl) hsn (by rw[pgB_leaf];exact hz1)
  rw[pgB_leaf] at this
  exact this
 have HGv:Hid (∀W (ge gk:SlV),SpAx W S J P base (spWr t j (s:Int) (leafB l)) j→Calls Tryz.prog 71 #[.agg #[.pointer (some ⟨S,0,none⟩)],.agg #[.int .i64 (gs:Int),.int .i64 0,.slice ge.1 ge.2.1 ge.2.2,.slice gk.1 gk.2.1 gk.2.2]] W fun e w'=>e=.returned (.tuple #[])∧SpAx w' S J P base (gvT (spWr t j (s:Int) (leafB l)) j (gs:Int)) j∧KS base W w'):=fun W ge gk hA =>
  pgGive W S J P base m _ j gs 0 (.slice ge.1 ge.2.1 ge.2.2) (.slice gk.1 gk.2.1 gk.2.2) hA hf1 hgn hz2 ⟨_,_,_,rfl⟩ ⟨_,_,_,rfl⟩
 have HWp:Hid (∀W,SpAx W S J P base (gvT (spWr t j (s:Int) (leafB l)) j (gs:Int)) j→OwnZ W w0.heap.size (.slice (some ⟨g,0,none⟩) (n-1) cap) ((ks.take k++s::ks.drop (k+2)).map Int.ofNat)→Calls Tryz.prog 100 #[.agg #[.pointer (some ⟨S,0,none⟩)],.agg #[.int .i64 (rt:Int),.int .i64 1,.slice pa 0 pc,.slice (some ⟨g,0,none⟩) (n-1) cap]] W fun e w'=>e=.returned (.tuple #[])∧SpAx w' S J P base (spWr (gvT (spWr t j (s:Int) (leafB l)) j (gs:Int)) j (rt:Int) (nodeB (ks.take k++s::ks.drop (k+2)))) j∧KS base W w'):=fun W hA hO=>by
  have:=pgWrite (fl:=0) W S J P base m _ j rt ⟨1,[],(ks.take k++s::ks.drop (k+2))⟩ (.slice pa 0 pc) (.slice (some ⟨g,0,none⟩) (n-1) cap) [] hA hf2 ⟨rdN_empty _ _ _,hO.rd,rfl⟩ (pgS_node13 (by rw[hkl2];omega) hks2) hrn (by rw[pgB_node];exact hz3)
  rw[pgB_node] at this
  exact this
 have HRp:Hid (∀W B,OwnZ W w0.heap.size (.slice (some ⟨g,0,none⟩) n cap) (ks.map Int.ofNat)→Blk W B 3 [.int .i64 (s:Int)]→Calls Tryz.prog 186 #[.slice (some ⟨g,0,none⟩) n cap,.int .i64 (k:Int),.int .i64 ((k:Int)+2),.slice (some ⟨B,0,none⟩) 1 1] W fun e w'=>e=.returned (.slice (some ⟨g,0,none⟩) (n-1) cap)∧OwnZ w' w0.heap.size (.slice (some ⟨g,0,none⟩) (n-1) cap) ((ks.take k++s::ks.drop (k+2)).map Int.ofNat)∧W.grownBy w' (some g)):=fun W B hO hb=>by
  have:=codReplaceI W w0.heap.size g cap n k (k+2) B rfl (ks.map Int.ofNat) (s:Int) (OwnZ.c hO) hb hk (by omega)
  rw[hki] at this
  refine this.mono ?_
  rintro e w' ⟨q1,q2,q3⟩
  exact⟨q1,q2.z13,q3⟩
 have hg0:w0.heap.size≤g:=(World.ownsRow.lt hO g rfl).1
 have HA0:=mkHid hA0
 have HK0:=mkHid hK0
 have HB0:=mkHid k0
 have HB1:=mkHid k1'
 have HB2:=mkHid k2'
 have HP0:=mkHid hP0
 have HO0:=mkHid hO0
 have HW1:=mkHid W1
 have HL0:Hid (base≤Y0.heap.size):=spcOK.lo hA0
 have c0:=k0.cell 0
 have p0:=k1'.cell 0
 have p1:=k1'.cell 1
 have p2:=k1'.cell 2
 have p3:=k1'.cell 3
 have p4:=k1'.cell 4
 have p5:=k1'.cell 5
 have p6:=k1'.cell 6
 have p7:=k1'.cell 7
 have p8:=k1'.cell 8
 have q0:=k2'.cell 0
 have q1:=k2'.cell 1
 have q2:=k2'.cell 2
 have q3:=k2'.cell 3
 simp only[gZ0,gZ1] at c0 p0 p1 p2 p3 p4 p5 p6 p7 p8 q0 q1 q2 q3
 have hgs:∃ge gk:SlV,(a1=s∧(ge,gk)=(e2,k2))∨(a1≠s∧(ge,gk)=(e1,k1)):=by
  rcases hgo with⟨h1,_⟩|⟨h1,_⟩
  ·exact⟨e2,k2,.inl ⟨h1,rfl⟩⟩
  ·exact⟨e1,k1,.inr ⟨h1,rfl⟩⟩
 generalize hn1:n-1=n1 at HWp HRp ⊢
 generalize hK2:(ks.take k++s::ks.drop (k+2))=ks2 at HWp HRp ⊢
 clear h hf hf1 hf2 hz1 hz2 hz3 hK hB hO hp hl hks hksl hks2 hkl2 hki hA0 hK0 hP0 hO0 hp0 k0 k1' k2' W1 hK2 hgs hn1
 generalize leafB l=lb at *
 generalize nodeB ks2=nb at *
 rcases hgo with⟨h1,h2⟩|⟨h1,h2⟩
 ·subst h2
  have hq:((a1:Int)==(s:Int))=true:=by rw[beq_iff_eq,h1]
  clear h1
  go_enter Tryz.func153,Tryz.ntmps153
  go_upto_region 1 with fail
  (try rw[hW])
  clear hW
  go_upto_region 2 with fail
  have kg:Blk (Y0.alloc (.cells #[.int .i64 (a1:Int),.int .i64 0,.slice e1.1 e1.2.1 e1.2.2,.slice k1.1 k1.2.1 k1.2.2] 133)) (w.heap.size+3) 133 [.int .i64 (a1:Int),.int .i64 0,.slice e1.1 e1.2.1 e1.2.2,.slice k1.1 k1.2.1 k1.2.2]:=Blk.newAt Y0 (w.heap.size+3) 133 _ _ hY3 rfl
  have b1:Below Y0.heap.size Y0 (Y0.alloc (.cells #[.int .i64 (a1:Int),.int .i64 0,.slice e1.1 e1.2.1 e1.2.2,.slice k1.1 k1.2.1 k1.2.2] 133)):=(Below.refl _ Y0).alloc (Nat.le_refl _) _
  generalize (Y0.alloc (.cells #[.int .i64 (a1:Int),.int .i64 0,.slice e1.1 e1.2.1 e1.2.2,.slice k1.1 k1.2.1 k1.2.2] 133))=Y1 at *
  have KP1:=HB1.out.on b1
  have KW1:=HB2.out.on b1
  have p0:=KP1.cell 0
  have p1:=KP1.cell 1
  have p2:=KP1.cell 2
  have p3:=KP1.cell 3
  have p4:=KP1.cell 4
  have p5:=KP1.cell 5
  have p6:=KP1.cell 6
  have p7:=KP1.cell 7
  have p8:=KP1.cell 8
  have q0:=KW1.cell 0
  have q1:=KW1.cell 1
  have q2:=KW1.cell 2
  have q3:=KW1.cell 3
  have g0:=kg.cell 0
  have g1:=kg.cell 1
  have g2:=kg.cell 2
  have g3:=kg.cell 3
  have f0:=kg.frozen 0
  have f1:=kg.frozen 1
  have f2:=kg.frozen 2
  have f3:=kg.frozen 3
  simp only[gZ0,gZ1] at p0 p1 p2 p3 p4 p5 p6 p7 p8 q0 q1 q2 q3 g0 g1 g2 g3
  go_upto_region 4 with fail
  have kg2:=store_pg (d0:=.int .i64 (gs:Int)) (d1:=.int .i64 0) (d2:=.slice e2.1 e2.2.1 e2.2.2) (d3:=.slice k2.1 k2.2.1 k2.2.2) kg
  have b2:=(((b1.setCell (p:=⟨w.heap.size+3,0,none⟩) (by show Y0.heap.size≤w.heap.size+3;omega) (.int .i64 (gs:Int))).setCell (p:=⟨w.heap.size+3,1,none⟩) (by show Y0.heap.size≤w.heap.size+3;omega) (.int .i64 0)).setCell (p:=⟨w.heap.size+3,2,none⟩) (by show Y0.heap.size≤w.heap.size+3;omega) (.slice e2.1 e2.2.1 e2.2.2)).setCell (p:=⟨w.heap.size+3,3,none⟩) (by show Y0.heap.size≤w.heap.size+3;omega) (.slice k2.1 k2.2.1 k2.2.2)
  generalize ((((Y1.setCell ⟨w.heap.size+3,0,none⟩ (.int .i64 (gs:Int))).setCell ⟨w.heap.size+3,1,none⟩ (.int .i64 0)).setCell ⟨w.heap.size+3,2,none⟩ (.slice e2.1 e2.2.1 e2.2.2)).setCell ⟨w.heap.size+3,3,none⟩ (.slice k2.1 k2.2.1 k2.2.2))=Y2 at *
  clear kg b1
  have KP2:=HB1.out.on b2
  have KW2:=HB2.out.on b2
  have KG2:=HB0.out.on b2
  have q0:=KW2.cell 0
  have q1:=KW2.cell 1
  have q2:=KW2.cell 2
  have q3:=KW2.cell 3
  have c0:=KG2.cell 0
  simp only[gZ0,gZ1] at c0 q0 q1 q2 q3
  have hA2:=SpAx.keep HA0.out (KeepT.of_below b2)
  have hWr:=HWr.out _ (KeepO.of_below b2) hA2
  have HK2:=mkHid (HK0.out.trans (KS.of_below b2 HL0.out))
  have HZ2:=mkHid (own_keepO (us:=[3]) (KeepO.of_below b2) HO0.out (by decide))
  have HBp2:=mkHid (HP0.out.on b2)
  have HKK:=mkHid (And.intro KP2 (And.intro KW2 (And.intro KG2 kg2)))
  clear HWr hA2 KP2 KW2 KG2 kg2 b2 KP1 KW1
  go_upto_region 5 with(go_at_call 100;refine hWr.mono ?_;rintro r3 y3 ⟨rfl,hA3,hk3⟩)
  have KG3:=hk3.o.blk HKK.out.2.2.1 (by decide)
  have kg3:=hk3.o.blk HKK.out.2.2.2 (by decide)
  have g0:=kg3.cell 0
  have g1:=kg3.cell 1
  have g2:=kg3.cell 2
  have g3:=kg3.cell 3
  have c0:=KG3.cell 0
  simp only[gZ0,gZ1] at c0 g0 g1 g2 g3
  have hGv:=HGv.out y3 e2 k2 hA3
  clear hWr HGv hA3 KG3 kg3
  go_upto_region 6 with(go_at_call 71;refine hGv.mono ?_;rintro r4 y4 ⟨rfl,hA4,hk4⟩)
  have hk24:=hk3.trans hk4
  have hD:Below y4.heap.size y4 y4.drew:=(Below.refl _ y4).drew
  have HCt:Hid (∀W,KS base y4 W→W.cell? ⟨w.heap.size,0,none⟩=some (.pointer (some ⟨S,0,none⟩))∧W.cell? ⟨w.heap.size+1,0,none⟩=some (.int .i64 (k:Int))∧W.cell? ⟨w.heap.size+2,0,none⟩=some (.int .i64 (s:Int))∧W.cell? ⟨Bp,3,none⟩=some (.slice (some ⟨g,0,none⟩) n cap)):=fun W hW=>by
   have e1:=(hk24.trans hW).o.blk HKK.out.2.2.1 (by decide)
   have e2:=(hk24.trans hW).o.blk HKK.out.1 (by decide)
   have e3:=(hk24.trans hW).o.blk HKK.out.2.1 (by decide)
   have e4:=(hk24.trans hW).o.blk HBp2.out (by decide)
   exact⟨e1.cell 0,e2.cell 0,e3.cell 0,e4.cell 3⟩
  have HLo4:Hid (base≤y4.heap.size):=spcOK.lo hA4
  have hkD:=KS.of_below hD HLo4.out
  have HZ4:=mkHid (own_keepO (us:=[3]) ((hk24.trans hkD).o.less (by decide)) HZ2.out (by decide))
  have HBp4:=mkHid ((hk24.trans hkD).o.blk HBp2.out (by decide))
  have HKG4:=mkHid ((hk24.trans hkD).o.blk HKK.out.2.2.1 (by decide))
  have HK4:=mkHid (HK2.out.trans (hk24.trans hkD))
  have HA4:=mkHid (SpAx.keep hA4 (KeepT.of_below hD))
  have hw2:IntKind.i64.wrap ((k:Int)+2)=(k:Int)+2:=wrapi64_in _ (by omega) (by omega)
  have HKK4:=mkHid (And.intro ((hk24.trans hkD).o.blk HKK.out.1 (by decide)) ((hk24.trans hkD).o.blk HKK.out.2.1 (by decide)))
  clear hGv hk3 hk4 hk24 hA4 HK2 HZ2 HBp2 HKK
  refine lk0 (fun W=>W.cell? ⟨w.heap.size,0,none⟩=some (.pointer (some ⟨S,0,none⟩))∧W.cell? ⟨w.heap.size+1,0,none⟩=some (.int .i64 (k:Int))∧W.cell? ⟨w.heap.size+2,0,none⟩=some (.int .i64 (s:Int))∧W.cell? ⟨Bp,3,none⟩=some (.slice (some ⟨g,0,none⟩) n cap)) 16 (HCt.out _ hkD) (fun hHeld=>?_)
  refine lkT 24 0 (.pointer (some ⟨Bp,0,none⟩)) rfl (Or.inl ⟨by rfl,?_⟩) hHeld ?_
  ·intro w hSw;go_simp
  (try simp only[Act.put,sIx,sZ0,sZ1])
  refine lkT 25 1 (.pointer (some ⟨Bp,0,none⟩)) rfl (Or.inl ⟨by rfl,?_⟩) hHeld ?_
  ·intro w hSw;go_simp
  (try simp only[Act.put,sIx,sZ0,sZ1])
  refine lkT 26 2 (.pointer (some ⟨Bp,0,none⟩)) rfl (Or.inl ⟨by rfl,?_⟩) hHeld ?_
  ·intro w hSw;go_simp
  (try simp only[Act.put,sIx,sZ0,sZ1])
  refine lkT 27 3 (.pointer (some ⟨Bp,3,none⟩)) rfl (Or.inl ⟨by rfl,?_⟩) hHeld ?_
  ·intro w hSw;go_simp
  (try simp only[Act.put,sIx,sZ0,sZ1])
  refine lkT 28 4 (.slice (some ⟨g,0,none⟩) n cap) rfl (Or.inl ⟨by rfl,?_⟩) hHeld ?_
  ·intro w hSw;obtain⟨s0,s1,s2,s3⟩:=hSw;go_simp
  (try simp only[Act.put,sIx,sZ0,sZ1])
  refine lkT 29 5 (.pointer (some ⟨w.heap.size+1,0,none⟩)) rfl (Or.inl ⟨by rfl,?_⟩) hHeld ?_
  ·intro w hSw;go_simp
  (try simp only[Act.put,sIx,sZ0,sZ1])
  refine lkT 30 6 (.int .i64 (k:Int)) rfl (Or.inl ⟨by rfl,?_⟩) hHeld ?_
  ·intro w hSw;obtain⟨s0,s1,s2,s3⟩:=hSw;go_simp
  (try simp only[Act.put,sIx,sZ0,sZ1])
  refine lkT 31 7 (.pointer (some ⟨w.heap.size+1,0,none⟩)) rfl (Or.inl ⟨by rfl,?_⟩) hHeld ?_
  ·intro w hSw;go_simp
  (try simp only[Act.put,sIx,sZ0,sZ1])
  refine lkT 32 8 (.int .i64 (k:Int)) rfl (Or.inl ⟨by rfl,?_⟩) hHeld ?_
  ·intro w hSw;obtain⟨s0,s1,s2,s3⟩:=hSw;go_simp
  (try simp only[Act.put,sIx,sZ0,sZ1])
  refine lkT 33 9 (.int .i64 ((k:Int)+2)) rfl (Or.inl ⟨by rfl,?_⟩) hHeld ?_
  ·intro w hSw;go_simp<;>(try rw[hw2])
  (try simp only[Act.put,sIx,sZ0,sZ1])
  refine lkT 34 10 (.pointer (some ⟨w.heap.size+2,0,none⟩)) rfl (Or.inl ⟨by rfl,?_⟩) hHeld ?_
  ·intro w hSw;go_simp
  (try simp only[Act.put,sIx,sZ0,sZ1])
  refine lkT 35 11 (.int .i64 (s:Int)) rfl (Or.inl ⟨by rfl,?_⟩) hHeld ?_
  ·intro w hSw;obtain⟨s0,s1,s2,s3⟩:=hSw;go_simp
  (try simp only[Act.put,sIx,sZ0,sZ1])
  refine lk1 12 rfl (fun K hK=>?_)
  go_simp
  have hA5:Below y4.drew.heap.size y4.drew (y4.drew.alloc (.cells #[.int .i64 (s:Int)] 3)):=(Below.refl _ y4.drew).alloc (Nat.le_refl _) _
  have kb5:Blk (y4.drew.alloc (.cells #[.int .i64 (s:Int)] 3)) y4.heap.size 3 [.int .i64 (s:Int)]:=Blk.newAt y4.drew y4.heap.size 3 _ _ rfl rfl
  refine hK.out _ _ (HCt.out _ (hkD.trans (KS.of_below hA5 (by have:=HLo4.out;exact this)))) (fun hHeld=>?_)
  (try simp only[Act.put,sIx,sZ0,sZ1])
  clear hK K
  have hO5:=own_keepO (us:=[3]) (KeepO.of_below hA5) HZ4.out (by decide)
  have hRp:=HRp.out _ y4.heap.size hO5 kb5
  refine lk1 13 rfl (fun K hK=>?_)
  go_simp
  refine hRp.mono ?_
  rintro r6 y6 ⟨rfl,hO6,hg6⟩
  go_simp
  have hT6:KeepT [3] (y4.drew.alloc (.cells #[.int .i64 (s:Int)] 3)) y6:=KeepT.grownZ hO5 hg6
  have hBp6:=hT6.blk (HBp4.out.on hA5) (by decide)
  have hKG6:=hT6.blk (HKG4.out.on hA5) (by decide)
  have hT46:KeepT [3] y4.drew y6:=(KeepT.of_below hA5).trans hT6
  have hB46:Below w0.heap.size y4.drew y6:=((hA5.mono HK4.out.o.size).grown hg6 (Nat.le_trans HK4.out.o.size hA5.size) (fun b e=>by cases e;exact hg0))
  refine hK.out _ _ ⟨hKG6.cell 0,(hT46.blk HKK4.out.1 (by decide)).cell 0,(hT46.blk HKK4.out.2 (by decide)).cell 0,hBp6.cell 3⟩ (fun hHeld=>?_)
  (try simp only[Act.put,sIx,sZ0,sZ1])
  clear hK K hRp
  refine lkC [15] 38 14 (.pointer (some ⟨Bp,0,none⟩)) rfl (Or.inl ⟨by rfl,?_⟩) hHeld ?_
  ·intro w hSw;go_simp
  (try simp only[Act.put,sIx,sZ0,sZ1])
  refine lkC [] 39 15 (.pointer (some ⟨Bp,3,none⟩)) rfl (Or.inl ⟨by rfl,?_⟩) hHeld ?_
  ·intro w hSw;go_simp
  (try simp only[Act.put,sIx,sZ0,sZ1])
  have kc6:=hBp6.cell 3
  have kf6:=hBp6.frozen 3
  simp only[gZ0,gZ1] at kc6
  have hBp7:=hBp6.set 3 (.slice (some ⟨g,0,none⟩) n1 cap)
  have hT67:KeepT [133] y6 (y6.setCell ⟨Bp,3,none⟩ (.slice (some ⟨g,0,none⟩) n1 cap)):=(KeepT.refl _ y6).set hBp6 (by decide) 3 _
  have hA7:=HA4.out.keep13 ((hT46.more (us:=T13) (by decide)).trans (hT67.more (by decide)))
  have hO7:OwnZ (y6.setCell ⟨Bp,3,none⟩ (.slice (some ⟨g,0,none⟩) n1 cap)) w0.heap.size (.slice (some ⟨g,0,none⟩) n1 cap) (ks2.map Int.ofNat):=own_keepO (us:=[3]) (KeepO.ofT hT67 (by decide)) hO6 (by decide)
  have hK7:=HK4.out.over (hB46.setCell (p:=⟨Bp,3,none⟩) hBp (.slice (some ⟨g,0,none⟩) n1 cap)) hlo0
  have hKG7:=hKG6.other ⟨Bp,3,none⟩ (.slice (some ⟨g,0,none⟩) n1 cap) (by show w.heap.size≠Bp;omega)
  clear hB46 hT67 hT46 hT6 hO6 hg6 hO5 kb5 hA5
  refine lkZ rfl (fun K hK=>?_)
  go_simp
  refine hK.out _ _ ?_
  (try simp only[Exit.then])
  (try simp only[Act.put,sIx,sZ0,sZ1])
  clear hK K hHeld kc6 kf6
  generalize y6.setCell ⟨Bp,3,none⟩ (.slice (some ⟨g,0,none⟩) n1 cap)=Y7 at *
  go_upto_region 7 with fail
  have hD7:Below Y7.heap.size Y7 Y7.drew:=(Below.refl _ Y7).drew
  have hWp:=HWp.out Y7.drew (SpAx.keep hA7 (KeepT.of_below hD7)) (own_keepO (us:=[3]) (KeepO.of_below hD7) hO7 (by decide))
  have HF7:=mkHid (And.intro (hBp7.on hD7) (And.intro (own_keepO (us:=[3]) (KeepO.of_below hD7) hO7 (by decide)) (hK7.trans (KS.of_below hD7 (spcOK.lo hA7)))))
  have hS7:(fun W:World=>W.cell? ⟨w.heap.size,0,none⟩=some (.pointer (some ⟨S,0,none⟩))∧W.cell? ⟨Bp,0,none⟩=some (.int .i64 (rt:Int))∧W.cell? ⟨Bp,1,none⟩=some (.int .i64 1)∧W.cell? ⟨Bp,2,none⟩=some (.slice pa 0 pc)∧W.cell? ⟨Bp,3,none⟩=some (.slice (some ⟨g,0,none⟩) n1 cap)) Y7.drew:=⟨(hKG7.on hD7).cell 0,HF7.out.1.cell 0,HF7.out.1.cell 1,HF7.out.1.cell 2,HF7.out.1.cell 3⟩
  clear hA7 hO7 hK7 hD7 hBp7 hKG7 HWp
  refine lk0 (fun W=>W.cell? ⟨w.heap.size,0,none⟩=some (.pointer (some ⟨S,0,none⟩))∧W.cell? ⟨Bp,0,none⟩=some (.int .i64 (rt:Int))∧W.cell? ⟨Bp,1,none⟩=some (.int .i64 1)∧W.cell? ⟨Bp,2,none⟩=some (.slice pa 0 pc)∧W.cell? ⟨Bp,3,none⟩=some (.slice (some ⟨g,0,none⟩) n1 cap)) 4 hS7 (fun hHeld=>?_)
  refine lkC [] 40 0 (.agg #[.pointer (some ⟨S,0,none⟩)]) rfl (Or.inl ⟨by rfl,?_⟩) hHeld ?_
  ·intro w hSw;obtain⟨s0,s1,s2,s3,s4⟩:=hSw;go_simp
  (try simp only[Act.put,sIx,sZ0,sZ1])
  refine lkC [2,3] 41 1 (.pointer (some ⟨Bp,0,none⟩)) rfl (Or.inl ⟨by rfl,?_⟩) hHeld ?_
  ·intro w hSw;go_simp
  (try simp only[Act.put,sIx,sZ0,sZ1])
  refine lkC [3] 42 2 (.pointer (some ⟨Bp,0,none⟩)) rfl (Or.inl ⟨by rfl,?_⟩) hHeld ?_
  ·intro w hSw;go_simp
  (try simp only[Act.put,sIx,sZ0,sZ1])
  refine lkC [] 43 3 (.agg #[.int .i64 (rt:Int),.int .i64 1,.slice pa 0 pc,.slice (some ⟨g,0,none⟩) n1 cap]) rfl (Or.inl ⟨by rfl,?_⟩) hHeld ?_
  ·intro w hSw;obtain⟨s0,s1,s2,s3,s4⟩:=hSw;go_simp
  (try simp only[Act.put,sIx,sZ0,sZ1])
  refine lkZ rfl (fun K hK=>?_)
  go_simp
  refine hWp.mono ?_
  rintro r8 y8 ⟨rfl,hA8,hk8⟩
  go_simp
  refine hK.out _ _ ?_
  (try simp only[Exit.then])
  (try simp only[Act.put,sIx,sZ0,sZ1])
  clear hK K hHeld
  have HF8:=mkHid (And.intro hA8 hk8)
  clear hA8 hk8 hWp
  (try go_wp2_with fail)
  go_end0
  exact⟨rfl,HF8.out.1,HF8.out.2.o.blk HF7.out.1 (by decide),own_keepO (us:=[3]) (HF8.out.2.o.less (by decide)) HF7.out.2.1 (by decide),HF7.out.2.2.trans HF8.out.2⟩
 ·subst h2
  have hq:((gs:Int)==(s:Int))=false:=by rw[beq_eq_false_iff_ne];omega
  have hq2:¬gs=s:=h1
  go_enter Tryz.func153,Tryz.ntmps153
  go_upto_region 1 with fail
  (try rw[hW])
  clear hW
  go_upto_region 2 with fail
  have kg:Blk (Y0.alloc (.cells #[.int .i64 (gs:Int),.int .i64 0,.slice e1.1 e1.2.1 e1.2.2,.slice k1.1 k1.2.1 k1.2.2] 133)) (w.heap.size+3) 133 [.int .i64 (gs:Int),.int .i64 0,.slice e1.1 e1.2.1 e1.2.2,.slice k1.1 k1.2.1 k1.2.2]:=Blk.newAt Y0 (w.heap.size+3) 133 _ _ hY3 rfl
  have b1:Below Y0.heap.size Y0 (Y0.alloc (.cells #[.int .i64 (gs:Int),.int .i64 0,.slice e1.1 e1.2.1 e1.2.2,.slice k1.1 k1.2.1 k1.2.2] 133)):=(Below.refl _ Y0).alloc (Nat.le_refl _) _
  generalize (Y0.alloc (.cells #[.int .i64 (gs:Int),.int .i64 0,.slice e1.1 e1.2.1 e1.2.2,.slice k1.1 k1.2.1 k1.2.2] 133))=Y1 at *
  have KP1:=HB1.out.on b1
  have KW1:=HB2.out.on b1
  have p0:=KP1.cell 0
  have p1:=KP1.cell 1
  have p2:=KP1.cell 2
  have p3:=KP1.cell 3
  have p4:=KP1.cell 4
  have p5:=KP1.cell 5
  have p6:=KP1.cell 6
  have p7:=KP1.cell 7
  have p8:=KP1.cell 8
  have q0:=KW1.cell 0
  have q1:=KW1.cell 1
  have q2:=KW1.cell 2
  have q3:=KW1.cell 3
  have g0:=kg.cell 0
  have g1:=kg.cell 1
  have g2:=kg.cell 2
  have g3:=kg.cell 3
  have f0:=kg.frozen 0
  have f1:=kg.frozen 1
  have f2:=kg.frozen 2
  have f3:=kg.frozen 3
  simp only[gZ0,gZ1] at p0 p1 p2 p3 p4 p5 p6 p7 p8 q0 q1 q2 q3 g0 g1 g2 g3
  go_upto_region 4 with fail
  have kg2:=kg
  have b2:=b1
  clear kg b1
  generalize Y1=Y2 at *
  have KP2:=HB1.out.on b2
  have KW2:=HB2.out.on b2
  have KG2:=HB0.out.on b2
  have q0:=KW2.cell 0
  have q1:=KW2.cell 1
  have q2:=KW2.cell 2
  have q3:=KW2.cell 3
  have c0:=KG2.cell 0
  simp only[gZ0,gZ1] at c0 q0 q1 q2 q3
  have hA2:=SpAx.keep HA0.out (KeepT.of_below b2)
  have hWr:=HWr.out _ (KeepO.of_below b2) hA2
  have HK2:=mkHid (HK0.out.trans (KS.of_below b2 HL0.out))
  have HZ2:=mkHid (own_keepO (us:=[3]) (KeepO.of_below b2) HO0.out (by decide))
  have HBp2:=mkHid (HP0.out.on b2)
  have HKK:=mkHid (And.intro KP2 (And.intro KW2 (And.intro KG2 kg2)))
  clear HWr hA2 KP2 KW2 KG2 kg2 b2 KP1 KW1
  go_upto_region 5 with(go_at_call 100;refine hWr.mono ?_;rintro r3 y3 ⟨rfl,hA3,hk3⟩)
  have KG3:=hk3.o.blk HKK.out.2.2.1 (by decide)
  have kg3:=hk3.o.blk HKK.out.2.2.2 (by decide)
  have g0:=kg3.cell 0
  have g1:=kg3.cell 1
  have g2:=kg3.cell 2
  have g3:=kg3.cell 3
  have c0:=KG3.cell 0
  simp only[gZ0,gZ1] at c0 g0 g1 g2 g3
  have hGv:=HGv.out y3 e1 k1 hA3
  clear hWr HGv hA3 KG3 kg3
  go_upto_region 6 with(go_at_call 71;refine hGv.mono ?_;rintro r4 y4 ⟨rfl,hA4,hk4⟩)
  have hk24:=hk3.trans hk4
  have hD:Below y4.heap.size y4 y4.drew:=(Below.refl _ y4).drew
  have HCt:Hid (∀W,KS base y4 W→W.cell? ⟨w.heap.size,0,none⟩=some (.pointer (some ⟨S,0,none⟩))∧W.cell? ⟨w.heap.size+1,0,none⟩=some (.int .i64 (k:Int))∧W.cell? ⟨w.heap.size+2,0,none⟩=some (.int .i64 (s:Int))∧W.cell? ⟨Bp,3,none⟩=some (.slice (some ⟨g,0,none⟩) n cap)):=fun W hW=>by
   have e1:=(hk24.trans hW).o.blk HKK.out.2.2.1 (by decide)
   have e2:=(hk24.trans hW).o.blk HKK.out.1 (by decide)
   have e3:=(hk24.trans hW).o.blk HKK.out.2.1 (by decide)
   have e4:=(hk24.trans hW).o.blk HBp2.out (by decide)
   exact⟨e1.cell 0,e2.cell 0,e3.cell 0,e4.cell 3⟩
  have HLo4:Hid (base≤y4.heap.size):=spcOK.lo hA4
  have hkD:=KS.of_below hD HLo4.out
  have HZ4:=mkHid (own_keepO (us:=[3]) ((hk24.trans hkD).o.less (by decide)) HZ2.out (by decide))
  have HBp4:=mkHid ((hk24.trans hkD).o.blk HBp2.out (by decide))
  have HKG4:=mkHid ((hk24.trans hkD).o.blk HKK.out.2.2.1 (by decide))
  have HK4:=mkHid (HK2.out.trans (hk24.trans hkD))
  have HA4:=mkHid (SpAx.keep hA4 (KeepT.of_below hD))
  have hw2:IntKind.i64.wrap ((k:Int)+2)=(k:Int)+2:=wrapi64_in _ (by omega) (by omega)
  have HKK4:=mkHid (And.intro ((hk24.trans hkD).o.blk HKK.out.1 (by decide)) ((hk24.trans hkD).o.blk HKK.out.2.1 (by decide)))
  clear hGv hk3 hk4 hk24 hA4 HK2 HZ2 HBp2 HKK
  refine lk0 (fun W=>W.cell? ⟨w.heap.size,0,none⟩=some (.pointer (some ⟨S,0,none⟩))∧W.cell? ⟨w.heap.size+1,0,none⟩=some (.int .i64 (k:Int))∧W.cell? ⟨w.heap.size+2,0,none⟩=some (.int .i64 (s:Int))∧W.cell? ⟨Bp,3,none⟩=some (.slice (some ⟨g,0,none⟩) n cap)) 16 (HCt.out _ hkD) (fun hHeld=>?_)
  refine lkT 24 0 (.pointer (some ⟨Bp,0,none⟩)) rfl (Or.inl ⟨by rfl,?_⟩) hHeld ?_
  ·intro w hSw;go_simp
  (try simp only[Act.put,sIx,sZ0,sZ1])
  refine lkT 25 1 (.pointer (some ⟨Bp,0,none⟩)) rfl (Or.inl ⟨by rfl,?_⟩) hHeld ?_
  ·intro w hSw;go_simp
  (try simp only[Act.put,sIx,sZ0,sZ1])
  refine lkT 26 2 (.pointer (some ⟨Bp,0,none⟩)) rfl (Or.inl ⟨by rfl,?_⟩) hHeld ?_
  ·intro w hSw;go_simp
  (try simp only[Act.put,sIx,sZ0,sZ1])
  refine lkT 27 3 (.pointer (some ⟨Bp,3,none⟩)) rfl (Or.inl ⟨by rfl,?_⟩) hHeld ?_
  ·intro w hSw;go_simp
  (try simp only[Act.put,sIx,sZ0,sZ1])
  refine lkT 28 4 (.slice (some ⟨g,0,none⟩) n cap) rfl (Or.inl ⟨by rfl,?_⟩) hHeld ?_
  ·intro w hSw;obtain⟨s0,s1,s2,s3⟩:=hSw;go_simp
  (try simp only[Act.put,sIx,sZ0,sZ1])
  refine lkT 29 5 (.pointer (some ⟨w.heap.size+1,0,none⟩)) rfl (Or.inl ⟨by rfl,?_⟩) hHeld ?_
  ·intro w hSw;go_simp
  (try simp only[Act.put,sIx,sZ0,sZ1])
  refine lkT 30 6 (.int .i64 (k:Int)) rfl (Or.inl ⟨by rfl,?_⟩) hHeld ?_
  ·intro w hSw;obtain⟨s0,s1,s2,s3⟩:=hSw;go_simp
  (try simp only[Act.put,sIx,sZ0,sZ1])
  refine lkT 31 7 (.pointer (some ⟨w.heap.size+1,0,none⟩)) rfl (Or.inl ⟨by rfl,?_⟩) hHeld ?_
  ·intro w hSw;go_simp
  (try simp only[Act.put,sIx,sZ0,sZ1])
  refine lkT 32 8 (.int .i64 (k:Int)) rfl (Or.inl ⟨by rfl,?_⟩) hHeld ?_
  ·intro w hSw;obtain⟨s0,s1,s2,s3⟩:=hSw;go_simp
  (try simp only[Act.put,sIx,sZ0,sZ1])
  refine lkT 33 9 (.int .i64 ((k:Int)+2)) rfl (Or.inl ⟨by rfl,?_⟩) hHeld ?_
  ·intro w hSw;go_simp<;>(try rw[hw2])
  (try simp only[Act.put,sIx,sZ0,sZ1])
  refine lkT 34 10 (.pointer (some ⟨w.heap.size+2,0,none⟩)) rfl (Or.inl ⟨by rfl,?_⟩) hHeld ?_
  ·intro w hSw;go_simp
  (try simp only[Act.put,sIx,sZ0,sZ1])
  refine lkT 35 11 (.int .i64 (s:Int)) rfl (Or.inl ⟨by rfl,?_⟩) hHeld ?_
  ·intro w hSw;obtain⟨s0,s1,s2,s3⟩:=hSw;go_simp
  (try simp only[Act.put,sIx,sZ0,sZ1])
  refine lk1 12 rfl (fun K hK=>?_)
  go_simp
  have hA5:Below y4.drew.heap.size y4.drew (y4.drew.alloc (.cells #[.int .i64 (s:Int)] 3)):=(Below.refl _ y4.drew).alloc (Nat.le_refl _) _
  have kb5:Blk (y4.drew.alloc (.cells #[.int .i64 (s:Int)] 3)) y4.heap.size 3 [.int .i64 (s:Int)]:=Blk.newAt y4.drew y4.heap.size 3 _ _ rfl rfl
  refine hK.out _ _ (HCt.out _ (hkD.trans (KS.of_below hA5 (by have:=HLo4.out;exact this)))) (fun hHeld=>?_)
  (try simp only[Act.put,sIx,sZ0,sZ1])
  clear hK K
  have hO5:=own_keepO (us:=[3]) (KeepO.of_below hA5) HZ4.out (by decide)
  have hRp:=HRp.out _ y4.heap.size hO5 kb5
  refine lk1 13 rfl (fun K hK=>?_)
  go_simp
  refine hRp.mono ?_
  rintro r6 y6 ⟨rfl,hO6,hg6⟩
  go_simp
  have hT6:KeepT [3] (y4.drew.alloc (.cells #[.int .i64 (s:Int)] 3)) y6:=KeepT.grownZ hO5 hg6
  have hBp6:=hT6.blk (HBp4.out.on hA5) (by decide)
  have hKG6:=hT6.blk (HKG4.out.on hA5) (by decide)
  have hT46:KeepT [3] y4.drew y6:=(KeepT.of_below hA5).trans hT6
  have hB46:Below w0.heap.size y4.drew y6:=((hA5.mono HK4.out.o.size).grown hg6 (Nat.le_trans HK4.out.o.size hA5.size) (fun b e=>by cases e;exact hg0))
  refine hK.out _ _ ⟨hKG6.cell 0,(hT46.blk HKK4.out.1 (by decide)).cell 0,(hT46.blk HKK4.out.2 (by decide)).cell 0,hBp6.cell 3⟩ (fun hHeld=>?_)
  (try simp only[Act.put,sIx,sZ0,sZ1])
  clear hK K hRp
  refine lkC [15] 38 14 (.pointer (some ⟨Bp,0,none⟩)) rfl (Or.inl ⟨by rfl,?_⟩) hHeld ?_
  ·intro w hSw;go_simp
  (try simp only[Act.put,sIx,sZ0,sZ1])
  refine lkC [] 39 15 (.pointer (some ⟨Bp,3,none⟩)) rfl (Or.inl ⟨by rfl,?_⟩) hHeld ?_
  ·intro w hSw;go_simp
  (try simp only[Act.put,sIx,sZ0,sZ1])
  have kc6:=hBp6.cell 3
  have kf6:=hBp6.frozen 3
  simp only[gZ0,gZ1] at kc6
  have hBp7:=hBp6.set 3 (.slice (some ⟨g,0,none⟩) n1 cap)
  have hT67:KeepT [133] y6 (y6.setCell ⟨Bp,3,none⟩ (.slice (some ⟨g,0,none⟩) n1 cap)):=(KeepT.refl _ y6).set hBp6 (by decide) 3 _
  have hA7:=HA4.out.keep13 ((hT46.more (us:=T13) (by decide)).trans (hT67.more (by decide)))
  have hO7:OwnZ (y6.setCell ⟨Bp,3,none⟩ (.slice (some ⟨g,0,none⟩) n1 cap)) w0.heap.size (.slice (some ⟨g,0,none⟩) n1 cap) (ks2.map Int.ofNat):=own_keepO (us:=[3]) (KeepO.ofT hT67 (by decide)) hO6 (by decide)
  have hK7:=HK4.out.over (hB46.setCell (p:=⟨Bp,3,none⟩) hBp (.slice (some ⟨g,0,none⟩) n1 cap)) hlo0
  have hKG7:=hKG6.other ⟨Bp,3,none⟩ (.slice (some ⟨g,0,none⟩) n1 cap) (by show w.heap.size≠Bp;omega)
  clear hB46 hT67 hT46 hT6 hO6 hg6 hO5 kb5 hA5
  refine lkZ rfl (fun K hK=>?_)
  go_simp
  refine hK.out _ _ ?_
  (try simp only[Exit.then])
  (try simp only[Act.put,sIx,sZ0,sZ1])
  clear hK K hHeld kc6 kf6
  generalize y6.setCell ⟨Bp,3,none⟩ (.slice (some ⟨g,0,none⟩) n1 cap)=Y7 at *
  go_upto_region 7 with fail
  have hD7:Below Y7.heap.size Y7 Y7.drew:=(Below.refl _ Y7).drew
  have hWp:=HWp.out Y7.drew (SpAx.keep hA7 (KeepT.of_below hD7)) (own_keepO (us:=[3]) (KeepO.of_below hD7) hO7 (by decide))
  have HF7:=mkHid (And.intro (hBp7.on hD7) (And.intro (own_keepO (us:=[3]) (KeepO.of_below hD7) hO7 (by decide)) (hK7.trans (KS.of_below hD7 (spcOK.lo hA7)))))
  have hS7:(fun W:World=>W.cell? ⟨w.heap.size,0,none⟩=some (.pointer (some ⟨S,0,none⟩))∧W.cell? ⟨Bp,0,none⟩=some (.int .i64 (rt:Int))∧W.cell? ⟨Bp,1,none⟩=some (.int .i64 1)∧W.cell? ⟨Bp,2,none⟩=some (.slice pa 0 pc)∧W.cell? ⟨Bp,3,none⟩=some (.slice (some ⟨g,0,none⟩) n1 cap)) Y7.drew:=⟨(hKG7.on hD7).cell 0,HF7.out.1.cell 0,HF7.out.1.cell 1,HF7.out.1.cell 2,HF7.out.1.cell 3⟩
  clear hA7 hO7 hK7 hD7 hBp7 hKG7 HWp
  refine lk0 (fun W=>W.cell? ⟨w.heap.size,0,none⟩=some (.pointer (some ⟨S,0,none⟩))∧W.cell? ⟨Bp,0,none⟩=some (.int .i64 (rt:Int))∧W.cell? ⟨Bp,1,none⟩=some (.int .i64 1)∧W.cell? ⟨Bp,2,none⟩=some (.slice pa 0 pc)∧W.cell? ⟨Bp,3,none⟩=some (.slice (some ⟨g,0,none⟩) n1 cap)) 4 hS7 (fun hHeld=>?_)
  refine lkC [] 40 0 (.agg #[.pointer (some ⟨S,0,none⟩)]) rfl (Or.inl ⟨by rfl,?_⟩) hHeld ?_
  ·intro w hSw;obtain⟨s0,s1,s2,s3,s4⟩:=hSw;go_simp
  (try simp only[Act.put,sIx,sZ0,sZ1])
  refine lkC [2,3] 41 1 (.pointer (some ⟨Bp,0,none⟩)) rfl (Or.inl ⟨by rfl,?_⟩) hHeld ?_
  ·intro w hSw;go_simp
  (try simp only[Act.put,sIx,sZ0,sZ1])
  refine lkC [3] 42 2 (.pointer (some ⟨Bp,0,none⟩)) rfl (Or.inl ⟨by rfl,?_⟩) hHeld ?_
  ·intro w hSw;go_simp
  (try simp only[Act.put,sIx,sZ0,sZ1])
  refine lkC [] 43 3 (.agg #[.int .i64 (rt:Int),.int .i64 1,.slice pa 0 pc,.slice (some ⟨g,0,none⟩) n1 cap]) rfl (Or.inl ⟨by rfl,?_⟩) hHeld ?_
  ·intro w hSw;obtain⟨s0,s1,s2,s3,s4⟩:=hSw;go_simp
  (try simp only[Act.put,sIx,sZ0,sZ1])
  refine lkZ rfl (fun K hK=>?_)
  go_simp
  refine hWp.mono ?_
  rintro r8 y8 ⟨rfl,hA8,hk8⟩
  go_simp
  refine hK.out _ _ ?_
  (try simp only[Exit.then])
  (try simp only[Act.put,sIx,sZ0,sZ1])
  clear hK K hHeld
  have HF8:=mkHid (And.intro hA8 hk8)
  clear hA8 hk8 hWp
  (try go_wp2_with fail)
  go_end0
  exact⟨rfl,HF8.out.1,HF8.out.2.o.blk HF7.out.1 (by decide),own_keepO (us:=[3]) (HF8.out.2.o.less (by decide)) HF7.out.2.1 (by decide),HF7.out.2.2.trans HF8.out.2⟩
end Go.Proofs.YtpecobmfabmpkaaGreatDoor
