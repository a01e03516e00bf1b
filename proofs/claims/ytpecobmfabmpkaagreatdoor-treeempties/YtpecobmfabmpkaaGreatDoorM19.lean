/- PvD Tp5 PvE PvF0 ConE ConI -/
import Derived.Test.YtpecobmfabmpkaaGreatDoorM18
import Derived.Test.YtpecobmfabmpkaaGreatDoorM16
import Derived.Lib.AppendZeros
set_option maxRecDepth 20000
set_option maxHeartbeats 4000000
namespace Go.Proofs.YtpecobmfabmpkaaGreatDoor
section
open Go.RowKit
theorem codJoin13 (w w0:World)(S J P base m:Nat)(t:Tl)(j:Jl)(Bp rt s gs a1 a2 k n cap g:Nat)(pa va xa:Option Addr)(pc vn vc xc:Nat)(e1 k1 e2 k2:SlV)(ks:List Nat)(l:List Et)(L:List Eq3)(h:SpAx w S J P base t j)(hf:Fit t j m)(hf1:Fit (spWr t j (s:Int) (leafB l)) j m)(hf2:Fit (gvT (spWr t j (s:Int) (leafB l)) j (gs:Int)) j m)
  (hz1:spWrE t j (s:Int) (leafB l)=0) (hz2:gvE (spWr t j (s:Int) (leafB l)) j (gs:Int)=0) (hz3:spWrE (gvT (spWr t j (s:Int) (leafB l)) j (gs:Int)) j (rt:Int) (nodeB (ks.take k++s::ks.drop (k+2)))=0) (hsn:s≤4096) (hgn:gs≤4096) (hrn:rt≤4096)
  (hK:KS base w0 w) (hB:Blk w Bp 133 [.int .i64 (rt:Int),.int .i64 1,.slice pa 0 pc,.slice (some ⟨g,0,none⟩) n cap]) (hBp:w0.heap.size≤Bp) (hO:OwnZ w w0.heap.size (.slice (some ⟨g,0,none⟩) n cap) (ks.map Int.ofNat)) (hk:k+2≤n) (hn:n≤254) (hp:PgR 0 w ⟨0,l,[]⟩ (.slice va vn vc) (.slice xa 0 xc) L) (hl:LfOk l)
  (hks:∀i∈ks,i<65536) (hgo:(a1=s∧gs=a2)∨(a1≠s∧gs=a1)) (hlo0:base≤w0.heap.size):
  Calls Tryz.prog 153 #[gT S,.pointer (some ⟨Bp,0,none⟩),.agg #[.int .i64 (k:Int),.int .i64 (a1:Int),.int .i64 0,.slice e1.1 e1.2.1 e1.2.2,.slice k1.1 k1.2.1 k1.2.2,.int .i64 (a2:Int),.int .i64 0,.slice e2.1 e2.2.1 e2.2.2,.slice k2.1 k2.2.1 k2.2.2],.agg #[.int .i64 (s:Int),.int .i64 0,.slice va vn vc,.slice xa 0 xc]] w fun e w'=>e=.returned (.tuple #[])∧SpAx w' S J P base (spWr (gvT (spWr t j (s:Int) (leafB l)) j (gs:Int)) j (rt:Int) (nodeB (ks.take k++s::ks.drop (k+2)))) j∧Blk w' Bp 133 [.int .i64 (rt:Int),.int .i64 1,.slice pa 0 pc,.slice (some ⟨g,0,none⟩) (n-1) cap]∧OwnZ w' w0.heap.size (.slice (some ⟨g,0,none⟩) (n-1) cap) ((ks.take k++s::ks.drop (k+2)).map Int.ofNat)∧KS base w0 w':=by
 have hlo:=spcOK.lo h
 have hsz0:w0.heap.size≤w.heap.size:=hK.o.size
 have hBl:=hB.lt
 have hksl:ks.length=n:=by obtain⟨_,_,_,hn',_⟩:=(OwnZ.c hO).cur;rw[hn',List.length_map]
 have hks2:∀i∈(ks.take k++s::ks.drop (k+2)),i<65536:=fun i hi=>by
  rcases List.mem_append.1 hi with h1|h1
  ·exact hks i (List.mem_of_mem_take h1)
  ·rcases List.mem_cons.1 h1 with h1|h1
   ·omega
   ·exact hks i (List.mem_of_mem_drop h1)
 have hkl2:(ks.take k++s::ks.drop (k+2)).length=n-1:=by rw[List.length_append,List.length_cons,List.length_take,List.length_drop];omega
 have hki:(ks.map Int.ofNat).take k++(s:Int):: (ks.map Int.ofNat).drop (k+2)=(ks.take k++s::ks.drop (k+2)).map Int.ofNat:=by simp[List.map_take,List.map_drop]
 unfold gT
 have W1:Below w.heap.size w (((w.alloc (.cells #[.pointer (some ⟨S,0,none⟩)] 87)).alloc (.cells #[.int .i64 (k:Int),.int .i64 (a1:Int),.int .i64 0,.slice e1.1 e1.2.1 e1.2.2,.slice k1.1 k1.2.1 k1.2.2,.int .i64 (a2:Int),.int .i64 0,.slice e2.1 e2.2.1 e2.2.2,.slice k2.1 k2.2.1 k2.2.2] 215)).alloc (.cells #[.int .i64 (s:Int),.int .i64 0,.slice va vn vc,.slice xa 0 xc] 133)):=(((Below.refl _ w).alloc (Nat.le_refl _) _).alloc (by simp) _).alloc (by simp;omega) _
 have k0:Blk (((w.alloc (.cells #[.pointer (some ⟨S,0,none⟩)] 87)).alloc (.cells #[.int .i64 (k:Int),.int .i64 (a1:Int),.int .i64 0,.slice e1.1 e1.2.1 e1.2.2,.slice k1.1 k1.2.1 k1.2.2,.int .i64 (a2:Int),.int .i64 0,.slice e2.1 e2.2.1 e2.2.2,.slice k2.1 k2.2.1 k2.2.2] 215)).alloc (.cells #[.int .i64 (s:Int),.int .i64 0,.slice va vn vc,.slice xa 0 xc] 133)) w.heap.size 87 [.pointer (some ⟨S,0,none⟩)]:=((Blk.newAt w w.heap.size 87 #[.pointer (some ⟨S,0,none⟩)] [.pointer (some ⟨S,0,none⟩)] rfl rfl).alloc _).alloc _
 have k1':Blk (((w.alloc (.cells #[.pointer (some ⟨S,0,none⟩)] 87)).alloc (.cells #[.int .i64 (k:Int),.int .i64 (a1:Int),.int .i64 0,.slice e1.1 e1.2.1 e1.2.2,.slice k1.1 k1.2.1 k1.2.2,.int .i64 (a2:Int),.int .i64 0,.slice e2.1 e2.2.1 e2.2.2,.slice k2.1 k2.2.1 k2.2.2] 215)).alloc (.cells #[.int .i64 (s:Int),.int .i64 0,.slice va vn vc,.slice xa 0 xc] 133)) (w.heap.size+1) 215 [.int .i64 (k:Int),.int .i64 (a1:Int),.int .i64 0,.slice e1.1 e1.2.1 e1.2.2,.slice k1.1 k1.2.1 k1.2.2,.int .i64 (a2:Int),.int .i64 0,.slice e2.1 e2.2.1 e2.2.2,.slice k2.1 k2.2.1 k2.2.2]:=(Blk.newAt _ (w.heap.size+1) 215 _ _ (by simp) rfl).alloc _
 have k2':Blk (((w.alloc (.cells #[.pointer (some ⟨S,0,none⟩)] 87)).alloc (.cells #[.int .i64 (k:Int),.int .i64 (a1:Int),.int .i64 0,.slice e1.1 e1.2.1 e1.2.2,.slice k1.1 k1.2.1 k1.2.2,.int .i64 (a2:Int),.int .i64 0,.slice e2.1 e2.2.1 e2.2.2,.slice k2.1 k2.2.1 k2.2.2] 215)).alloc (.cells #[.int .i64 (s:Int),.int .i64 0,.slice va vn vc,.slice xa 0 xc] 133)) (w.heap.size+2) 133 [.int .i64 (s:Int),.int .i64 0,.slice va vn vc,.slice xa 0 xc]:=Blk.newAt _ (w.heap.size+2) 133 _ _ (by simp) rfl
 generalize hW:((w.alloc (.cells #[.pointer (some ⟨S,0,none⟩)] 87)).alloc (.cells #[.int .i64 (k:Int),.int .i64 (a1:Int),.int .i64 0,.slice e1.1 e1.2.1 e1.2.2,.slice k1.1 k1.2.1 k1.2.2,.int .i64 (a2:Int),.int .i64 0,.slice e2.1 e2.2.1 e2.2.2,.slice k2.1 k2.2.1 k2.2.2] 215)).alloc (.cells #[.int .i64 (s:Int),.int .i64 0,.slice va vn vc,.slice xa 0 xc] 133)=Y0 at *
 have hA0:=SpAx.keep h (KeepT.of_below W1)
 have hK0:=hK.trans (KS.of_below W1 hlo)
 have hP0:=hB.on W1
 have hO0:OwnZ Y0 w0.heap.size (.slice (some ⟨g,0,none⟩) n cap) (ks.map Int.ofNat):=own_keepO (us:=[3]) (KeepO.of_below W1) hO (by decide)
 have hp0:=hp.below W1
 have hY3:Y0.heap.size=w.heap.size+3:=by rw[←hW];simp
 have HWr:Hid (∀W,KeepO UE Y0 W→SpAx W S J P base t j→Calls Tryz.prog 100 #[.agg #[.pointer (some ⟨S,0,none⟩)],.agg #[.int .i64 (s:Int),.int .i64 0,.slice va vn vc,.slice xa 0 xc]] W fun e w'=>e=.returned (.tuple #[])∧SpAx w' S J P base (spWr t j (s:Int) (leafB l)) j∧KS base W w'):=fun W hW hA=>by
  have:=pgWrite (fl:=0) W S J P base m t j s ⟨0,l,[]⟩ (.slice va vn vc) (.slice xa 0 xc) L hA hf (hp0.keep (KeepU.zero hW)) (pgS_leaf13 hl) hsn (by rw[pgB_leaf];exact hz1)
  rw[pgB_leaf] at this
  exact this
 have HGv:Hid (∀W (ge gk:SlV),SpAx W S J P base (spWr t j (s:Int) (leafB l)) j→Calls Tryz.prog 71 #[.agg #[.pointer (some ⟨S,0,none⟩)],.agg #[.int .i64 (gs:Int),.int .i64 0,.slice ge.1 ge.2.1 ge.2.2,.slice gk.1 gk.2.1 gk.2.2]] W fun e w'=>e=.returned (.tuple #[])∧SpAx w' S J P base (gvT (spWr t j (s:Int) (leafB l)) j (gs:Int)) j∧KS base W w'):=fun W ge gk hA =>
  pgGive W S J P base m _ j gs 0 (.slice ge.1 ge.2.1 ge.2.2) (.slice gk.1 gk.2.1 gk.2.2) hA hf1 hgn hz2 ⟨_,_,_,rfl⟩ ⟨_,_,_,rfl⟩
 have HWp:Hid (∀W,SpAx W S J P base (gvT (spWr t j (s:Int) (leafB l)) j (gs:Int)) j→OwnZ W w0.heap.size (.slice (some ⟨g,0,none⟩) (n-1) cap) ((ks.take k++s::ks.drop (k+2)).map Int.ofNat)→Calls Tryz.prog 100 #[.agg #[.pointer (some ⟨S,0,none⟩)],.agg #[.int .i64 (rt:Int),.int .i64 1,.slice pa 0 pc,.slice (some ⟨g,0,none⟩) (n-1) cap]] W fun e w'=>e=.returned (.tuple #[])∧SpAx w' S J P base (spWr (gvT (spWr t j (s:Int) (leafB l)) j (gs:Int)) j (rt:Int) (nodeB (ks.take k++s::ks.drop (k+2)))) j∧KS base W w'):=fun W hA hO=>by
  have:=pgWrite (fl:=0) W S J P base m _ j rt ⟨1,[],(ks.take k++s::ks.drop (k+2))⟩ (.slice pa 0 pc) (.slice (some ⟨g,0,none⟩) (n-1) cap) [] hA hf2 ⟨rdN_empty _ _ _,hO.rd,rfl⟩ (pgS_node13 (by rw[hkl2];omega) hks2) hrn (by rw[pgB_node];exact hz3)
  rw[pgB_node] at this
  exact this
 have HRp:Hid (∀W B,OwnZ W w0.heap.size (.slice (some ⟨g,0,none⟩) n cap) (ks.map Int.ofNat)→Blk W B 3 [.int .i64 (s:Int)]→Calls Tryz.prog 186 #[.slice (some ⟨g,0,none⟩) n cap,.int .i64 (k:Int),.int .i64 ((k:Int)+2),.slice (some ⟨B,0,none⟩) 1 1] W fun e w'=>e=.returned (.slice (some ⟨g,0,none⟩) (n-1) cap)∧OwnZ w' w0.heap.size (.slice (some ⟨g,0,none⟩) (n-1) cap) ((ks.take k++s::ks.drop (k+2)).map Int.ofNat)∧W.grownBy w' (some g)):=fun W B hO hb=>by
  have:=codReplaceI W w0.heap.size g cap n k (k+2) B rfl (ks.map Int.ofNat) (s:Int) (OwnZ.c hO) hb hk (by omega)
  rw[hki] at this
  refine this.mono ?_
  rintro e w' ⟨q1,q2,q3⟩
  exact⟨q1,q2.z13,q3⟩
 have hg0:w0.heap.size≤g:=(World.ownsRow.lt hO g rfl).1
 have HA0:=mkHid hA0
 have HK0:=mkHid hK0
 have HB0:=mkHid k0
 have HB1:=mkHid k1'
 have HB2:=mkHid k2'
 have HP0:=mkHid hP0
 have HO0:=mkHid hO0
 have HW1:=mkHid W1
 have HL0:Hid (base≤Y0.heap.size):=spcOK.lo hA0
 have c0:=k0.cell 0
 have p0:=k1'.cell 0
 have p1:=k1'.cell 1
 have p2:=k1'.cell 2
 have p3:=k1'.cell 3
 have p4:=k1'.cell 4
 have p5:=k1'.cell 5
 have p6:=k1'.cell 6
 have p7:=k1'.cell 7
 have p8:=k1'.cell 8
 have q0:=k2'.cell 0
 have q1:=k2'.cell 1
 have q2:=k2'.cell 2
 have q3:=k2'.cell 3
 simp only[gZ0,gZ1] at c0 p0 p1 p2 p3 p4 p5 p6 p7 p8 q0 q1 q2 q3
 have hgs:∃ge gk:SlV,(a1=s∧(ge,gk)=(e2,k2))∨(a1≠s∧(ge,gk)=(e1,k1)):=by
  rcases hgo with⟨h1,_⟩|⟨h1,_⟩
  ·exact⟨e2,k2,.inl ⟨h1,rfl⟩⟩
  ·exact⟨e1,k1,.inr ⟨h1,rfl⟩⟩
 generalize hn1:n-1=n1 at HWp HRp ⊢
 generalize hK2:(ks.take k++s::ks.drop (k+2))=ks2 at HWp HRp ⊢
 clear h hf hf1 hf2 hz1 hz2 hz3 hK hB hO hp hl hks hksl hks2 hkl2 hki hA0 hK0 hP0 hO0 hp0 k0 k1' k2' W1 hK2 hgs hn1
 generalize leafB l=lb at *
 generalize nodeB ks2=nb at *
 rcases hgo with⟨h1,h2⟩|⟨h1,h2⟩
 ·subst h2
  have hq:((a1:Int)==(s:Int))=true:=by rw[beq_iff_eq,h1]
  clear h1
  go_enter Tryz.func153,Tryz.ntmps153
  go_upto_region 1 with fail
  (try rw[hW])
  clear hW
  go_upto_region 2 with fail
  have kg:Blk (Y0.alloc (.cells #[.int .i64 (a1:Int),.int .i64 0,.slice e1.1 e1.2.1 e1.2.2,.slice k1.1 k1.2.1 k1.2.2] 133)) (w.heap.size+3) 133 [.int .i64 (a1:Int),.int .i64 0,.slice e1.1 e1.2.1 e1.2.2,.slice k1.1 k1.2.1 k1.2.2]:=Blk.newAt Y0 (w.heap.size+3) 133 _ _ hY3 rfl
  have b1:Below Y0.heap.size Y0 (Y0.alloc (.cells #[.int .i64 (a1:Int),.int .i64 0,.slice e1.1 e1.2.1 e1.2.2,.slice k1.1 k1.2.1 k1.2.2] 133)):=(Below.refl _ Y0).alloc (Nat.le_refl _) _
  generalize (Y0.alloc (.cells #[.int .i64 (a1:Int),.int .i64 0,.slice e1.1 e1.2.1 e1.2.2,.slice k1.1 k1.2.1 k1.2.2] 133))=Y1 at *
  have KP1:=HB1.out.on b1
  have KW1:=HB2.out.on b1
  have p0:=KP1.cell 0
  have p1:=KP1.cell 1
  have p2:=KP1.cell 2
  have p3:=KP1.cell 3
  have p4:=KP1.cell 4
  have p5:=KP1.cell 5
  have p6:=KP1.cell 6
  have p7:=KP1.cell 7
  have p8:=KP1.cell 8
  have q0:=KW1.cell 0
  have q1:=KW1.cell 1
  have q2:=KW1.cell 2
  have q3:=KW1.cell 3
  have g0:=kg.cell 0
  have g1:=kg.cell 1
  have g2:=kg.cell 2
  have g3:=kg.cell 3
  have f0:=kg.frozen 0
  have f1:=kg.frozen 1
  have f2:=kg.frozen 2
  have f3:=kg.frozen 3
  simp only[gZ0,gZ1] at p0 p1 p2 p3 p4 p5 p6 p7 p8 q0 q1 q2 q3 g0 g1 g2 g3
  go_upto_region 4 with fail
  have kg2:=store_pg (d0:=.int .i64 (gs:Int)) (d1:=.int .i64 0) (d2:=.slice e2.1 e2.2.1 e2.2.2) (d3:=.slice k2.1 k2.2.1 k2.2.2) kg
  have b2:=(((b1.setCell (p:=⟨w.heap.size+3,0,none⟩) (by show Y0.heap.size≤w.heap.size+3;omega) (.int .i64 (gs:Int))).setCell (p:=⟨w.heap.size+3,1,none⟩) (by show Y0.heap.size≤w.heap.size+3;omega) (.int .i64 0)).setCell (p:=⟨w.heap.size+3,2,none⟩) (by show Y0.heap.size≤w.heap.size+3;omega) (.slice e2.1 e2.2.1 e2.2.2)).setCell (p:=⟨w.heap.size+3,3,none⟩) (by show Y0.heap.size≤w.heap.size+3;omega) (.slice k2.1 k2.2.1 k2.2.2)
  generalize ((((Y1.setCell ⟨w.heap.size+3,0,none⟩ (.int .i64 (gs:Int))).setCell ⟨w.heap.size+3,1,none⟩ (.int .i64 0)).setCell ⟨w.heap.size+3,2,none⟩ (.slice e2.1 e2.2.1 e2.2.2)).setCell ⟨w.heap.size+3,3,none⟩ (.slice k2.1 k2.2.1 k2.2.2))=Y2 at *
  clear kg b1
  have KP2:=HB1.out.on b2
  have KW2:=HB2.out.on b2
  have KG2:=HB0.out.on b2
  have q0:=KW2.cell 0
  have q1:=KW2.cell 1
  have q2:=KW2.cell 2
  have q3:=KW2.cell 3
  have c0:=KG2.cell 0
  simp only[gZ0,gZ1] at c0 q0 q1 q2 q3
  have hA2:=SpAx.keep HA0.out (KeepT.of_below b2)
  have hWr:=HWr.out _ (KeepO.of_below b2) hA2
  have HK2:=mkHid (HK0.out.trans (KS.of_below b2 HL0.out))
  have HZ2:=mkHid (own_keepO (us:=[3]) (KeepO.of_below b2) HO0.out (by decide))
  have HBp2:=mkHid (HP0.out.on b2)
  have HKK:=mkHid (And.intro KP2 (And.intro KW2 (And.intro KG2 kg2)))
  clear HWr hA2 KP2 KW2 KG2 kg2 b2 KP1 KW1
  go_upto_region 5 with(go_at_call 100;refine hWr.mono ?_;rintro r3 y3 ⟨rfl,hA3,hk3⟩)
  have KG3:=hk3.o.blk HKK.out.2.2.1 (by decide)
  have kg3:=hk3.o.blk HKK.out.2.2.2 (by decide)
  have g0:=kg3.cell 0
  have g1:=kg3.cell 1
  have g2:=kg3.cell 2
  have g3:=kg3.cell 3
  have c0:=KG3.cell 0
  simp only[gZ0,gZ1] at c0 g0 g1 g2 g3
  have hGv:=HGv.out y3 e2 k2 hA3
  clear hWr HGv hA3 KG3 kg3
  go_upto_region 6 with(go_at_call 71;refine hGv.mono ?_;rintro r4 y4 ⟨rfl,hA4,hk4⟩)
  have hk24:=hk3.trans hk4
  have hD:Below y4.heap.size y4 y4.drew:=(Below.refl _ y4).drew
  have HCt:Hid (∀W,KS base y4 W→W.cell? ⟨w.heap.size,0,none⟩=some (.pointer (some ⟨S,0,none⟩))∧W.cell? ⟨w.heap.size+1,0,none⟩=some (.int .i64 (k:Int))∧W.cell? ⟨w.heap.size+2,0,none⟩=some (.int .i64 (s:Int))∧W.cell? ⟨Bp,3,none⟩=some (.slice (some ⟨g,0,none⟩) n cap)):=fun W hW=>by
   have e1:=(hk24.trans hW).o.blk HKK.out.2.2.1 (by decide)
   have e2:=(hk24.trans hW).o.blk HKK.out.1 (by decide)
   have e3:=(hk24.trans hW).o.blk HKK.out.2.1 (by decide)
   have e4:=(hk24.trans hW).o.blk HBp2.out (by decide)
   exact⟨e1.cell 0,e2.cell 0,e3.cell 0,e4.cell 3⟩
  have HLo4:Hid (base≤y4.heap.size):=spcOK.lo hA4
  have hkD:=KS.of_below hD HLo4.out
  have HZ4:=mkHid (own_keepO (us:=[3]) ((hk24.trans hkD).o.less (by decide)) HZ2.out (by decide))
  have HBp4:=mkHid ((hk24.trans hkD).o.blk HBp2.out (by decide))
  have HKG4:=mkHid ((hk24.trans hkD).o.blk HKK.out.2.2.1 (by decide))
  have HK4:=mkHid (HK2.out.trans (hk24.trans hkD))
  have HA4:=mkHid (SpAx.keep hA4 (KeepT.of_below hD))
  have hw2:IntKind.i64.wrap ((k:Int)+2)=(k:Int)+2:=wrapi64_in _ (by omega) (by omega)
  have HKK4:=mkHid (And.intro ((hk24.trans hkD).o.blk HKK.out.1 (by decide)) ((hk24.trans hkD).o.blk HKK.out.2.1 (by decide)))
  clear hGv hk3 hk4 hk24 hA4 HK2 HZ2 HBp2 HKK
  refine lk0 (fun W=>W.cell? ⟨w.heap.size,0,none⟩=some (.pointer (some ⟨S,0,none⟩))∧W.cell? ⟨w.heap.size+1,0,none⟩=some (.int .i64 (k:Int))∧W.cell? ⟨w.heap.size+2,0,none⟩=some (.int .i64 (s:Int))∧W.cell? ⟨Bp,3,none⟩=some (.slice (some ⟨g,0,none⟩) n cap)) 16 (HCt.out _ hkD) (fun hHeld=>?_)
  refine lkT 24 0 (.pointer (some ⟨Bp,0,none⟩)) rfl (Or.inl ⟨by rfl,?_⟩) hHeld ?_
  ·intro w hSw;go_simp
  (try simp only[Act.put,sIx,sZ0,sZ1])
  refine lkT 25 1 (.pointer (some ⟨Bp,0,none⟩)) rfl (Or.inl ⟨by rfl,?_⟩) hHeld ?_
  ·intro w hSw;go_simp
  (try simp only[Act.put,sIx,sZ0,sZ1])
  refine lkT 26 2 (.pointer (some ⟨Bp,0,none⟩)) rfl (Or.inl ⟨by rfl,?_⟩) hHeld ?_
  ·intro w hSw;go_simp
  (try simp only[Act.put,sIx,sZ0,sZ1])
  refine lkT 27 3 (.pointer (some ⟨Bp,3,none⟩)) rfl (Or.inl ⟨by rfl,?_⟩) hHeld ?_
  ·intro w hSw;go_simp
  (try simp only[Act.put,sIx,sZ0,sZ1])
  refine lkT 28 4 (.slice (some ⟨g,0,none⟩) n cap) rfl (Or.inl ⟨by rfl,?_⟩) hHeld ?_
  ·intro w hSw;obtain⟨s0,s1,s2,s3⟩:=hSw;go_simp
  (try simp only[Act.put,sIx,sZ0,sZ1])
  refine lkT 29 5 (.pointer (some ⟨w.heap.size+1,0,none⟩)) rfl (Or.inl ⟨by rfl,?_⟩) hHeld ?_
  ·intro w hSw;go_simp
  (try simp only[Act.put,sIx,sZ0,sZ1])
  refine lkT 30 6 (.int .i64 (k:Int)) rfl (Or.inl ⟨by rfl,?_⟩) hHeld ?_
  ·intro w hSw;obtain⟨s0,s1,s2,s3⟩:=hSw;go_simp
  (try simp only[Act.put,sIx,sZ0,sZ1])
  refine lkT 31 7 (.pointer (some ⟨w.heap.size+1,0,none⟩)) rfl (Or.inl ⟨by rfl,?_⟩) hHeld ?_
  ·intro w hSw;go_simp
  (try simp only[Act.put,sIx,sZ0,sZ1])
  refine lkT 32 8 (.int .i64 (k:Int)) rfl (Or.inl ⟨by rfl,?_⟩) hHeld ?_
  ·intro w hSw;obtain⟨s0,s1,s2,s3⟩:=hSw;go_simp
  (try simp only[Act.put,sIx,sZ0,sZ1])
  refine lkT 33 9 (.int .i64 ((k:Int)+2)) rfl (Or.inl ⟨by rfl,?_⟩) hHeld ?_
  ·intro w hSw;go_simp<;>(try rw[hw2])
  (try simp only[Act.put,sIx,sZ0,sZ1])
  refine lkT 34 10 (.pointer (some ⟨w.heap.size+2,0,none⟩)) rfl (Or.inl ⟨by rfl,?_⟩) hHeld ?_
  ·intro w hSw;go_simp
  (try simp only[Act.put,sIx,sZ0,sZ1])
  refine lkT 35 11 (.int .i64 (s:Int)) rfl (Or.inl ⟨by rfl,?_⟩) hHeld ?_
  ·intro w hSw;obtain⟨s0,s1,s2,s3⟩:=hSw;go_simp
  (try simp only[Act.put,sIx,sZ0,sZ1])
  refine lk1 12 rfl (fun K hK=>?_)
  go_simp
  have hA5:Below y4.drew.heap.size y4.drew (y4.drew.alloc (.cells #[.int .i64 (s:Int)] 3)):=(Below.refl _ y4.drew).alloc (Nat.le_refl _) _
  have kb5:Blk (y4.drew.alloc (.cells #[.int .i64 (s:Int)] 3)) y4.heap.size 3 [.int .i64 (s:Int)]:=Blk.newAt y4.drew y4.heap.size 3 _ _ rfl rfl
  refine hK.out _ _ (HCt.out _ (hkD.trans (KS.of_below hA5 (by have:=HLo4.out;exact this)))) (fun hHeld=>?_)
  (try simp only[Act.put,sIx,sZ0,sZ1])
  clear hK K
  have hO5:=own_keepO (us:=[3]) (KeepO.of_below hA5) HZ4.out (by decide)
  have hRp:=HRp.out _ y4.heap.size hO5 kb5
  refine lk1 13 rfl (fun K hK=>?_)
  go_simp
  refine hRp.mono ?_
  rintro r6 y6 ⟨rfl,hO6,hg6⟩
  go_simp
  have hT6:KeepT [3] (y4.drew.alloc (.cells #[.int .i64 (s:Int)] 3)) y6:=KeepT.grownZ hO5 hg6
  have hBp6:=hT6.blk (HBp4.out.on hA5) (by decide)
  have hKG6:=hT6.blk (HKG4.out.on hA5) (by decide)
  have hT46:KeepT [3] y4.drew y6:=(KeepT.of_below hA5).trans hT6
  have hB46:Below w0.heap.size y4.drew y6:=((hA5.mono HK4.out.o.size).grown hg6 (Nat.le_trans HK4.out.o.size hA5.size) (fun b e=>by cases e;exact hg0))
  refine hK.out _ _ ⟨hKG6.cell 0,(hT46.blk HKK4.out.1 (by decide)).cell 0,(hT46.blk HKK4.out.2 (by decide)).cell 0,hBp6.cell 3⟩ (fun hHeld=>?_)
  (try simp only[Act.put,sIx,sZ0,sZ1])
  clear hK K hRp
  refine lkC [15] 38 14 (.pointer (some ⟨Bp,0,none⟩)) rfl (Or.inl ⟨by rfl,?_⟩) hHeld ?_
  ·intro w hSw;go_simp
  (try simp only[Act.put,sIx,sZ0,sZ1])
  refine lkC [] 39 15 (.pointer (some ⟨Bp,3,none⟩)) rfl (Or.inl ⟨by rfl,?_⟩) hHeld ?_
  ·intro w hSw;go_simp
  (try simp only[Act.put,sIx,sZ0,sZ1])
  have kc6:=hBp6.cell 3
  have kf6:=hBp6.frozen 3
  simp only[gZ0,gZ1] at kc6
  have hBp7:=hBp6.set 3 (.slice (some ⟨g,0,none⟩) n1 cap)
  have hT67:KeepT [133] y6 (y6.setCell ⟨Bp,3,none⟩ (.slice (some ⟨g,0,none⟩) n1 cap)):=(KeepT.refl _ y6).set hBp6 (by decide) 3 _
  have hA7:=HA4.out.keep13 ((hT46.more (us:=T13) (by decide)).trans (hT67.more (by decide)))
  have hO7:OwnZ (y6.setCell ⟨Bp,3,none⟩ (.slice (some ⟨g,0,none⟩) n1 cap)) w0.heap.size (.slice (some ⟨g,0,none⟩) n1 cap) (ks2.map Int.ofNat):=own_keepO (us:=[3]) (KeepO.ofT hT67 (by decide)) hO6 (by decide)
  have hK7:=HK4.out.over (hB46.setCell (p:=⟨Bp,3,none⟩) hBp (.slice (some ⟨g,0,none⟩) n1 cap)) hlo0
  have hKG7:=hKG6.other ⟨Bp,3,none⟩ (.slice (some ⟨g,0,none⟩) n1 cap) (by show w.heap.size≠Bp;omega)
  clear hB46 hT67 hT46 hT6 hO6 hg6 hO5 kb5 hA5
  refine lkZ rfl (fun K hK=>?_)
  go_simp
  refine hK.out _ _ ?_
  (try simp only[Exit.then])
  (try simp only[Act.put,sIx,sZ0,sZ1])
  clear hK K hHeld kc6 kf6
  generalize y6.setCell ⟨Bp,3,none⟩ (.slice (some ⟨g,0,none⟩) n1 cap)=Y7 at *
  go_upto_region 7 with fail
  have hD7:Below Y7.heap.size Y7 Y7.drew:=(Below.refl _ Y7).drew
  have hWp:=HWp.out Y7.drew (SpAx.keep hA7 (KeepT.of_below hD7)) (own_keepO (us:=[3]) (KeepO.of_below hD7) hO7 (by decide))
  have HF7:=mkHid (And.intro (hBp7.on hD7) (And.intro (own_keepO (us:=[3]) (KeepO.of_below hD7) hO7 (by decide)) (hK7.trans (KS.of_below hD7 (spcOK.lo hA7)))))
  have hS7:(fun W:World=>W.cell? ⟨w.heap.size,0,none⟩=some (.pointer (some ⟨S,0,none⟩))∧W.cell? ⟨Bp,0,none⟩=some (.int .i64 (rt:Int))∧W.cell? ⟨Bp,1,none⟩=some (.int .i64 1)∧W.cell? ⟨Bp,2,none⟩=some (.slice pa 0 pc)∧W.cell? ⟨Bp,3,none⟩=some (.slice (some ⟨g,0,none⟩) n1 cap)) Y7.drew:=⟨(hKG7.on hD7).cell 0,HF7.out.1.cell 0,HF7.out.1.cell 1,HF7.out.1.cell 2,HF7.out.1.cell 3⟩
  clear hA7 hO7 hK7 hD7 hBp7 hKG7 HWp
  refine lk0 (fun W=>W.cell? ⟨w.heap.size,0,none⟩=some (.pointer (some ⟨S,0,none⟩))∧W.cell? ⟨Bp,0,none⟩=some (.int .i64 (rt:Int))∧W.cell? ⟨Bp,1,none⟩=some (.int .i64 1)∧W.cell? ⟨Bp,2,none⟩=some (.slice pa 0 pc)∧W.cell? ⟨Bp,3,none⟩=some (.slice (some ⟨g,0,none⟩) n1 cap)) 4 hS7 (fun hHeld=>?_)
  refine lkC [] 40 0 (.agg #[.pointer (some ⟨S,0,none⟩)]) rfl (Or.inl ⟨by rfl,?_⟩) hHeld ?_
  ·intro w hSw;obtain⟨s0,s1,s2,s3,s4⟩:=hSw;go_simp
  (try simp only[Act.put,sIx,sZ0,sZ1])
  refine lkC [2,3] 41 1 (.pointer (some ⟨Bp,0,none⟩)) rfl (Or.inl ⟨by rfl,?_⟩) hHeld ?_
  ·intro w hSw;go_simp
  (try simp only[Act.put,sIx,sZ0,sZ1])
  refine lkC [3] 42 2 (.pointer (some ⟨Bp,0,none⟩)) rfl (Or.inl ⟨by rfl,?_⟩) hHeld ?_
  ·intro w hSw;go_simp
  (try simp only[Act.put,sIx,sZ0,sZ1])
  refine lkC [] 43 3 (.agg #[.int .i64 (rt:Int),.int .i64 1,.slice pa 0 pc,.slice (some ⟨g,0,none⟩) n1 cap]) rfl (Or.inl ⟨by rfl,?_⟩) hHeld ?_
  ·intro w hSw;obtain⟨s0,s1,s2,s3,s4⟩:=hSw;go_simp
  (try simp only[Act.put,sIx,sZ0,sZ1])
  refine lkZ rfl (fun K hK=>?_)
  go_simp
  refine hWp.mono ?_
  rintro r8 y8 ⟨rfl,hA8,hk8⟩
  go_simp
  refine hK.out _ _ ?_
  (try simp only[Exit.then])
  (try simp only[Act.put,sIx,sZ0,sZ1])
  clear hK K hHeld
  have HF8:=mkHid (And.intro hA8 hk8)
  clear hA8 hk8 hWp
  (try go_wp2_with fail)
  go_end0
  exact⟨rfl,HF8.out.1,HF8.out.2.o.blk HF7.out.1 (by decide),own_keepO (us:=[3]) (HF8.out.2.o.less (by decide)) HF7.out.2.1 (by decide),HF7.out.2.2.trans HF8.out.2⟩
 ·subst h2
  have hq:((gs:Int)==(s:Int))=false:=by rw[beq_eq_false_iff_ne];omega
  have hq2:¬gs=s:=h1
  go_enter Tryz.func153,Tryz.ntmps153
  go_upto_region 1 with fail
  (try rw[hW])
  clear hW
  go_upto_region 2 with fail
  have kg:Blk (Y0.alloc (.cells #[.int .i64 (gs:Int),.int .i64 0,.slice e1.1 e1.2.1 e1.2.2,.slice k1.1 k1.2.1 k1.2.2] 133)) (w.heap.size+3) 133 [.int .i64 (gs:Int),.int .i64 0,.slice e1.1 e1.2.1 e1.2.2,.slice k1.1 k1.2.1 k1.2.2]:=Blk.newAt Y0 (w.heap.size+3) 133 _ _ hY3 rfl
  have b1:Below Y0.heap.size Y0 (Y0.alloc (.cells #[.int .i64 (gs:Int),.int .i64 0,.slice e1.1 e1.2.1 e1.2.2,.slice k1.1 k1.2.1 k1.2.2] 133)):=(Below.refl _ Y0).alloc (Nat.le_refl _) _
  generalize (Y0.alloc (.cells #[.int .i64 (gs:Int),.int .i64 0,.slice e1.1 e1.2.1 e1.2.2,.slice k1.1 k1.2.1 k1.2.2] 133))=Y1 at *
  have KP1:=HB1.out.on b1
  have KW1:=HB2.out.on b1
  have p0:=KP1.cell 0
  have p1:=KP1.cell 1
  have p2:=KP1.cell 2
  have p3:=KP1.cell 3
  have p4:=KP1.cell 4
  have p5:=KP1.cell 5
  have p6:=KP1.cell 6
  have p7:=KP1.cell 7
  have p8:=KP1.cell 8
  have q0:=KW1.cell 0
  have q1:=KW1.cell 1
  have q2:=KW1.cell 2
  have q3:=KW1.cell 3
  have g0:=kg.cell 0
  have g1:=kg.cell 1
  have g2:=kg.cell 2
  have g3:=kg.cell 3
  have f0:=kg.frozen 0
  have f1:=kg.frozen 1
  have f2:=kg.frozen 2
  have f3:=kg.frozen 3
  simp only[gZ0,gZ1] at p0 p1 p2 p3 p4 p5 p6 p7 p8 q0 q1 q2 q3 g0 g1 g2 g3
  go_upto_region 4 with fail
  have kg2:=kg
  have b2:=b1
  clear kg b1
  generalize Y1=Y2 at *
  have KP2:=HB1.out.on b2
  have KW2:=HB2.out.on b2
  have KG2:=HB0.out.on b2
  have q0:=KW2.cell 0
  have q1:=KW2.cell 1
  have q2:=KW2.cell 2
  have q3:=KW2.cell 3
  have c0:=KG2.cell 0
  simp only[gZ0,gZ1] at c0 q0 q1 q2 q3
  have hA2:=SpAx.keep HA0.out (KeepT.of_below b2)
  have hWr:=HWr.out _ (KeepO.of_below b2) hA2
  have HK2:=mkHid (HK0.out.trans (KS.of_below b2 HL0.out))
  have HZ2:=mkHid (own_keepO (us:=[3]) (KeepO.of_below b2) HO0.out (by decide))
  have HBp2:=mkHid (HP0.out.on b2)
  have HKK:=mkHid (And.intro KP2 (And.intro KW2 (And.intro KG2 kg2)))
  clear HWr hA2 KP2 KW2 KG2 kg2 b2 KP1 KW1
  go_upto_region 5 with(go_at_call 100;refine hWr.mono ?_;rintro r3 y3 ⟨rfl,hA3,hk3⟩)
  have KG3:=hk3.o.blk HKK.out.2.2.1 (by decide)
  have kg3:=hk3.o.blk HKK.out.2.2.2 (by decide)
  have g0:=kg3.cell 0
  have g1:=kg3.cell 1
  have g2:=kg3.cell 2
  have g3:=kg3.cell 3
  have c0:=KG3.cell 0
  simp only[gZ0,gZ1] at c0 g0 g1 g2 g3
  have hGv:=HGv.out y3 e1 k1 hA3
  clear hWr HGv hA3 KG3 kg3
  go_upto_region 6 with(go_at_call 71;refine hGv.mono ?_;rintro r4 y4 ⟨rfl,hA4,hk4⟩)
  have hk24:=hk3.trans hk4
  have hD:Below y4.heap.size y4 y4.drew:=(Below.refl _ y4).drew
  have HCt:Hid (∀W,KS base y4 W→W.cell? ⟨w.heap.size,0,none⟩=some (.pointer (some ⟨S,0,none⟩))∧W.cell? ⟨w.heap.size+1,0,none⟩=some (.int .i64 (k:Int))∧W.cell? ⟨w.heap.size+2,0,none⟩=some (.int .i64 (s:Int))∧W.cell? ⟨Bp,3,none⟩=some (.slice (some ⟨g,0,none⟩) n cap)):=fun W hW=>by
   have e1:=(hk24.trans hW).o.blk HKK.out.2.2.1 (by decide)
   have e2:=(hk24.trans hW).o.blk HKK.out.1 (by decide)
   have e3:=(hk24.trans hW).o.blk HKK.out.2.1 (by decide)
   have e4:=(hk24.trans hW).o.blk HBp2.out (by decide)
   exact⟨e1.cell 0,e2.cell 0,e3.cell 0,e4.cell 3⟩
  have HLo4:Hid (base≤y4.heap.size):=spcOK.lo hA4
  have hkD:=KS.of_below hD HLo4.out
  have HZ4:=mkHid (own_keepO (us:=[3]) ((hk24.trans hkD).o.less (by decide)) HZ2.out (by decide))
  have HBp4:=mkHid ((hk24.trans hkD).o.blk HBp2.out (by decide))
  have HKG4:=mkHid ((hk24.trans hkD).o.blk HKK.out.2.2.1 (by decide))
  have HK4:=mkHid (HK2.out.trans (hk24.trans hkD))
  have HA4:=mkHid (SpAx.keep hA4 (KeepT.of_below hD))
  have hw2:IntKind.i64.wrap ((k:Int)+2)=(k:Int)+2:=wrapi64_in _ (by omega) (by omega)
  have HKK4:=mkHid (And.intro ((hk24.trans hkD).o.blk HKK.out.1 (by decide)) ((hk24.trans hkD).o.blk HKK.out.2.1 (by decide)))
  clear hGv hk3 hk4 hk24 hA4 HK2 HZ2 HBp2 HKK
  refine lk0 (fun W=>W.cell? ⟨w.heap.size,0,none⟩=some (.pointer (some ⟨S,0,none⟩))∧W.cell? ⟨w.heap.size+1,0,none⟩=some (.int .i64 (k:Int))∧W.cell? ⟨w.heap.size+2,0,none⟩=some (.int .i64 (s:Int))∧W.cell? ⟨Bp,3,none⟩=some (.slice (some ⟨g,0,none⟩) n cap)) 16 (HCt.out _ hkD) (fun hHeld=>?_)
  refine lkT 24 0 (.pointer (some ⟨Bp,0,none⟩)) rfl (Or.inl ⟨by rfl,?_⟩) hHeld ?_
  ·intro w hSw;go_simp
  (try simp only[Act.put,sIx,sZ0,sZ1])
  refine lkT 25 1 (.pointer (some ⟨Bp,0,none⟩)) rfl (Or.inl ⟨by rfl,?_⟩) hHeld ?_
  ·intro w hSw;go_simp
  (try simp only[Act.put,sIx,sZ0,sZ1])
  refine lkT 26 2 (.pointer (some ⟨Bp,0,none⟩)) rfl (Or.inl ⟨by rfl,?_⟩) hHeld ?_
  ·intro w hSw;go_simp
  (try simp only[Act.put,sIx,sZ0,sZ1])
  refine lkT 27 3 (.pointer (some ⟨Bp,3,none⟩)) rfl (Or.inl ⟨by rfl,?_⟩) hHeld ?_
  ·intro w hSw;go_simp
  (try simp only[Act.put,sIx,sZ0,sZ1])
  refine lkT 28 4 (.slice (some ⟨g,0,none⟩) n cap) rfl (Or.inl ⟨by rfl,?_⟩) hHeld ?_
  ·intro w hSw;obtain⟨s0,s1,s2,s3⟩:=hSw;go_simp
  (try simp only[Act.put,sIx,sZ0,sZ1])
  refine lkT 29 5 (.pointer (some ⟨w.heap.size+1,0,none⟩)) rfl (Or.inl ⟨by rfl,?_⟩) hHeld ?_
  ·intro w hSw;go_simp
  (try simp only[Act.put,sIx,sZ0,sZ1])
  refine lkT 30 6 (.int .i64 (k:Int)) rfl (Or.inl ⟨by rfl,?_⟩) hHeld ?_
  ·intro w hSw;obtain⟨s0,s1,s2,s3⟩:=hSw;go_simp
  (try simp only[Act.put,sIx,sZ0,sZ1])
  refine lkT 31 7 (.pointer (some ⟨w.heap.size+1,0,none⟩)) rfl (Or.inl ⟨by rfl,?_⟩) hHeld ?_
  ·intro w hSw;go_simp
  (try simp only[Act.put,sIx,sZ0,sZ1])
  refine lkT 32 8 (.int .i64 (k:Int)) rfl (Or.inl ⟨by rfl,?_⟩) hHeld ?_
  ·intro w hSw;obtain⟨s0,s1,s2,s3⟩:=hSw;go_simp
  (try simp only[Act.put,sIx,sZ0,sZ1])
  refine lkT 33 9 (.int .i64 ((k:Int)+2)) rfl (Or.inl ⟨by rfl,?_⟩) hHeld ?_
  ·intro w hSw;go_simp<;>(try rw[hw2])
  (try simp only[Act.put,sIx,sZ0,sZ1])
  refine lkT 34 10 (.pointer (some ⟨w.heap.size+2,0,none⟩)) rfl (Or.inl ⟨by rfl,?_⟩) hHeld ?_
  ·intro w hSw;go_simp
  (try simp only[Act.put,sIx,sZ0,sZ1])
  refine lkT 35 11 (.int .i64 (s:Int)) rfl (Or.inl ⟨by rfl,?_⟩) hHeld ?_
  ·intro w hSw;obtain⟨s0,s1,s2,s3⟩:=hSw;go_simp
  (try simp only[Act.put,sIx,sZ0,sZ1])
  refine lk1 12 rfl (fun K hK=>?_)
  go_simp
  have hA5:Below y4.drew.heap.size y4.drew (y4.drew.alloc (.cells #[.int .i64 (s:Int)] 3)):=(Below.refl _ y4.drew).alloc (Nat.le_refl _) _
  have kb5:Blk (y4.drew.alloc (.cells #[.int .i64 (s:Int)] 3)) y4.heap.size 3 [.int .i64 (s:Int)]:=Blk.newAt y4.drew y4.heap.size 3 _ _ rfl rfl
  refine hK.out _ _ (HCt.out _ (hkD.trans (KS.of_below hA5 (by have:=HLo4.out;exact this)))) (fun hHeld=>?_)
  (try simp only[Act.put,sIx,sZ0,sZ1])
  clear hK K
  have hO5:=own_keepO (us:=[3]) (KeepO.of_below hA5) HZ4.out (by decide)
  have hRp:=HRp.out _ y4.heap.size hO5 kb5
  refine lk1 13 rfl (fun K hK=>?_)
  go_simp
  refine hRp.mono ?_
  rintro r6 y6 ⟨rfl,hO6,hg6⟩
  go_simp
  have hT6:KeepT [3] (y4.drew.alloc (.cells #[.int .i64 (s:Int)] 3)) y6:=KeepT.grownZ hO5 hg6
  have hBp6:=hT6.blk (HBp4.out.on hA5) (by decide)
  have hKG6:=hT6.blk (HKG4.out.on hA5) (by decide)
  have hT46:KeepT [3] y4.drew y6:=(KeepT.of_below hA5).trans hT6
  have hB46:Below w0.heap.size y4.drew y6:=((hA5.mono HK4.out.o.size).grown hg6 (Nat.le_trans HK4.out.o.size hA5.size) (fun b e=>by cases e;exact hg0))
  refine hK.out _ _ ⟨hKG6.cell 0,(hT46.blk HKK4.out.1 (by decide)).cell 0,(hT46.blk HKK4.out.2 (by decide)).cell 0,hBp6.cell 3⟩ (fun hHeld=>?_)
  (try simp only[Act.put,sIx,sZ0,sZ1])
  clear hK K hRp
  refine lkC [15] 38 14 (.pointer (some ⟨Bp,0,none⟩)) rfl (Or.inl ⟨by rfl,?_⟩) hHeld ?_
  ·intro w hSw;go_simp
  (try simp only[Act.put,sIx,sZ0,sZ1])
  refine lkC [] 39 15 (.pointer (some ⟨Bp,3,none⟩)) rfl (Or.inl ⟨by rfl,?_⟩) hHeld ?_
  ·intro w hSw;go_simp
  (try simp only[Act.put,sIx,sZ0,sZ1])
  have kc6:=hBp6.cell 3
  have kf6:=hBp6.frozen 3
  simp only[gZ0,gZ1] at kc6
  have hBp7:=hBp6.set 3 (.slice (some ⟨g,0,none⟩) n1 cap)
  have hT67:KeepT [133] y6 (y6.setCell ⟨Bp,3,none⟩ (.slice (some ⟨g,0,none⟩) n1 cap)):=(KeepT.refl _ y6).set hBp6 (by decide) 3 _
  have hA7:=HA4.out.keep13 ((hT46.more (us:=T13) (by decide)).trans (hT67.more (by decide)))
  have hO7:OwnZ (y6.setCell ⟨Bp,3,none⟩ (.slice (some ⟨g,0,none⟩) n1 cap)) w0.heap.size (.slice (some ⟨g,0,none⟩) n1 cap) (ks2.map Int.ofNat):=own_keepO (us:=[3]) (KeepO.ofT hT67 (by decide)) hO6 (by decide)
  have hK7:=HK4.out.over (hB46.setCell (p:=⟨Bp,3,none⟩) hBp (.slice (some ⟨g,0,none⟩) n1 cap)) hlo0
  have hKG7:=hKG6.other ⟨Bp,3,none⟩ (.slice (some ⟨g,0,none⟩) n1 cap) (by show w.heap.size≠Bp;omega)
  clear hB46 hT67 hT46 hT6 hO6 hg6 hO5 kb5 hA5
  refine lkZ rfl (fun K hK=>?_)
  go_simp
  refine hK.out _ _ ?_
  (try simp only[Exit.then])
  (try simp only[Act.put,sIx,sZ0,sZ1])
  clear hK K hHeld kc6 kf6
  generalize y6.setCell ⟨Bp,3,none⟩ (.slice (some ⟨g,0,none⟩) n1 cap)=Y7 at *
  go_upto_region 7 with fail
  have hD7:Below Y7.heap.size Y7 Y7.drew:=(Below.refl _ Y7).drew
  have hWp:=HWp.out Y7.drew (SpAx.keep hA7 (KeepT.of_below hD7)) (own_keepO (us:=[3]) (KeepO.of_below hD7) hO7 (by decide))
  have HF7:=mkHid (And.intro (hBp7.on hD7) (And.intro (own_keepO (us:=[3]) (KeepO.of_below hD7) hO7 (by decide)) (hK7.trans (KS.of_below hD7 (spcOK.lo hA7)))))
  have hS7:(fun W:World=>W.cell? ⟨w.heap.size,0,none⟩=some (.pointer (some ⟨S,0,none⟩))∧W.cell? ⟨Bp,0,none⟩=some (.int .i64 (rt:Int))∧W.cell? ⟨Bp,1,none⟩=some (.int .i64 1)∧W.cell? ⟨Bp,2,none⟩=some (.slice pa 0 pc)∧W.cell? ⟨Bp,3,none⟩=some (.slice (some ⟨g,0,none⟩) n1 cap)) Y7.drew:=⟨(hKG7.on hD7).cell 0,HF7.out.1.cell 0,HF7.out.1.cell 1,HF7.out.1.cell 2,HF7.out.1.cell 3⟩
  clear hA7 hO7 hK7 hD7 hBp7 hKG7 HWp
  refine lk0 (fun W=>W.cell? ⟨w.heap.size,0,none⟩=some (.pointer (some ⟨S,0,none⟩))∧W.cell? ⟨Bp,0,none⟩=some (.int .i64 (rt:Int))∧W.cell? ⟨Bp,1,none⟩=some (.int .i64 1)∧W.cell? ⟨Bp,2,none⟩=some (.slice pa 0 pc)∧W.cell? ⟨Bp,3,none⟩=some (.slice (some ⟨g,0,none⟩) n1 cap)) 4 hS7 (fun hHeld=>?_)
  refine lkC [] 40 0 (.agg #[.pointer (some ⟨S,0,none⟩)]) rfl (Or.inl ⟨by rfl,?_⟩) hHeld ?_
  ·intro w hSw;obtain⟨s0,s1,s2,s3,s4⟩:=hSw;go_simp
  (try simp only[Act.put,sIx,sZ0,sZ1])
  refine lkC [2,3] 41 1 (.pointer (some ⟨Bp,0,none⟩)) rfl (Or.inl ⟨by rfl,?_⟩) hHeld ?_
  ·intro w hSw;go_simp
  (try simp only[Act.put,sIx,sZ0,sZ1])
  refine lkC [3] 42 2 (.pointer (some ⟨Bp,0,none⟩)) rfl (Or.inl ⟨by rfl,?_⟩) hHeld ?_
  ·intro w hSw;go_simp
  (try simp only[Act.put,sIx,sZ0,sZ1])
  refine lkC [] 43 3 (.agg #[.int .i64 (rt:Int),.int .i64 1,.slice pa 0 pc,.slice (some ⟨g,0,none⟩) n1 cap]) rfl (Or.inl ⟨by rfl,?_⟩) hHeld ?_
  ·intro w hSw;obtain⟨s0,s1,s2,s3,s4⟩:=hSw;go_simp
  (try simp only[Act.put,sIx,sZ0,sZ1])
  refine lkZ rfl (fun K hK=>?_)
  go_simp
  refine hWp.mono ?_
  rintro r8 y8 ⟨rfl,hA8,hk8⟩
  go_simp
  refine hK.out _ _ ?_
  (try simp only[Exit.then])
  (try simp only[Act.put,sIx,sZ0,sZ1])
  clear hK K hHeld
  have HF8:=mkHid (And.intro hA8 hk8)
  clear hA8 hk8 hWp
  (try go_wp2_with fail)
  go_end0
  exact⟨rfl,HF8.out.1,HF8.out.2.o.blk HF7.out.1 (by decide),own_keepO (us:=[3]) (HF8.out.2.o.less (by decide)) HF7.out.2.1 (by decide),HF7.out.2.2.trans HF8.out.2⟩
theorem fr_kids {t:Tl}{j:Jl}{m:Nat}{rt:Nat}{Q:Ps}(h:FR t j m Q [(rt:Int)]):KidL t j (Q.map (·.1)) (fun i=>(Q.getD i (0,[])).2):=fun i x hx=>by
 rw[List.getElem?_map] at hx
 obtain⟨p,hp,rfl⟩:=Option.map_eq_some_iff.1 hx
 have hpm:=List.mem_of_getElem? hp
 have hl:=h.lf p hpm
 have hr:=h.rng hpm
 have hg:(Q.getD i (0,[])).2=p.2:=by rw[List.getD_eq_getElem?_getD,hp];rfl
 show _∧_∧pgOf _=some ⟨0,(Q.getD i (0,[])).2,[]⟩∧(Q.getD i (0,[])).2≠[]
 rw[hg]
 exact⟨hr.1,hr.2,by rw[hl.rd];exact pg_leaf hl.ok,hl.ok.ne⟩
theorem q_left {A B:Ps}{p:Nat × List Et}{i1 s1:Nat}(hi:i1+1=A.length)(hs:((A++p::B).map (·.1))[i1]?=some s1):∃A0,A=A0++[(s1,((A++p::B).getD i1 (0,[])).2)]∧A0.length=i1:=by
 have hlt:i1<A.length:=by omega
 have e1:(A++p::B)[i1]?=some A[i1]:=by rw[List.getElem?_append_left hlt,List.getElem?_eq_getElem hlt]
 rw[List.getElem?_map,e1] at hs
 have h2:A[i1].1=s1:=Option.some.inj hs
 have e2:(A++p::B).getD i1 (0,[])=A[i1]:=by rw[List.getD_eq_getElem?_getD,e1];rfl
 refine⟨A.take i1,?_,by rw[List.length_take];omega⟩
 rw[e2,←h2]
 have h3:=List.take_append_drop i1 A
 have h4:A.drop i1=[A[i1]]:=by
  rw[List.drop_eq_getElem_cons hlt,List.drop_of_length_le (by omega)]
 rw[h4] at h3
 exact h3.symm
theorem q_right {A B:Ps}{p:Nat × List Et}{i s2:Nat}(hi:A.length=i)(hs:((A++p::B).map (·.1))[i+1]?=some s2):∃B0,B=(s2,((A++p::B).getD (i+1) (0,[])).2):: B0:=by
 have e0:(A++p::B)[i+1]?=B[0]?:=by
  rw[List.getElem?_append_right (by omega),show i+1-A.length=1 by omega]
  rfl
 rw[List.getElem?_map,e0] at hs
 cases B with
 | nil=>cases hs
 | cons b B0 =>
  have h2:b.1=s2:=Option.some.inj hs
  have e2:(A++p::b::B0).getD (i+1) (0,[])=b:=by rw[List.getD_eq_getElem?_getD,e0];rfl
  exact⟨B0,by rw[e2,←h2]⟩
def MendQ (t:Tl)(j:Jl)(m rt:Nat)(A B:Ps)(l:List Et)(t':Tl)(Q:Ps):Prop :=
 FR t' j m Q [(rt:Int)]∧spRdB t' j (rt:Int)=nodeB (Q.map (·.1))∧entsP Q=entsP A++(l++entsP B)∧Q.length≤A.length+B.length+1∧Q≠[]∧t'.l.length≤t.l.length+3
theorem mend_out {t:Tl}{j:Jl}{m rt:Nat}{A B:Ps}(h:FR t j m (A++B) [(rt:Int)])(hr:t.l.length<48)(hne:A++B≠[]):
  spWrE t j (rt:Int) (nodeB ((A++B).map (·.1)))=0∧MendQ t j m rt A B [] (spWr t j (rt:Int) (nodeB ((A++B).map (·.1)))) (A++B):=by
 obtain⟨z1,z2,z3,z4⟩:=h.top hr ((A++B).map (·.1))
 exact⟨z1,z2,z4,by rw[entsP_append];rfl,by rw[List.length_append];omega,hne,by omega⟩
theorem mend_left {t:Tl}{j:Jl}{m rt s1 s:Nat}{A B:Ps}{l1 l:List Et}(h:FR t j m (A++(s1,l1):: (s,l):: B) [(rt:Int)])(hr:t.l.length+3≤48)(hl:LfOk (l1++l)):
  spWrE t j (s:Int) (leafB (l1++l))=0∧Fit (spWr t j (s:Int) (leafB (l1++l))) j m∧gvE (spWr t j (s:Int) (leafB (l1++l))) j (s1:Int)=0∧Fit (gvT (spWr t j (s:Int) (leafB (l1++l))) j (s1:Int)) j m ∧
  spWrE (gvT (spWr t j (s:Int) (leafB (l1++l))) j (s1:Int)) j (rt:Int) (nodeB ((A++(s,l1++l):: B).map (·.1)))=0 ∧
  MendQ t j m rt (A++[(s1,l1)]) B l (spWr (gvT (spWr t j (s:Int) (leafB (l1++l))) j (s1:Int)) j (rt:Int) (nodeB ((A++(s,l1++l):: B).map (·.1)))) (A++(s,l1++l):: B):=by
 have h0:FR t j m ((A++[(s1,l1)])++(s,l):: B) [(rt:Int)]:=by rw[List.append_assoc];exact h
 obtain⟨a1,a2,a3⟩:=h0.set (by omega) hl
 have a3:(spWr t j (s:Int) (leafB (l1++l))).l.length≤t.l.length+1:=a3
 have a2:FR (spWr t j (s:Int) (leafB (l1++l))) j m (A++(s1,l1):: (s,l1++l):: B) [(rt:Int)]:=by have:=a2;rw[List.append_assoc] at this;exact this
 obtain⟨b1,b2,b3⟩:=a2.drop (by omega)
 have b3:(gvT (spWr t j (s:Int) (leafB (l1++l))) j (s1:Int)).l.length≤(spWr t j (s:Int) (leafB (l1++l))).l.length+1:=b3
 have b2:FR (gvT (spWr t j (s:Int) (leafB (l1++l))) j (s1:Int)) j m (A++(s,l1++l):: B) [(rt:Int)]:=b2
 obtain⟨c1,c2,c3,c4⟩:=b2.top (s:=rt) (by omega) ((A++(s,l1++l):: B).map (·.1))
 refine⟨a1,a2.tk.fit,b1,b2.tk.fit,c1,c2,c4,?_,by simp;omega,by simp,by omega⟩
 rw[entsP_append,entsP_append,entsP,entsP,entsP]
 simp only[List.append_assoc,List.append_nil]
theorem mend_right {t:Tl}{j:Jl}{m rt s2 s:Nat}{A B:Ps}{l2 l:List Et}(h:FR t j m (A++(s,l):: (s2,l2):: B) [(rt:Int)])(hr:t.l.length+3≤48)(hl:LfOk (l++l2)):
  spWrE t j (s:Int) (leafB (l++l2))=0∧Fit (spWr t j (s:Int) (leafB (l++l2))) j m∧gvE (spWr t j (s:Int) (leafB (l++l2))) j (s2:Int)=0∧Fit (gvT (spWr t j (s:Int) (leafB (l++l2))) j (s2:Int)) j m ∧
  spWrE (gvT (spWr t j (s:Int) (leafB (l++l2))) j (s2:Int)) j (rt:Int) (nodeB ((A++(s,l++l2):: B).map (·.1)))=0 ∧
  MendQ t j m rt A ((s2,l2):: B) l (spWr (gvT (spWr t j (s:Int) (leafB (l++l2))) j (s2:Int)) j (rt:Int) (nodeB ((A++(s,l++l2):: B).map (·.1)))) (A++(s,l++l2):: B):=by
 obtain⟨a1,a2,a3⟩:=h.set (by omega) hl
 have a3:(spWr t j (s:Int) (leafB (l++l2))).l.length≤t.l.length+1:=a3
 have a2:FR (spWr t j (s:Int) (leafB (l++l2))) j m ((A++[(s,l++l2)])++(s2,l2):: B) [(rt:Int)]:=by rw[List.append_assoc];exact a2
 obtain⟨b1,b2,b3⟩:=a2.drop (by omega)
 have b3:(gvT (spWr t j (s:Int) (leafB (l++l2))) j (s2:Int)).l.length≤(spWr t j (s:Int) (leafB (l++l2))).l.length+1:=b3
 have b2:FR (gvT (spWr t j (s:Int) (leafB (l++l2))) j (s2:Int)) j m (A++(s,l++l2):: B) [(rt:Int)]:=by have:=b2;rw[List.append_assoc] at this;exact this
 obtain⟨c1,c2,c3,c4⟩:=b2.top (s:=rt) (by omega) ((A++(s,l++l2):: B).map (·.1))
 refine⟨a1,a2.tk.fit,b1,b2.tk.fit,c1,c2,c4,?_,by simp,by simp,by omega⟩
 rw[entsP_append,entsP,entsP]
 simp only[List.append_assoc]
theorem ks_left (A B:Ps)(s1 s z:Nat)(l1 l l2:List Et):(((A++(s1,l1):: (s,l):: B).map (·.1)).take A.length++z::((A++(s1,l1):: (s,l):: B).map (·.1)).drop (A.length+2))=(A++(z,l2):: B).map (·.1):=by
 have hl:(A.map (·.1)).length=A.length:=List.length_map _
 simp only[List.map_append,List.map_cons]
 rw[List.take_left' hl,←hl,List.drop_append,List.drop_of_length_le (by omega),List.nil_append,Nat.add_sub_cancel_left]
 rfl
theorem ks_out (A B:Ps)(s:Nat)(l:List Et):(((A++(s,l):: B).map (·.1)).map Int.ofNat).take A.length++(((A++(s,l):: B).map (·.1)).map Int.ofNat).drop (A.length+1)=((A++B).map (·.1)).map Int.ofNat:=by
 have hl:((A.map (·.1)).map Int.ofNat).length=A.length:=by simp
 simp only[List.map_append,List.map_cons]
 rw[List.take_left' hl,←hl,List.drop_append,List.drop_of_length_le (by omega),List.nil_append,Nat.add_sub_cancel_left]
 rfl
theorem joined_ok {A B:Ps}{a b:Nat × List Et}(hs:SrtE (entsP (A++a::b::B)))(ha:LfOk a.2)(hb:LfOk b.2)(hz:szL (a.2++b.2)≤509):LfOk (a.2++b.2):=by
 refine⟨by have:=ha.ne;simp[this],fun e he=>?_,?_,hz⟩
 ·rcases List.mem_append.1 he with h|h
  ·exact ha.ok e h
  ·exact hb.ok e h
 ·rw[entsP_append,entsP,entsP] at hs
  have h1:=(List.pairwise_append.1 hs).2.1
  rw[←List.append_assoc] at h1
  exact(List.pairwise_append.1 h1).1
def MendPost (w0:World)(S J P base m:Nat)(t:Tl)(j:Jl)(Bp rt:Nat)(A B:Ps)(l:List Et)(pa:Option Addr)(pc:Nat)(e:Ending)(w':World):Prop :=
 e=.returned (.tuple #[])∧(∃t' Q va vn vc,SpAx w' S J P base t' j∧MendQ t j m rt A B l t' Q∧Blk w' Bp 133 [.int .i64 (rt:Int),.int .i64 1,.slice pa 0 pc,.slice va vn vc]∧OwnZ w' w0.heap.size (.slice va vn vc) ((Q.map (·.1)).map Int.ofNat))∧KS base w0 w'
theorem codMend0 (w w0:World)(S J P base m:Nat)(t:Tl)(j:Jl)(Bp rt s n cap g i:Nat)(A B:Ps)(l0:List Et)(pa ka xa:Option Addr)(pc kc xc:Nat)(h:SpAx w S J P base t j)(hF:FR t j m (A++B) [(rt:Int)])(hne:A++B≠[])(hK:KS base w0 w)
  (hB:Blk w Bp 133 [.int .i64 (rt:Int),.int .i64 1,.slice pa 0 pc,.slice (some ⟨g,0,none⟩) n cap]) (hBp:w0.heap.size≤Bp) (hO:OwnZ w w0.heap.size (.slice (some ⟨g,0,none⟩) n cap) (((A++(s,l0):: B).map (·.1)).map Int.ofNat)) (hi:A.length=i) (hn:n≤254) (hroom:t.l.length<48) (hlo0:base≤w0.heap.size):
  Calls Tryz.prog 106 #[gT S,.pointer (some ⟨Bp,0,none⟩),.int .i64 (i:Int),.agg #[.int .i64 (s:Int),.int .i64 0,.slice ka 0 kc,.slice xa 0 xc]] w (MendPost w0 S J P base m t j Bp rt A B [] pa pc):=by
 have hlo:=spcOK.lo h
 have hsz0:w0.heap.size≤w.heap.size:=hK.o.size
 have hBl:=hB.lt
 have hn2:=hF.tk.fit.few.n
 have hnl:n=(A++(s,l0):: B).length:=by obtain⟨_,_,_,hn',_⟩:=(OwnZ.c hO).cur;rw[hn',List.length_map,List.length_map]
 have hin:i<n:=by rw[hnl,←hi];simp
 obtain⟨z1,z2⟩:=mend_out hF hroom hne
 have hkl2:((A++B).map (·.1)).length=n-1:=by rw[List.length_map,hnl];simp
 have hks6:∀x∈(A++B).map (·.1),x<65536:=fun x hx=>by
  obtain⟨y,hy,rfl⟩:=List.mem_map.1 hx
  have:=hF.rng hy
  omega
 have hrn:rt≤4096:=by
  have:=hF.tk.rng (rt:Int) (List.mem_append_left _ List.mem_cons_self)
  omega
 unfold gT
 have W1:Below w.heap.size w ((w.alloc (.cells #[.pointer (some ⟨S,0,none⟩)] 87)).alloc (.cells #[.int .i64 (s:Int),.int .i64 0,.slice ka 0 kc,.slice xa 0 xc] 133)):=((Below.refl _ w).alloc (Nat.le_refl _) _).alloc (by simp) _
 have k0:Blk ((w.alloc (.cells #[.pointer (some ⟨S,0,none⟩)] 87)).alloc (.cells #[.int .i64 (s:Int),.int .i64 0,.slice ka 0 kc,.slice xa 0 xc] 133)) w.heap.size 87 [.pointer (some ⟨S,0,none⟩)]:=(Blk.newAt w w.heap.size 87 #[.pointer (some ⟨S,0,none⟩)] [.pointer (some ⟨S,0,none⟩)] rfl rfl).alloc _
 have k1:Blk ((w.alloc (.cells #[.pointer (some ⟨S,0,none⟩)] 87)).alloc (.cells #[.int .i64 (s:Int),.int .i64 0,.slice ka 0 kc,.slice xa 0 xc] 133)) (w.heap.size+1) 133 [.int .i64 (s:Int),.int .i64 0,.slice ka 0 kc,.slice xa 0 xc]:=Blk.newAt _ (w.heap.size+1) 133 _ _ (by simp) rfl
 generalize hW:(w.alloc (.cells #[.pointer (some ⟨S,0,none⟩)] 87)).alloc (.cells #[.int .i64 (s:Int),.int .i64 0,.slice ka 0 kc,.slice xa 0 xc] 133)=Y0 at *
 have hA0:=SpAx.keep h (KeepT.of_below W1)
 have hK0:=hK.trans (KS.of_below W1 hlo)
 have hP0:=hB.on W1
 have hO0:OwnZ Y0 w0.heap.size (.slice (some ⟨g,0,none⟩) n cap) (((A++(s,l0):: B).map (·.1)).map Int.ofNat):=own_keepO (us:=[3]) (KeepO.of_below W1) hO (by decide)
 have HLn:∀W,Calls Tryz.prog 70 #[.agg #[.int .i64 (s:Int),.int .i64 0,.slice ka 0 kc,.slice xa 0 xc]] W fun e w'=>e=.returned (.int .i64 0)∧Below W.heap.size W w':=fun W=>codLen13 (s:Int) 0 ka xa 0 kc 0 xc W (by omega)
 have HWp:Hid (∀W,SpAx W S J P base t j→OwnZ W w0.heap.size (.slice (some ⟨g,0,none⟩) (n-1) cap) (((A++B).map (·.1)).map Int.ofNat)→Calls Tryz.prog 100 #[.agg #[.pointer (some ⟨S,0,none⟩)],.agg #[.int .i64 (rt:Int),.int .i64 1,.slice pa 0 pc,.slice (some ⟨g,0,none⟩) (n-1) cap]] W fun e w'=>e=.returned (.tuple #[])∧SpAx w' S J P base (spWr t j (rt:Int) (nodeB ((A++B).map (·.1)))) j∧KS base W w'):=fun W hA hO=>by
  have:=pgWrite (fl:=0) W S J P base m t j rt ⟨1,[],(A++B).map (·.1)⟩ (.slice pa 0 pc) (.slice (some ⟨g,0,none⟩) (n-1) cap) [] hA hF.tk.fit ⟨rdN_empty _ _ _,hO.rd,rfl⟩ (pgS_node13 (by rw[hkl2];omega) hks6) hrn (by rw[pgB_node];exact z1)
  rw[pgB_node] at this
  exact this
 obtain⟨nb,hnb⟩:∃nb,nb=nodeB ((A++B).map (·.1)):=⟨_,rfl⟩
 rw[←hnb] at z2 HWp
 have HDl:Hid (∀W,OwnZ W w0.heap.size (.slice (some ⟨g,0,none⟩) n cap) (((A++(s,l0):: B).map (·.1)).map Int.ofNat)→Calls Tryz.prog 149 #[.slice (some ⟨g,0,none⟩) n cap,.int .i64 (i:Int),.int .i64 ((i:Int)+1)] W fun e w'=>e=.returned (.slice (some ⟨g,0,none⟩) (n-1) cap)∧OwnZ w' w0.heap.size (.slice (some ⟨g,0,none⟩) (n-1) cap) (((A++B).map (·.1)).map Int.ofNat)∧W.grownBy w' (some g)):=fun W hO=>by
  have:=codDeleteI W w0.heap.size g cap n i (i+1) rfl _ (OwnZ.c hO) hin (by omega)
  rw[←hi,ks_out] at this
  rw[←hi]
  refine this.mono ?_
  rintro e w' ⟨q1,q2,q3⟩
  exact⟨q1,q2.z13,q3⟩
 have hg0:w0.heap.size≤g:=(World.ownsRow.lt hO g rfl).1
 have hw1:IntKind.i64.wrap ((i:Int)+1)=(i:Int)+1:=wrapi64_in _ (by omega) (by omega)
 have HA0:=mkHid hA0
 have HK0:=mkHid hK0
 have HB0:=mkHid k0
 have HP0:=mkHid hP0
 have HO0:=mkHid hO0
 have HW1:=mkHid W1
 have HZ2:=mkHid z2
 have c0:=k0.cell 0
 have q0:=k1.cell 0
 have q1:=k1.cell 1
 have q2:=k1.cell 2
 have q3:=k1.cell 3
 simp only[gZ0,gZ1] at c0 q0 q1 q2 q3
 generalize hn1:n-1=n1 at HWp HDl
 generalize hK2:(A++B).map (·.1)=ks2 at HWp HDl
 have HK2e:=mkHid hK2
 have HN1:=mkHid hn1
 clear h hF hne hK hB hO hi hkl2 hks6 hrn z1 z2 hA0 hK0 hP0 hO0 k0 k1 W1 hn1 hK2 hnl hnb
 go_enter Tryz.func106,Tryz.ntmps106
 go_upto_region 1 with fail
 (try rw[hW])
 clear hW
 go_upto_region 2 with(go_at_call 70;refine(HLn _).mono ?_;rintro r1 y1 ⟨rfl,hb1⟩)
 have hP1:=HP0.out.on hb1
 have hO1:OwnZ y1 w0.heap.size (.slice (some ⟨g,0,none⟩) n cap) (((A++(s,l0):: B).map (·.1)).map Int.ofNat):=own_keepO (us:=[3]) (KeepO.of_below hb1) HO0.out (by decide)
 have hDl:=HDl.out y1 hO1
 have d3:=hP1.cell 3
 simp only[gZ0,gZ1] at d3
 have HB1:=mkHid (HB0.out.on hb1)
 have HK1:=mkHid (HK0.out.trans (KS.of_below hb1 (spcOK.lo HA0.out)))
 have HA1:=mkHid (SpAx.keep HA0.out (KeepT.of_below hb1))
 have HP1:=mkHid hP1
 have HO1:=mkHid hO1
 clear hb1 hP1 hO1 HLn HDl
 go_upto_region 3 with(go_at_call 149;refine hDl.mono ?_;rintro r2 y2 ⟨rfl,hO2,hg2⟩;have hP2:=(KeepT.grownZ HO1.out hg2).blk HP1.out (by decide);have q2:=hP2.cell 3;have qf:=hP2.frozen 3;simp only[gZ0,gZ1] at q2)
 have hT12:=KeepT.grownZ HO1.out hg2
 have hBp7:=hP2.set 3 (.slice (some ⟨g,0,none⟩) n1 cap)
 have hT67:KeepT [133] y2 (y2.setCell ⟨Bp,3,none⟩ (.slice (some ⟨g,0,none⟩) n1 cap)):=(KeepT.refl _ y2).set hP2 (by decide) 3 _
 have hA7:=HA1.out.keep13 ((hT12.more (us:=T13) (by decide)).trans (hT67.more (by decide)))
 have hO7:OwnZ (y2.setCell ⟨Bp,3,none⟩ (.slice (some ⟨g,0,none⟩) n1 cap)) w0.heap.size (.slice (some ⟨g,0,none⟩) n1 cap) (ks2.map Int.ofNat):=own_keepO (us:=[3]) (KeepO.ofT hT67 (by decide)) hO2 (by decide)
 have hK7:=HK1.out.over (((Below.refl w0.heap.size y1).grown hg2 HK1.out.o.size (fun b e=>by cases e;exact hg0)).setCell (p:=⟨Bp,3,none⟩) hBp (.slice (some ⟨g,0,none⟩) n1 cap)) hlo0
 have hKG7:=(hT12.blk HB1.out (by decide)).other ⟨Bp,3,none⟩ (.slice (some ⟨g,0,none⟩) n1 cap) (by show w.heap.size≠Bp;omega)
 clear hT12 hT67 hP2 q2 qf hO2 hg2 hDl
 generalize y2.setCell ⟨Bp,3,none⟩ (.slice (some ⟨g,0,none⟩) n1 cap)=Y7 at *
 have hD7:Below Y7.heap.size Y7 Y7.drew:=(Below.refl _ Y7).drew
 have hWp:=HWp.out Y7.drew (SpAx.keep hA7 (KeepT.of_below hD7)) (own_keepO (us:=[3]) (KeepO.of_below hD7) hO7 (by decide))
 have HF7:=mkHid (And.intro (hBp7.on hD7) (And.intro (own_keepO (us:=[3]) (KeepO.of_below hD7) hO7 (by decide)) (hK7.trans (KS.of_below hD7 (spcOK.lo hA7)))))
 have hS7:(fun W:World=>W.cell? ⟨w.heap.size,0,none⟩=some (.pointer (some ⟨S,0,none⟩))∧W.cell? ⟨Bp,0,none⟩=some (.int .i64 (rt:Int))∧W.cell? ⟨Bp,1,none⟩=some (.int .i64 1)∧W.cell? ⟨Bp,2,none⟩=some (.slice pa 0 pc)∧W.cell? ⟨Bp,3,none⟩=some (.slice (some ⟨g,0,none⟩) n1 cap)) Y7.drew:=⟨(hKG7.on hD7).cell 0,HF7.out.1.cell 0,HF7.out.1.cell 1,HF7.out.1.cell 2,HF7.out.1.cell 3⟩
 clear hA7 hO7 hK7 hD7 hBp7 hKG7 HWp
 refine lk0 (fun W=>W.cell? ⟨w.heap.size,0,none⟩=some (.pointer (some ⟨S,0,none⟩))∧W.cell? ⟨Bp,0,none⟩=some (.int .i64 (rt:Int))∧W.cell? ⟨Bp,1,none⟩=some (.int .i64 1)∧W.cell? ⟨Bp,2,none⟩=some (.slice pa 0 pc)∧W.cell? ⟨Bp,3,none⟩=some (.slice (some ⟨g,0,none⟩) n1 cap)) 4 hS7 (fun hHeld=>?_)
 refine lkC [] 26 0 (.agg #[.pointer (some ⟨S,0,none⟩)]) rfl (Or.inl ⟨by rfl,?_⟩) hHeld ?_
 ·intro w hSw;obtain⟨s0,s1,s2,s3,s4⟩:=hSw;go_simp
 (try simp only[Act.put,sIx,sZ0,sZ1])
 refine lkC [2,3] 27 1 (.pointer (some ⟨Bp,0,none⟩)) rfl (Or.inl ⟨by rfl,?_⟩) hHeld ?_
 ·intro w hSw;go_simp
 (try simp only[Act.put,sIx,sZ0,sZ1])
 refine lkC [3] 28 2 (.pointer (some ⟨Bp,0,none⟩)) rfl (Or.inl ⟨by rfl,?_⟩) hHeld ?_
 ·intro w hSw;go_simp
 (try simp only[Act.put,sIx,sZ0,sZ1])
 refine lkC [] 29 3 (.agg #[.int .i64 (rt:Int),.int .i64 1,.slice pa 0 pc,.slice (some ⟨g,0,none⟩) n1 cap]) rfl (Or.inl ⟨by rfl,?_⟩) hHeld ?_
 ·intro w hSw;obtain⟨s0,s1,s2,s3,s4⟩:=hSw;go_simp
 (try simp only[Act.put,sIx,sZ0,sZ1])
 refine lkZ rfl (fun K hK=>?_)
 go_simp
 refine hWp.mono ?_
 rintro r8 y8 ⟨rfl,hA8,hk8⟩
 go_simp
 refine hK.out _ _ ?_
 (try simp only[Exit.then])
 (try simp only[Act.put,sIx,sZ0,sZ1])
 clear hK K hHeld
 have HF8:=mkHid (And.intro hA8 hk8)
 clear hA8 hk8 hWp
 (try go_wp2_with fail)
 refine bodyPost_ret (results_none rfl _ _ _) rfl ?_
 refine⟨rfl,⟨_,A++B,some ⟨g,0,none⟩,n1,cap,HF8.out.1,HZ2.out,HF8.out.2.o.blk HF7.out.1 (by decide),?_⟩,HF7.out.2.2.trans HF8.out.2⟩
 rw[HK2e.out]
 exact own_keepO (us:=[3]) (HF8.out.2.o.less (by decide)) HF7.out.2.1 (by decide)
structure JoinOk (w:World)(t:Tl)(j:Jl)(m rt s:Nat)(A B:Ps)(l:List Et)(ks:List Nat)(x:PrV)(kq a1 a2 gs:Nat)(e1 k1 e2 k2:SlV)(La Lb:List Eq3)(lj:List Et):Prop where
 x:x=⟨(kq:Int),(a1:Int),0,e1,k1,(a2:Int),0,e2,k2⟩
 ea:SrcC rtE13 w e1.1 e1.2.1 e1.2.2 La
 eb:SrcC rtE13 w e2.1 e2.2.1 e2.2.2 Lb
 ka:SrcC rtI13 w k1.1 0 k1.2.2 []
 kb:SrcC rtI13 w k2.1 0 k2.2.2 []
 ka0:k1.2.1=0
 kb0:k2.2.1=0
 et:∀x∈La++Lb,EtP w x.1 x.2
 map:(La++Lb).map Prod.fst=lj
 len:e1.2.1+e2.2.1≤1000
 hq:kq+2≤ks.length
 go:(a1=s∧gs=a2)∨(a1≠s∧gs=a1)
 gn:gs≤4096
 items:∀e∈lj,itemOk e.k e.v=true
 ok:szL lj≤509→LfOk lj∧spWrE t j (s:Int) (leafB lj)=0∧Fit (spWr t j (s:Int) (leafB lj)) j m∧gvE (spWr t j (s:Int) (leafB lj)) j (gs:Int)=0∧Fit (gvT (spWr t j (s:Int) (leafB lj)) j (gs:Int)) j m ∧
  spWrE (gvT (spWr t j (s:Int) (leafB lj)) j (gs:Int)) j (rt:Int) (nodeB (ks.take kq++s::ks.drop (kq+2)))=0 ∧
  ∃Q,MendQ t j m rt A B l (spWr (gvT (spWr t j (s:Int) (leafB lj)) j (gs:Int)) j (rt:Int) (nodeB (ks.take kq++s::ks.drop (kq+2)))) Q∧ks.take kq++s::ks.drop (kq+2)=Q.map (·.1)
theorem kids_none {w:World}{base:Nat}{k:SlV}(h:OwnZ w base (slv13 k) (([]:List Nat).map Int.ofNat)):k.2.1=0∧SrcC rtI13 w k.1 0 k.2.2 []:=by
 obtain⟨a,c,h1,_⟩:=OwnRw.form okI13 h.c
 unfold slv13 at h1
 injection h1 with e1 e2 e3
 have hs:=OwnRw.src okI13 (show OwnRw rtI13 w base (.slice k.1 k.2.1 k.2.2) [] from h.c)
 have h0:k.2.1=0:=e2
 rw[h0] at hs
 exact⟨h0,hs⟩
theorem pr_facts {w:World}{base i m rt s:Nat}{t:Tl}{j:Jl}{A B:Ps}{l:List Et}{ke kk:SlV}{x:PrV}{Lk:List Eq3}(hp:PrOk w base ((A++(s,l):: B).map (·.1)) (fun i=>((A++(s,l):: B).getD i (0,[])).2) i s ke kk x)(hi:A.length=i)(hF:FR t j m (A++(s,l):: B) [(rt:Int)])(hso:SrtE (entsP (A++(s,l):: B)))(hroom:t.l.length+3≤48)
  (h1:SrcC rtE13 w ke.1 ke.2.1 ke.2.2 Lk) (h2:SrcC rtI13 w kk.1 0 kk.2.2 []) (hk0:kk.2.1=0) (hx:∀x∈Lk,EtP w x.1 x.2) (hm:Lk.map Prod.fst=l):
  ∃kq a1 a2 gs e1 k1 e2 k2 La Lb lj,JoinOk w t j m rt s A B l ((A++(s,l):: B).map (·.1)) x kq a1 a2 gs e1 k1 e2 k2 La Lb lj:=by
 have hl:LfOk l:=(hF.lf (s,l) (List.mem_append_right A List.mem_cons_self)).ok
 have hn2:=hF.tk.fit.few.n
 have hkn:ke.2.1=l.length:=by rw[←h1.len,←hm,List.length_map]
 have hll:=hl.len
 rcases hp with⟨i1,s1,e1,k1,v,L,g1,g2,rfl,g4⟩|⟨s2,e2,k2,v,L,g2,rfl,g4⟩
 ·obtain⟨A0,hA,hA0⟩:=q_left (by rw[hi];exact g1) g2
  have g5:PgO w base (s1:Int) ⟨0,((A++(s,l):: B).getD i1 (0,[])).2,[]⟩ v (slv13 e1) (slv13 k1) L:=g4
  generalize ((A++(s,l):: B).getD i1 (0,[])).2=l1 at hA g5
  clear g4
  subst hA
  have hF1:FR t j m (A0++(s1,l1):: (s,l):: B) [(rt:Int)]:=by have:=hF;rw[List.append_assoc] at this;exact this
  have hso1:SrtE (entsP (A0++(s1,l1):: (s,l):: B)):=by have:=hso;rw[List.append_assoc] at this;exact this
  have hl1:LfOk l1:=(hF1.lf (s1,l1) (List.mem_append_right A0 List.mem_cons_self)).ok
  have hll1:=hl1.len
  have hr1:=hF1.rng (p:=(s1,l1)) (List.mem_append_right A0 List.mem_cons_self)
  have hne:s1≠s:=hF.apart (q:=(s1,l1)) (List.mem_append_left _ (List.mem_append_right _ List.mem_cons_self))
  have hz:=kids_none g5.k
  have hes:SrcC rtE13 w e1.1 e1.2.1 e1.2.2 L:=OwnRw.src okE13 (show OwnRw rtE13 w base (.slice e1.1 e1.2.1 e1.2.2) L from g5.e.c)
  have hel:e1.2.1=l1.length:=by rw[←hes.len,←(show L.map Prod.fst=l1 from g5.es),List.length_map]
  refine⟨i1,s1,s,s1,e1,k1,ke,kk,L,Lk,l1++l,⟨rfl,hes,h1,hz.2,h2,hz.1,hk0,fun y hy=>?_,by rw[List.map_append,hm,(show L.map Prod.fst=l1 from g5.es)],by omega,by simp;omega,.inr ⟨hne,rfl⟩,by have:=hr1.2;omega,fun e he=>?_,fun hsz=>?_⟩⟩
  ·rcases List.mem_append.1 hy with h|h
   ·exact g5.x y h
   ·exact hx y h
  ·rcases List.mem_append.1 he with h|h
   ·exact hl1.ok e h
   ·exact hl.ok e h
  ·have hlj:LfOk (l1++l):=joined_ok (a:=(s1,l1)) (b:=(s,l)) hso1 hl1 hl hsz
   obtain⟨z1,z2,z3,z4,z5,z6⟩:=mend_left hF1 hroom hlj
   have hks:=ks_left A0 B s1 s s l1 l (l1++l)
   rw[hA0] at hks
   have hks2:(((A0++[(s1,l1)])++(s,l):: B).map (·.1)).take i1++s::(((A0++[(s1,l1)])++(s,l):: B).map (·.1)).drop (i1+2)=(A0++(s,l1++l):: B).map (·.1):=by rw[List.append_assoc];exact hks
   rw[hks2]
   exact⟨hlj,z1,z2,z3,z4,z5,_,z6,rfl⟩
 ·obtain⟨B0,hB⟩:=q_right hi g2
  have g5:PgO w base (s2:Int) ⟨0,((A++(s,l):: B).getD (i+1) (0,[])).2,[]⟩ v (slv13 e2) (slv13 k2) L:=g4
  generalize ((A++(s,l):: B).getD (i+1) (0,[])).2=l2 at hB g5
  clear g4
  subst hB
  have hl2:LfOk l2:=(hF.lf (s2,l2) (List.mem_append_right A (List.mem_cons_of_mem _ List.mem_cons_self))).ok
  have hll2:=hl2.len
  have hr2:=hF.rng (p:=(s2,l2)) (List.mem_append_right A (List.mem_cons_of_mem _ List.mem_cons_self))
  have hz:=kids_none g5.k
  have hes:SrcC rtE13 w e2.1 e2.2.1 e2.2.2 L:=OwnRw.src okE13 (show OwnRw rtE13 w base (.slice e2.1 e2.2.1 e2.2.2) L from g5.e.c)
  have hel:e2.2.1=l2.length:=by rw[←hes.len,←(show L.map Prod.fst=l2 from g5.es),List.length_map]
  refine⟨i,s,s2,s2,ke,kk,e2,k2,Lk,L,l++l2,⟨rfl,h1,hes,h2,hz.2,hk0,hz.1,fun y hy=>?_,by rw[List.map_append,hm,(show L.map Prod.fst=l2 from g5.es)],by omega,by simp;omega,.inl ⟨rfl,rfl⟩,by have:=hr2.2;omega,fun e he=>?_,fun hsz=>?_⟩⟩
  ·rcases List.mem_append.1 hy with h|h
   ·exact hx y h
   ·exact g5.x y h
  ·rcases List.mem_append.1 he with h|h
   ·exact hl.ok e h
   ·exact hl2.ok e h
  ·have hlj:LfOk (l++l2):=joined_ok (a:=(s,l)) (b:=(s2,l2)) hso hl hl2 hsz
   obtain⟨z1,z2,z3,z4,z5,z6⟩:=mend_right hF hroom hlj
   have hks:=ks_left A B0 s s2 s l l2 (l++l2)
   rw[hi] at hks
   rw[hks]
   exact⟨hlj,z1,z2,z3,z4,z5,_,z6,rfl⟩
theorem codGrowE (n:Nat)(w:World)(h2:n≤1000):
  Calls Tryz.prog 201 #[.slice none 0 0,.int .i64 (n:Int)] w fun e w'=>∃v,e=.returned v∧OwnRw rtE13 w' w.heap.size v []∧Below w.heap.size w w':=by
 by_cases h1:n=0
 ·subst h1
  have i1:¬((0:Nat):Int)<0:=by omega
  go_enter Tryz.func201,Tryz.ntmps201
  go_wp2_with fail
  go_ret
  exact⟨_,rfl,OwnRw.nil _ _ _,Below.refl _ _⟩
 obtain⟨i0,hi,hz0,hz1,hz2⟩:=info_parts okE13.hi
 have hrun:=Lib.run_append_nil_zeros (P:=Tryz.prog) w 50 3 50 64 i0 rtE13.z .i64 .i64 Tryz.underlying50 Tryz.underlying3 hi hz0 n (by omega) (by rw[hz1];decide) (by omega) (by rw[hz2];show n * 48≤_;omega)
 have hcap:=grownCap_ge w n 0 64
 have hmx:=grownCap_le_maxLen w n 0 64 (by unfold maxLen;omega)
 generalize grownCap w n 0 64=cap at *
 have HO:Hid (OwnRw rtE13 (w.drew.alloc (.cells (Builtin.zeroCells rtE13.z.cells n++Builtin.zeroCells rtE13.z.cells (cap-n)) 64)) w.heap.size (.slice (some ⟨w.heap.size,0,none⟩) 0 cap) []):=
  World.ownsRow_made w.drew _ cap (Nat.le_refl _) hmx (by rw[Array.size_append,size_zeroCells,size_zeroCells];show n * 2+(cap-n) * 2=cap * 2;omega)
 have HB:Hid (Below w.heap.size w (w.drew.alloc (.cells (Builtin.zeroCells rtE13.z.cells n++Builtin.zeroCells rtE13.z.cells (cap-n)) 64))):=((Below.refl _ w).drew).alloc (Nat.le_refl _) _
 generalize hW:w.drew.alloc (.cells (Builtin.zeroCells rtE13.z.cells n++Builtin.zeroCells rtE13.z.cells (cap-n)) 64)=W at *
 have i1:¬(n:Int)<0:=by omega
 have i2:(0:Int)<(n:Int):=by omega
 have i3:IntKind.i64.wrap (n:Int)=n:=wrapi64_in _ (by omega) (by omega)
 clear hi hz0 hz1 hz2 hW hmx
 go_enter Tryz.func201,Tryz.ntmps201
 go_wp2_with (at_builtin;refine Lib.wpList_append_run _ rfl _ _ _ _ rfl _ _ rfl rfl _ _ hrun ?_)
 go_ret
 exact⟨_,rfl,HO.out,HB.out⟩
def preCE (A B:List Eq3)(k:Nat):List Eq3:=if k=0 then [] else if k=1 then A else A++B
def preKE (n1 n2 k:Nat):Nat:=if k=0 then 0 else if k=1 then n1 else n1+n2
theorem codConcatE (X:Nat)(a1:Option Addr)(n1 c1:Nat)(a3:Option Addr)(n3 c3:Nat)(A B:List Eq3)(w:World)(hX:Blk w X 50 [.slice a1 n1 c1,.slice a3 n3 c3])
  (h1:SrcC rtE13 w a1 n1 c1 A) (h3:SrcC rtE13 w a3 n3 c3 B) (hn:n1+n3≤1000):
  Calls Tryz.prog 184 #[.slice (some ⟨X,0,none⟩) 2 2] w fun e w'=>∃v,e=.returned v∧OwnRw rtE13 w' w.heap.size v (A++B)∧Below w.heap.size w w':=by
 have g0:w.cell? ⟨X,0,none⟩=some (.slice a1 n1 c1):=hX.cell 0
 have g2:w.cell? ⟨X,1,none⟩=some (.slice a3 n3 c3):=hX.cell 1
 have HG:=codGrowE (n1+n3)
 have HXw:Hid (∀W,Below w.heap.size w W→Blk W X 50 [.slice a1 n1 c1,.slice a3 n3 c3]):=fun W hW=>hX.on hW
 have HP1:Hid (∀W,Below w.heap.size w W→SrcC rtE13 W a1 n1 c1 A):=fun W hW=>h1.below hW
 have HP3:Hid (∀W,Below w.heap.size w W→SrcC rtE13 W a3 n3 c3 B):=fun W hW=>h3.below hW
 have L1:=mkHid h1.len
 clear hX h1 h3
 go_enter Tryz.func184,Tryz.ntmps184
 go_wp2
 go_loopw [3,11] (fun s i wr=>∃k:Nat,k≤2∧i=.int .i64 k∧s=.int .i64 ((preKE n1 n3 k:Nat):Int)∧wr=w) (fun _ i _=>2-(intOf i).toNat)
 case atStart=>exact⟨0,Nat.zero_le _,rfl,rfl,rfl⟩
 case round =>
  obtain⟨k,hk,rfl,rfl,hww⟩:=hrel
  replace hww:=hww.symm
  subst hww
  match k,hk with
  | 0,_ =>
   have y1:(preKE n1 n3 0:Nat)=0:=rfl
   rw[y1]
   have i1:¬(n1:Int)<0:=by omega
   have i3:IntKind.i64.wrap (n1:Int)=n1:=wrapi64_in _ (by omega) (by omega)
   go_wp2
   go_roundw
   case rel=>exact⟨1,by omega,by go_num,by first|rfl|(simp[preKE]),by first|rfl|trivial⟩
   case measure=>simp[intOf]
  | 1,_ =>
   have y1:(preKE n1 n3 1:Nat)=n1:=rfl
   rw[y1]
   have i1:¬(n1:Int)+(n3:Int)<0:=by omega
   have i3:IntKind.i64.wrap ((n1:Int)+(n3:Int))=(n1:Int)+(n3:Int):=wrapi64_in _ (by omega) (by omega)
   go_wp2
   go_roundw
   case rel=>exact⟨2,by omega,by go_num,by first|rfl|(simp[preKE]),by first|rfl|trivial⟩
   case measure=>simp[intOf]
  | 2,_ =>
   have y1:((preKE n1 n3 2:Nat):Int)=((n1+n3:Nat):Int):=rfl
   rw[y1]
   go_wp2_with (go_at_call 201;refine(HG _ (by omega)).mono ?_;rintro e x1 ⟨v1,rfl,ho1,hb1⟩)
   have HO1:Hid (OwnRw rtE13 x1 w.heap.size v1 (preCE A B 0)):=ho1
   have HB1:Hid (Below w.heap.size w x1):=hb1
   clear ho1 hb1 g0 g2
   go_loopw [6,27] (fun v i wy=>∃k:Nat,k≤2∧i=.int .i64 k∧Hid (OwnRw rtE13 wy w.heap.size v (preCE A B k))∧Hid (Below w.heap.size w wy)) (fun _ i _=>2-(intOf i).toNat)
   case atStart=>exact⟨0,Nat.zero_le _,rfl,HO1,HB1⟩
   case round =>
    obtain⟨k,hk,rfl,HO,HB⟩:=hrel
    clear HO1 HB1
    match k,hk with
    | 0,_ =>
     have g0:wr.cell? ⟨X,0,none⟩=some (.slice a1 n1 c1):=(HXw.out wr HB.out).cell 0
     go_wp2_with (at_builtin;refine list_appC okE13 _ rfl _ _ rfl w.heap.size _ _ rfl HO.out a1 n1 c1 A rfl (HP1.out wr HB.out) (by show (0+n1) * 48≤_;omega) HB.out.size ?_;intro v2 y2 ho2 hg2)
     go_roundw
     case rel=>exact⟨1,by omega,by go_num,ho2,HB.out.grown hg2 HB.out.size (fun i hi=>(HO.out.lt hi).1)⟩
     case measure=>simp[intOf]
    | 1,_ =>
     have g2:wr.cell? ⟨X,1,none⟩=some (.slice a3 n3 c3):=(HXw.out wr HB.out).cell 1
     go_wp2_with (at_builtin;refine list_appC okE13 _ rfl _ _ rfl w.heap.size _ _ rfl HO.out a3 n3 c3 B rfl (HP3.out wr HB.out) (by show (A.length+n3) * 48≤_;rw[L1.out];omega) HB.out.size ?_;intro v2 y2 ho2 hg2)
     go_roundw
     case rel=>exact⟨2,by omega,by go_num,ho2,HB.out.grown hg2 HB.out.size (fun i hi=>(HO.out.lt hi).1)⟩
     case measure=>simp[intOf]
    | 2,_ =>
     go_wp2
     go_ret
     exact⟨_,rfl,HO.out,HB.out⟩
theorem codGrowI (n:Nat)(w:World)(h2:n≤1000):
  Calls Tryz.prog 202 #[.slice none 0 0,.int .i64 (n:Int)] w fun e w'=>∃v,e=.returned v∧OwnRw rtI13 w' w.heap.size v []∧Below w.heap.size w w':=by
 by_cases h1:n=0
 ·subst h1
  have i1:¬((0:Nat):Int)<0:=by omega
  go_enter Tryz.func202,Tryz.ntmps202
  go_wp2_with fail
  go_ret
  exact⟨_,rfl,OwnRw.nil _ _ _,Below.refl _ _⟩
 obtain⟨i0,hi,hz0,hz1,hz2⟩:=info_parts okI13.hi
 have hrun:=Lib.run_append_nil_zeros (P:=Tryz.prog) w 58 3 58 3 i0 rtI13.z .i64 .i64 Tryz.underlying58 Tryz.underlying3 hi hz0 n (by omega) (by rw[hz1];decide) (by omega) (by rw[hz2];show n * 8≤_;omega)
 have hcap:=grownCap_ge w n 0 3
 have hmx:=grownCap_le_maxLen w n 0 3 (by unfold maxLen;omega)
 generalize grownCap w n 0 3=cap at *
 have HO:Hid (OwnRw rtI13 (w.drew.alloc (.cells (Builtin.zeroCells rtI13.z.cells n++Builtin.zeroCells rtI13.z.cells (cap-n)) 3)) w.heap.size (.slice (some ⟨w.heap.size,0,none⟩) 0 cap) []):=
  World.ownsRow_made w.drew _ cap (Nat.le_refl _) hmx (by rw[Array.size_append,size_zeroCells,size_zeroCells];show n * 1+(cap-n) * 1=cap * 1;omega)
 have HB:Hid (Below w.heap.size w (w.drew.alloc (.cells (Builtin.zeroCells rtI13.z.cells n++Builtin.zeroCells rtI13.z.cells (cap-n)) 3))):=((Below.refl _ w).drew).alloc (Nat.le_refl _) _
 generalize hW:w.drew.alloc (.cells (Builtin.zeroCells rtI13.z.cells n++Builtin.zeroCells rtI13.z.cells (cap-n)) 3)=W at *
 have i1:¬(n:Int)<0:=by omega
 have i2:(0:Int)<(n:Int):=by omega
 have i3:IntKind.i64.wrap (n:Int)=n:=wrapi64_in _ (by omega) (by omega)
 clear hi hz0 hz1 hz2 hW hmx
 go_enter Tryz.func202,Tryz.ntmps202
 go_wp2_with (at_builtin;refine Lib.wpList_append_run _ rfl _ _ _ _ rfl _ _ rfl rfl _ _ hrun ?_)
 go_ret
 exact⟨_,rfl,HO.out,HB.out⟩
def preCI (A B:List Int)(k:Nat):List Int:=if k=0 then [] else if k=1 then A else A++B
def preKI (n1 n2 k:Nat):Nat:=if k=0 then 0 else if k=1 then n1 else n1+n2
theorem codConcatI (X:Nat)(a1:Option Addr)(n1 c1:Nat)(a3:Option Addr)(n3 c3:Nat)(A B:List Int)(w:World)(hX:Blk w X 58 [.slice a1 n1 c1,.slice a3 n3 c3])
  (h1:SrcC rtI13 w a1 n1 c1 A) (h3:SrcC rtI13 w a3 n3 c3 B) (hn:n1+n3≤1000):
  Calls Tryz.prog 185 #[.slice (some ⟨X,0,none⟩) 2 2] w fun e w'=>∃v,e=.returned v∧OwnRw rtI13 w' w.heap.size v (A++B)∧Below w.heap.size w w':=by
 have g0:w.cell? ⟨X,0,none⟩=some (.slice a1 n1 c1):=hX.cell 0
 have g2:w.cell? ⟨X,1,none⟩=some (.slice a3 n3 c3):=hX.cell 1
 have HG:=codGrowI (n1+n3)
 have HXw:Hid (∀W,Below w.heap.size w W→Blk W X 58 [.slice a1 n1 c1,.slice a3 n3 c3]):=fun W hW=>hX.on hW
 have HP1:Hid (∀W,Below w.heap.size w W→SrcC rtI13 W a1 n1 c1 A):=fun W hW=>h1.below hW
 have HP3:Hid (∀W,Below w.heap.size w W→SrcC rtI13 W a3 n3 c3 B):=fun W hW=>h3.below hW
 have L1:=mkHid h1.len
 clear hX h1 h3
 go_enter Tryz.func185,Tryz.ntmps185
 go_wp2
 go_loopw [3,11] (fun s i wr=>∃k:Nat,k≤2∧i=.int .i64 k∧s=.int .i64 ((preKI n1 n3 k:Nat):Int)∧wr=w) (fun _ i _=>2-(intOf i).toNat)
 case atStart=>exact⟨0,Nat.zero_le _,rfl,rfl,rfl⟩
 case round =>
  obtain⟨k,hk,rfl,rfl,hww⟩:=hrel
  replace hww:=hww.symm
  subst hww
  match k,hk with
  | 0,_ =>
   have y1:(preKI n1 n3 0:Nat)=0:=rfl
   rw[y1]
   have i1:¬(n1:Int)<0:=by omega
   have i3:IntKind.i64.wrap (n1:Int)=n1:=wrapi64_in _ (by omega) (by omega)
   go_wp2
   go_roundw
   case rel=>exact⟨1,by omega,by go_num,by first|rfl|(simp[preKI]),by first|rfl|trivial⟩
   case measure=>simp[intOf]
  | 1,_ =>
   have y1:(preKI n1 n3 1:Nat)=n1:=rfl
   rw[y1]
   have i1:¬(n1:Int)+(n3:Int)<0:=by omega
   have i3:IntKind.i64.wrap ((n1:Int)+(n3:Int))=(n1:Int)+(n3:Int):=wrapi64_in _ (by omega) (by omega)
   go_wp2
   go_roundw
   case rel=>exact⟨2,by omega,by go_num,by first|rfl|(simp[preKI]),by first|rfl|trivial⟩
   case measure=>simp[intOf]
  | 2,_ =>
   have y1:((preKI n1 n3 2:Nat):Int)=((n1+n3:Nat):Int):=rfl
   rw[y1]
   go_wp2_with (go_at_call 202;refine(HG _ (by omega)).mono ?_;rintro e x1 ⟨v1,rfl,ho1,hb1⟩)
   have HO1:Hid (OwnRw rtI13 x1 w.heap.size v1 (preCI A B 0)):=ho1
   have HB1:Hid (Below w.heap.size w x1):=hb1
   clear ho1 hb1 g0 g2
   go_loopw [6,27] (fun v i wy=>∃k:Nat,k≤2∧i=.int .i64 k∧Hid (OwnRw rtI13 wy w.heap.size v (preCI A B k))∧Hid (Below w.heap.size w wy)) (fun _ i _=>2-(intOf i).toNat)
   case atStart=>exact⟨0,Nat.zero_le _,rfl,HO1,HB1⟩
   case round =>
    obtain⟨k,hk,rfl,HO,HB⟩:=hrel
    clear HO1 HB1
    match k,hk with
    | 0,_ =>
     have g0:wr.cell? ⟨X,0,none⟩=some (.slice a1 n1 c1):=(HXw.out wr HB.out).cell 0
     go_wp2_with (at_builtin;refine list_appC okI13 _ rfl _ _ rfl w.heap.size _ _ rfl HO.out a1 n1 c1 A rfl (HP1.out wr HB.out) (by show (0+n1) * 8≤_;omega) HB.out.size ?_;intro v2 y2 ho2 hg2)
     go_roundw
     case rel=>exact⟨1,by omega,by go_num,ho2,HB.out.grown hg2 HB.out.size (fun i hi=>(HO.out.lt hi).1)⟩
     case measure=>simp[intOf]
    | 1,_ =>
     have g2:wr.cell? ⟨X,1,none⟩=some (.slice a3 n3 c3):=(HXw.out wr HB.out).cell 1
     go_wp2_with (at_builtin;refine list_appC okI13 _ rfl _ _ rfl w.heap.size _ _ rfl HO.out a3 n3 c3 B rfl (HP3.out wr HB.out) (by show (A.length+n3) * 8≤_;rw[L1.out];omega) HB.out.size ?_;intro v2 y2 ho2 hg2)
     go_roundw
     case rel=>exact⟨2,by omega,by go_num,ho2,HB.out.grown hg2 HB.out.size (fun i hi=>(HO.out.lt hi).1)⟩
     case measure=>simp[intOf]
    | 2,_ =>
     go_wp2
     go_ret
     exact⟨_,rfl,HO.out,HB.out⟩
end
end Go.Proofs.YtpecobmfabmpkaaGreatDoor
