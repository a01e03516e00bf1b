/- Pj8 Pj9 PjO PjC Pj4 PjD -/
import Derived.Test.YtpecobmfabmpkaaGreatDoorM10
import Derived.Defers
import Derived.Laws.Pointers
import Derived.Laws.NewBlocks
import Derived.ChangeAlike
set_option maxRecDepth 100000
set_option maxHeartbeats 4000000
namespace Go.Proofs.YtpecobmfabmpkaaGreatDoor
section
open Go.RowKit
theorem IsDt.slots {w:World}{a:Option Addr}{n c:Nat}{l:Qs}(h:IsDt w a n c l):IsDt w a n c (slotQ l):=
 ⟨by rw[slotQ_len];exact h.len_eq,fun hp=>by
  have hn:=h.len_eq
  obtain⟨B,off,e,hb,hc⟩:=h.cells hp
  refine⟨B,off,e,hb,fun i hi=>?_⟩
  rw[slotQ_nth l i (by omega)]
  exact hc i hi⟩
theorem isIs_one {w:World}{B:Nat}(b:List UInt8)(h:Blk w B 3 [.int .i64 0]):IsIs w (some ⟨B,0,none⟩) 1 1 [(0,b)] :=
 ⟨rfl,fun _=>⟨B,0,rfl,⟨_,_,h⟩,fun i hi=>by
  have:i=0:=by omega
  subst this
  rw[h.cell];rfl⟩⟩
theorem isDt_one {w:World}{B g:Nat}{b:List UInt8}(h:Blk w B 33 [.slice (some ⟨g,0,none⟩) 512 512])(hg:Blk w g 5 (bv b))(hb:b.length=512):IsDt w (some ⟨B,0,none⟩) 1 1 [(0,b)] :=
 ⟨rfl,fun _=>⟨B,0,rfl,⟨_,_,h⟩,fun i hi=>by
  have:i=0:=by omega
  subst this
  exact⟨hb,g,5,by rw[h.cell];rfl,hg,by simp⟩⟩⟩
theorem codChange (P base m:Nat)(t:Tl)(j:Jl)(pa da:Option Addr)(n pc dc:Nat)(w:World)(h:IsD0 w P base j.p)(hf:FewM j.p m)(hm:m≤80000)(h48:n≤48)(hp:IsIs w pa n pc t.l)(hd:IsDt w da n dc t.l)(ha:∀g∈t.l,g.1≤1000000):
  Calls Tryz.prog 162 #[.agg #[.int .u64 (nxt j.seq:Int),.slice pa n pc,.slice da n dc],.pointer (some ⟨P,0,none⟩)] w fun e w'=>e=.returned (.int .i64 (cmC t j).2)∧IsD0 w' P base (cmC t j).1∧KeepT PD w w'∧Below base w w':=by
 have HI:=mkHid h
 have HP:=mkHid hp
 have HD:=mkHid hd
 have HN:=mkHid hp.len_eq
 have HA:=mkHid ha
 have HFA:=mkHid (hf.cmA (t:=t) rfl (by rw[hp.len_eq];exact h48))
 have HFB:=mkHid (hf.cmB (t:=t) rfl (by rw[hp.len_eq];exact h48))
 have HF:=mkHid hf
 have h48':(n:Int)≤48:=by omega
 have HLow:Hid (base≤w.heap.size):=h.low
 generalize hsq:nxt j.seq=sq at *
 have HC:Hid (Blk (w.alloc (.cells #[.int .u64 (sq:Int),.slice pa n pc,.slice da n dc] 113)) w.heap.size 113 [.int .u64 (sq:Int),.slice pa n pc,.slice da n dc]):=Blk.new w _ _
 have HD0:Hid (Below w.heap.size w (w.alloc (.cells #[.int .u64 (sq:Int),.slice pa n pc,.slice da n dc] 113))):=(Below.refl _ w).alloc (Nat.le_refl _) _
 have HSl:=fun W=>codSlots t.l n hp.len_eq h48 W
 have HEA:Hid (stepsE j.p (slotQ t.l)=(cmA t j).2∧stepsP j.p (slotQ t.l)=(cmA t j).1):=⟨rfl,rfl⟩
 have HEB:Hid ((cmA t j).2=0→stepsE (cmA t j).1 [(0,sealJ sq t.l)]=(cmB t j).2∧stepsP (cmA t j).1 [(0,sealJ sq t.l)]=(cmB t j).1):=fun h0=>by unfold cmB;rw[if_pos h0,hsq];exact⟨rfl,rfl⟩
 have HNB:Hid (¬(cmA t j).2=0→cmB t j=cmA t j):=fun h0=>by unfold cmB;rw[if_neg h0]
 have HEC:Hid ((cmB t j).2=0→stepsE (cmB t j).1 t.l=(cmC t j).2∧stepsP (cmB t j).1 t.l=(cmC t j).1):=fun h0=>by unfold cmC;rw[if_pos h0];exact⟨rfl,rfl⟩
 have HNC:Hid (¬(cmB t j).2=0→cmC t j=cmB t j):=fun h0=>by unfold cmC;rw[if_neg h0]
 clear h hp hd ha hf hsq
 generalize cmC t j=cC at *
 generalize cmB t j=cB at *
 generalize cmA t j=cA at *
 obtain⟨pA,eA⟩:=cA
 obtain⟨pB,eB⟩:=cB
 obtain⟨pC,eC⟩:=cC
 dsimp only at HFA HFB HEA HEB HNB HEC HNC ⊢
 obtain⟨C,hC⟩:∃C,C=w.heap.size:=⟨_,rfl⟩
 have HCe:=mkHid hC
 go_enter Tryz.func162,Tryz.ntmps162
 go_upto_region 1 with fail
 rw[←hC] at HC HD0 ⊢
 clear hC
 generalize w.alloc (.cells #[.int .u64 (sq:Int),.slice pa n pc,.slice da n dc] 113)=w0 at *
 have HI0:Hid (IsD0 w0 P base j.p):=HI.out.on (by rw[←HCe.out];exact HD0.out)
 have HDw:Hid (IsDt w0 da n dc t.l):=HD.out.on (by rw[←HCe.out];exact HD0.out)
 have HKP:∀w',Hid (KeepT PD w0 w'∧Below base w0 w')→Hid (KeepT PD w0 w'∧Below base w0 w')∧w'.cell? ⟨C,2,none⟩=some (.slice da n dc):=fun w' h=>⟨h,(h.out.1.blk HC.out (by decide)).cell 2⟩
 have HLow0:Hid (base≤w0.heap.size):=Nat.le_trans HLow.out (Nat.le_trans (Nat.le_of_eq HCe.out.symm) (by have:=HC.out.lt;omega))
 have HK0:=mkHid (HKP _ (mkHid ⟨KeepT.of_below ((Below.refl _ w0).drew),((Below.refl _ w0).drew).mono HLow0.out⟩))
 have HSl2:∀W,Calls Tryz.prog 192 #[.int .i64 (n:Int)] W fun e w'=>∃S,e=.returned (.slice (some ⟨S,0,none⟩) n n)∧Hid (IsIs w' (some ⟨S,0,none⟩) n n (slotQ t.l))∧Hid (Below W.heap.size W w'):=HSl
 have HPu:∀W S,Below w0.heap.size w0 W→IsIs W (some ⟨S,0,none⟩) n n (slotQ t.l)→Calls Tryz.prog 60 #[.pointer (some ⟨P,0,none⟩),.slice (some ⟨S,0,none⟩) n n,.slice da n dc] W fun e w'=>e=.returned (.int .i64 eA)∧Hid (IsD0 w' P base pA)∧Hid (KeepT PD W w')∧Hid (Below base W w'):=fun W S hW hS=>by
  have:=codPut P base m j.p (slotQ t.l) (some ⟨S,0,none⟩) da n n dc W (HI0.out.on hW) HF.out (by omega) hS ((HDw.out.on hW).slots)
  rw[HEA.out.1,HEA.out.2] at this
  exact this
 clear HSl
 go_region_held3 (fun w'=>Hid (KeepT PD w0 w'∧Below base w0 w')∧w'.cell? ⟨C,2,none⟩=some (.slice da n dc))
  (first|exact HK0.out|assumption|(have hq0:=‹Hid (KeepT _ _ _∧_)∧_›;exact HKP _ (mkHid ⟨hq0.1.out.1.trans hkx.out.1,hq0.1.out.2.trans hkx.out.2⟩)))
  (first
   | (go_at_call 192;have hq0:=‹Hid (KeepT _ _ _∧_)∧_›;refine(HSl2 _).mono ?_;rintro e y1 ⟨S,rfl,hS,hb1⟩;have hkx:=mkHid (And.intro (KeepT.of_below (ts:=PD) hb1.out) (hb1.out.mono (Nat.le_trans HLow0.out hq0.1.out.1.size)));have hw1:Hid (Below w0.heap.size w0 y1):=mkHid (((Below.refl _ w0).drew).trans hb1.out);clear hq0 hb1)
   | (go_at_call 60;refine(HPu _ S hw1.out hS.out).mono ?_;rintro e y2 ⟨rfl,hI2,hT2,hb2⟩;have hkx:=mkHid (And.intro hT2.out hb2.out);clear hT2 hb2))
 have hq9:=‹Hid (KeepT _ _ _∧_)∧_›
 have HT2:Hid (KeepT PD w y2):=(KeepT.of_below (by rw[←HCe.out];exact HD0.out)).trans hq9.1.out.1
 have HB2:Hid (Below base w y2):=(HD0.out.mono (by rw[HCe.out];exact HLow.out)).trans hq9.1.out.2
 have HC2:=mkHid (hq9.1.out.1.blk HC.out (by decide))
 have HI2:=hI2
 clear hq9 hkx HK0 HKP HSl2 HPu hS hw1 hI2 HI0 HDw HC HD0 HCe HLow0
 by_cases hA:eA=0
 ·subst hA
  have hb3:Below y2.heap.size y2 (y2.alloc (.cells #[.int .i64 0] 3)):=(Below.refl _ y2).alloc (Nat.le_refl _) _
  have HC3:=HC2.out.on hb3
  have k0:(y2.alloc (.cells #[.int .i64 0] 3)).cell? ⟨C,0,none⟩=some (.int .u64 (sq:Int)):=HC3.cell 0
  have k1:(y2.alloc (.cells #[.int .i64 0] 3)).cell? ⟨C,1,none⟩=some (.slice pa n pc):=HC3.cell 1
  have k2:(y2.alloc (.cells #[.int .i64 0] 3)).cell? ⟨C,2,none⟩=some (.slice da n dc):=HC3.cell 2
  have HEb:=mkHid (HEB.out rfl)
  have HSe:=codSeal sq t.l pa da n pc dc _ h48 ((HP.out.keep HT2.out (by decide)).on hb3) ((HD.out.keep HT2.out (by decide)).on hb3) HA.out
  have HK3:Hid (Blk (y2.alloc (.cells #[.int .i64 0] 3)) y2.heap.size 3 [.int .i64 0]):=Blk.new y2 _ _
  have HC3h:=mkHid HC3
  have HB3:=mkHid hb3
  have HLo2:Hid (base≤y2.heap.size):=HI2.out.low
  have HS5:Hid ((sealJ sq t.l).length=512):=sealJ_length _ _ (by rw[preJ_length,HN.out];omega)
  clear hb3 HC3 HC2
  go_wp2_with fail
  refine HSe.mono ?_
  rintro e y4 ⟨g,rfl,hg4,_,hb4⟩
  have HT4:Hid (Below y2.heap.size y2 y4):=HB3.out.trans (hb4.mono HB3.out.size)
  have HK4:=mkHid (HK3.out.on hb4)
  have HC4:=mkHid (HC3h.out.on hb4)
  have HG4:=mkHid hg4
  clear hg4 hb4 HSe HK3 HC3h HB3 k0 k1 k2
  have HI4:=mkHid (HI2.out.on HT4.out)
  have HTw4:Hid (KeepT PD w y4):=HT2.out.trans (KeepT.of_below HT4.out)
  have HBw4:Hid (Below base w y4):=HB2.out.trans (HT4.out.mono HLo2.out)
  generalize y2.heap.size=B1 at *
  have HLo4:Hid (base≤y4.heap.size):=HI4.out.low
  have HB5:Hid (Below y4.heap.size y4 (y4.alloc (.cells #[.slice (some ⟨g,0,none⟩) 512 512] 33))):=(Below.refl _ y4).alloc (Nat.le_refl _) _
  have HK5:Hid (Blk (y4.alloc (.cells #[.slice (some ⟨g,0,none⟩) 512 512] 33)) y4.heap.size 33 [.slice (some ⟨g,0,none⟩) 512 512]):=Blk.new y4 _ _
  have HPu:=codPut P base (m+49) pA [(0,sealJ sq t.l)] (some ⟨B1,0,none⟩) (some ⟨y4.heap.size,0,none⟩) 1 1 1 (y4.alloc (.cells #[.slice (some ⟨g,0,none⟩) 512 512] 33)) (HI4.out.on HB5.out) HFA.out (by omega) (isIs_one _ (HK4.out.on HB5.out)) (isDt_one HK5.out (HG4.out.on HB5.out) HS5.out)
  rw[HEb.out.1,HEb.out.2] at HPu
  have HC5:=mkHid (HC4.out.on HB5.out)
  have HTw5:Hid (KeepT PD w (y4.alloc (.cells #[.slice (some ⟨g,0,none⟩) 512 512] 33))):=HTw4.out.trans (KeepT.of_below HB5.out)
  have HBw5:Hid (Below base w (y4.alloc (.cells #[.slice (some ⟨g,0,none⟩) 512 512] 33))):=HBw4.out.trans (HB5.out.mono HLo4.out)
  clear HK5 HK4 HG4 HC4 HB5
  go_wp2_with fail
  refine HPu.mono ?_
  rintro e y6 ⟨rfl,hI6,hT6,hb6⟩
  have HI6:=mkHid hI6
  have HT6:=mkHid (HTw5.out.trans hT6)
  have HB6:=mkHid (HBw5.out.trans hb6)
  have HC6:=mkHid (hT6.blk HC5.out (by decide))
  clear hI6 hT6 hb6 HPu HTw5 HBw5 HC5
  by_cases hB:eB=0
  ·subst hB
   have k1:y6.cell? ⟨C,1,none⟩=some (.slice pa n pc):=HC6.out.cell 1
   have k2:y6.cell? ⟨C,2,none⟩=some (.slice da n dc):=HC6.out.cell 2
   have HEc:=HEC.out rfl
   have HPc:=codPut P base (m+51) pB t.l pa da n pc dc y6 HI6.out HFB.out (by omega) (HP.out.keep HT6.out (by decide)) (HD.out.keep HT6.out (by decide))
   rw[HEc.1,HEc.2] at HPc
   clear HEc
   go_wp2_with fail
   refine HPc.mono ?_
   rintro e y7 ⟨rfl,hI7,hT7,hb7⟩
   have HI7:=mkHid hI7
   have HT7:=mkHid (HT6.out.trans hT7)
   have HB7:=mkHid (HB6.out.trans hb7)
   clear hI7 hT7 hb7 HPc
   go_wp2_with fail
   go_ret
   exact⟨rfl,HI7.out,HT7.out,HB7.out⟩
  ·have hBb:(eB==0)=false:=by rw[beq_eq_false_iff_ne];exact hB
   have hBn:¬eB=0:=hB
   have e3:=HNC.out hB
   simp only[Prod.mk.injEq] at e3
   obtain⟨e3,e4⟩:=e3
   subst e3 e4
   go_wp2_with fail
   go_ret
   exact⟨rfl,HI6.out,HT6.out,HB6.out⟩
 ·have hAb:(eA==0)=false:=by rw[beq_eq_false_iff_ne];exact hA
  have hAn:¬eA=0:=hA
  have e1:=HNB.out hA
  simp only[Prod.mk.injEq] at e1
  obtain⟨e1,e2⟩:=e1
  subst e1 e2
  have e3:=HNC.out hA
  simp only[Prod.mk.injEq] at e3
  obtain⟨e3,e4⟩:=e3
  subst e3 e4
  go_wp2_with fail
  go_ret
  exact⟨rfl,HI2.out,HT2.out,HB2.out⟩
abbrev JD:List TypeId:=[109,159,200,117]
def jCm (t:Tl)(j:Jl):Jl:=if (cmC t j).2=0 then ⟨(cmC t j).1,nxt j.seq,j.dead⟩ else ⟨(cmC t j).1,j.seq,true⟩
theorem JAt.setSeq {w:World}{J P base:Nat}{j:Jl}(h:JAt w J P base j)(s:Nat)(hs:s<18446744073709551616):JAt (w.setCell ⟨J,1,none⟩ (.int .u64 (s:Int))) J P base ⟨j.p,s,j.dead⟩∧KeepT JD w (w.setCell ⟨J,1,none⟩ (.int .u64 (s:Int)))∧Below base w (w.setCell ⟨J,1,none⟩ (.int .u64 (s:Int))):=by
 have hk:KeepT [117] w (w.setCell ⟨J,1,none⟩ (.int .u64 (s:Int))):=(KeepT.refl _ w).set h.blk (by simp) 1 _
 exact⟨⟨h.blk.set 1 _,h.low,h.d.keep hk (by decide) (by decide) (by decide),hs⟩,hk.wide (by simp),bel_one (gr_cell w J 1 _) h.low h.blk.lt⟩
theorem JAt.setDead {w:World}{J P base:Nat}{j:Jl}(h:JAt w J P base j):JAt (w.drew.setCell ⟨J,2,none⟩ (.int .u32 1)) J P base ⟨j.p,j.seq,true⟩∧KeepT JD w (w.drew.setCell ⟨J,2,none⟩ (.int .u32 1))∧Below base w (w.drew.setCell ⟨J,2,none⟩ (.int .u32 1)):=by
 have hd:Below w.heap.size w w.drew:=(Below.refl _ w).drew
 have h2:=h.on hd
 have hk:KeepT [117] w.drew (w.drew.setCell ⟨J,2,none⟩ (.int .u32 1)):=(KeepT.refl _ w.drew).set h2.blk (by simp) 2 _
 have hk2:KeepT [117] w (w.drew.setCell ⟨J,2,none⟩ (.int .u32 1)):=(KeepT.of_below hd).trans hk
 refine⟨⟨h2.blk.set 2 _,h.low,h2.d.keep hk (by decide) (by decide) (by decide),h.seq⟩,hk2.wide (by simp),(hd.mono ?_).trans (bel_one (gr_cell w.drew J 2 _) h.low h2.blk.lt)⟩
 have:=h.low;have:=h.blk.lt;omega
theorem codJCommit (w:World)(J P base m:Nat)(t:Tl)(j:Jl)(pa da:Option Addr)(n pc dc:Nat)(h:JAt w J P base j)(hf:FewM j.p m)(hm:m≤80000)(h48:n≤48)(hp:IsIs w pa n pc t.l)(hd:IsDt w da n dc t.l)(ha:∀g∈t.l,g.1≤1000000):
  Calls Tryz.prog 119 #[.pointer (some ⟨J,0,none⟩),.slice pa n pc,.slice da n dc] w fun e w'=>e=.returned (.int .i64 (cmC t j).2)∧JAt w' J P base (jCm t j)∧KeepT JD w w'∧Below base w w':=by
 have HJ:=mkHid h
 have c0:w.cell? ⟨J,0,none⟩=some (.pointer (some ⟨P,0,none⟩)):=h.blk.cell 0
 have c1:w.cell? ⟨J,1,none⟩=some (.int .u64 (j.seq:Int)):=h.blk.cell 1
 have hnx:IntKind.u64.wrap ((j.seq:Int)+1)=(nxt j.seq:Int):=by
  have hs:=h.seq
  unfold nxt
  simp[IntKind.wrap,IntKind.signed,IntKind.bits]
 have hnl:nxt j.seq<18446744073709551616:=by unfold nxt;omega
 have HNl:=mkHid hnl
 have HCh:=fun W (hW:Below w.heap.size w W)=>codChange P base m t j pa da n pc dc W (h.d.on hW) hf hm h48 (hp.on hW) (hd.on hW) ha
 have HE0:Hid ((cmC t j).2=0→jCm t j=⟨(cmC t j).1,nxt j.seq,j.dead⟩):=fun h0=>by unfold jCm;rw[if_pos h0]
 have HE1:Hid (¬(cmC t j).2=0→jCm t j=⟨(cmC t j).1,j.seq,true⟩):=fun h0=>by unfold jCm;rw[if_neg h0]
 have HLow:Hid (base≤w.heap.size):=h.d.low
 clear h hp hd ha hf hnl
 generalize cmC t j=cC at *
 obtain⟨pC,eC⟩:=cC
 dsimp only at HE0 HE1 HCh ⊢
 generalize nxt j.seq=sq at *
 obtain⟨s0,hs0⟩:∃s0,s0=j.seq:=⟨_,rfl⟩
 rw[←hs0] at c1 hnx
 clear hs0
 go_enter Tryz.func119,Tryz.ntmps119
 go_upto_region 2 with fail
 have HC:Hid (Blk (w.alloc (.cells #[.int .u64 (sq:Int),.slice pa n pc,.slice da n dc] 113)) w.heap.size 113 [.int .u64 (sq:Int),.slice pa n pc,.slice da n dc]):=Blk.new w _ _
 have HD0:Hid (Below w.heap.size w (w.alloc (.cells #[.int .u64 (sq:Int),.slice pa n pc,.slice da n dc] 113))):=(Below.refl _ w).alloc (Nat.le_refl _) _
 generalize w.alloc (.cells #[.int .u64 (sq:Int),.slice pa n pc,.slice da n dc] 113)=w0 at *
 have HCh0:∀W,Below w0.heap.size w0 W→Calls Tryz.prog 162 #[.agg #[.int .u64 (sq:Int),.slice pa n pc,.slice da n dc],.pointer (some ⟨P,0,none⟩)] W fun e w'=>e=.returned (.int .i64 eC)∧Hid (IsD0 w' P base pC)∧Hid (KeepT PD W w')∧Hid (Below base W w'):=fun W hW=>HCh W (HD0.out.trans (hW.mono HD0.out.size))
 have HJ0:=mkHid (HJ.out.on HD0.out)
 have HBw:Hid (KeepT PD w w0∧Below base w w0):=⟨KeepT.of_below HD0.out,HD0.out.mono HLow.out⟩
 generalize w.heap.size=C at *
 have HKP:∀w',Hid (KeepT PD w0 w'∧Below base w0 w')→Hid (KeepT PD w0 w'∧Below base w0 w')∧w'.cell? ⟨C,0,none⟩=some (.int .u64 (sq:Int))∧w'.cell? ⟨C,1,none⟩=some (.slice pa n pc)∧w'.cell? ⟨C,2,none⟩=some (.slice da n dc)∧w'.cell? ⟨J,0,none⟩=some (.pointer (some ⟨P,0,none⟩)):=fun w' h=>⟨h,(h.out.1.blk HC.out (by decide)).cell 0,(h.out.1.blk HC.out (by decide)).cell 1,(h.out.1.blk HC.out (by decide)).cell 2,(h.out.1.blk HJ0.out.blk (by decide)).cell 0⟩
 have HLow0:Hid (base≤w0.heap.size):=by unfold Hid;have:=HLow.out;have:=HC.out.lt;omega
 have HK0:=mkHid (HKP _ (mkHid ⟨KeepT.of_below ((Below.refl _ w0).drew),((Below.refl _ w0).drew).mono HLow0.out⟩))
 clear c0 c1 HCh hnx
 go_region_held3 (fun w'=>Hid (KeepT PD w0 w'∧Below base w0 w')∧w'.cell? ⟨C,0,none⟩=some (.int .u64 (sq:Int))∧w'.cell? ⟨C,1,none⟩=some (.slice pa n pc)∧w'.cell? ⟨C,2,none⟩=some (.slice da n dc)∧w'.cell? ⟨J,0,none⟩=some (.pointer (some ⟨P,0,none⟩)))
  (first|exact HK0.out|assumption|(have hq0:=‹Hid (KeepT _ _ _∧_)∧_›;exact HKP _ (mkHid ⟨hq0.1.out.1.trans hkx.out.1,hq0.1.out.2.trans hkx.out.2⟩)))
  (first
   | (go_at_call 162;refine(HCh0 _ ((Below.refl _ w0).drew)).mono ?_;rintro e y2 ⟨rfl,hI2,hT2,hb2⟩;have hkx:=mkHid (And.intro hT2.out hb2.out);clear hT2 hb2))
 have hq9:=‹Hid (KeepT _ _ _∧_)∧_›
 have HT2:Hid (KeepT PD w y2):=(HBw.out.1).trans hq9.1.out.1
 have HB2:Hid (Below base w y2):=(HBw.out.2).trans hq9.1.out.2
 have HJ2:=mkHid (HJ0.out.turn hq9.1.out.1 hI2.out)
 have HC2:=mkHid (hq9.1.out.1.blk HC.out (by decide))
 clear hq9 hkx HK0 HKP HCh0 hI2 HJ0 HC HD0 HLow0
 by_cases hz:eC=0
 ·subst hz
  have k0:y2.cell? ⟨C,0,none⟩=some (.int .u64 (sq:Int)):=HC2.out.cell 0
  have k1:y2.cell? ⟨J,1,none⟩=some (.int .u64 (j.seq:Int)):=HJ2.out.blk.cell 1
  have kf:=HJ2.out.blk.frozen 1
  have HS:=mkHid (HJ2.out.setSeq sq HNl.out)
  have HE:=mkHid (HE0.out rfl)
  go_wp2_with fail
  go_ret
  refine⟨rfl,by rw[HE.out];exact HS.out.1,(HT2.out.wide (by decide)).trans HS.out.2.1,HB2.out.trans HS.out.2.2⟩
 ·have hzb:(eC==0)=false:=by rw[beq_eq_false_iff_ne];exact hz
  have HE:=mkHid (HE1.out hz)
  have HH:=codHeed y2 J P base _ eC hz HJ2.out
  have HS:=mkHid HJ2.out.setDead
  go_wp2_with fail
  refine HH.mono ?_
  rintro e y3 ⟨⟨x,rfl⟩,hy3⟩
  rw[←hy3] at HS
  clear hy3
  go_wp2_with fail
  go_ret
  exact⟨rfl,by rw[HE.out];exact HS.out.1,(HT2.out.wide (by decide)).trans HS.out.2.1,HB2.out.trans HS.out.2.2⟩
theorem rcDisable (w:World):(callFunc 204 #[]).run Tryz.prog w=.ok (.value (.tuple #[])) w:=run_call_mark0 Tryz.func204 (by kernel_rfl) (by kernel_rfl) (by kernel_rfl) .disable (by kernel_rfl) w
theorem rcEnable (w:World):(callFunc 206 #[]).run Tryz.prog w=.ok (.value (.tuple #[])) w:=run_call_mark0 Tryz.func206 (by kernel_rfl) (by kernel_rfl) (by kernel_rfl) .enable (by kernel_rfl) w
theorem rcAcquire (a:Addr)(w:World):(callFunc 207 #[.pointer (some a)]).run Tryz.prog w=.ok (.value (.tuple #[])) w:=run_call_marked Tryz.func207 (by kernel_rfl) (by kernel_rfl) (by kernel_rfl) .acquire (by kernel_rfl) a w
theorem rcMerge (a:Addr)(w:World):(callFunc 209 #[.pointer (some a)]).run Tryz.prog w=.ok (.value (.tuple #[])) w:=run_call_marked Tryz.func209 (by kernel_rfl) (by kernel_rfl) (by kernel_rfl) .releaseMerge (by kernel_rfl) a w
theorem mxLock (a:Addr)(w:World)(hc:w.cell? a=some (.int .i32 0))(hz:w.frozen? a=false):
  Calls Tryz.prog 157 #[.pointer (some a)] w fun e w'=>e=.returned (.tuple #[])∧w'=w.setCell a (.int .i32 1):=by
 have hd:=rcDisable
 have he:=rcEnable
 have ha:=rcAcquire
 have hcas:=run_call_cas_hit (P:=Tryz.prog) Tryz.func205 (by kernel_rfl) (by kernel_rfl) (by kernel_rfl) .i32 (by kernel_rfl) (y:=1) hc hz
 have hc':(w.setCell a (.int .i32 1)).cell? a=some (.int .i32 1):=World.cell?_setCell_same w a _ hc
 have hcv:=run_convert_to_unsafe (P:=Tryz.prog) (src:=267) (dst:=271) Tryz.underlying267 Tryz.underlying271 (by kernel_rfl) hc'
 go_enter Tryz.func157,Tryz.ntmps157
 go_wp2
 first|go_end0|(simp only[Exit.inBlock,Exit.then];refine bodyPost_ret (results_none rfl _ _ _) rfl ?_)|refine bodyPost_ret (results_none rfl _ _ _) rfl ?_
 go_wp2
 go_end0
 exact⟨rfl,rfl⟩
theorem mxUnlock (a:Addr)(u:FrameMode)(w:World)(hc:w.cell? a=some (.int .i32 1))(hz:w.frozen? a=false):
  CallsD Tryz.prog 158 #[.pointer (some a)] u w fun e u' w'=>u'=u∧(e=.returned (.tuple #[])∧w'=w.setCell a (.int .i32 0)):=by
 have hd:=rcDisable
 have he:=rcEnable
 have hr:=rcMerge
 have hadd:=run_call_add (P:=Tryz.prog) Tryz.func210 (by kernel_rfl) (by kernel_rfl) (by kernel_rfl) .i32 (by kernel_rfl) (y := -1) (s:=0) hc hz (by simp[go_sem];rfl)
 have hcv:=run_convert_to_unsafe (P:=Tryz.prog) (src:=267) (dst:=271) Tryz.underlying267 Tryz.underlying271 (by kernel_rfl) hc
 go_enter_d Tryz.func158,Tryz.ntmps158
 go_wp2
 go_end0
 go_wp2
 go_end0
 exact⟨rfl,rfl⟩
theorem doneStore (a:Addr)(x:Value)(u:FrameMode)(w:World)(hc:w.cell? a=some x)(hz:w.frozen? a=false):
  CallsD Tryz.prog 97 #[.pointer (some a),.bool true] u w fun e u' w'=>u'=u∧(e=.returned (.tuple #[])∧w'=w.drew.setCell a (.int .u32 1)):=by
 have hc':w.drew.cell? a=some x:=by go_simp
 have hz':w.drew.frozen? a=false:=by go_simp
 have hst:=run_call_store (P:=Tryz.prog) Tryz.func135 (by kernel_rfl) (by kernel_rfl) (by kernel_rfl) (by kernel_rfl) (k:=.u32) (y:=1) hc' hz'
 go_enter_d Tryz.func97,Tryz.ntmps97
 go_wp2
 go_region_calls
 all_goals (go_end0;exact⟨rfl,rfl⟩)
def txC (J M:Nat)(done:Int)(lock:Int)(tried:Bool):List Value:=[.pointer (some ⟨J,0,none⟩),.map (some M),.int .u32 done,.int .i32 lock,.int .u32 0,.bool tried]
theorem onceSlow (T J M:Nat)(tr:Bool)(a1 a2:Addr)(Q:World→Prop)(w:World)(hb:Blk w T 129 (txC J M 0 0 tr))
  (hF:Calls Tryz.prog 81 #[.pointer (some a1),.pointer (some a2)] (w.setCell ⟨T,3,none⟩ (.int .i32 1)) fun e w'=>e=.returned (.tuple #[])∧Q w'∧Blk w' T 129 (txC J M 0 1 true)):
  Calls Tryz.prog 116 #[.pointer (some ⟨T,2,none⟩),.func (.func 81) #[] #[.pointer (some a1),.pointer (some a2)]] w fun e w'=>e=.returned (.tuple #[])∧∃w2,Q w2∧Blk w2 T 129 (txC J M 0 1 true)∧w'=(w2.drew.setCell ⟨T,2,none⟩ (.int .u32 1)).setCell ⟨T,3,none⟩ (.int .i32 0):=by
 have HL:=mxLock ⟨T,3,none⟩ w (hb.cell 3) (hb.frozen 3)
 have hb1:=hb.set 3 (.int .i32 1)
 have hl:=atLoadAt T 2 false (w.setCell ⟨T,3,none⟩ (.int .i32 1)) (hb1.cell 2)
 have HF:=mkHid hF
 clear hF hb hb1
 go_enter_defers Tryz.func116,Tryz.ntmps116
 go_wp2_with fail
 refine HL.mono ?_
 rintro e w1 ⟨rfl,rfl⟩
 go_wp2_with fail
 refine hl.mono ?_
 rintro e w1 ⟨rfl,rfl⟩
 go_wp2_with fail
 refine HF.out.mono ?_
 rintro e w2 ⟨rfl,hQ,hB⟩
 have HQ:=mkHid (And.intro hQ hB)
 clear hQ hB HF HL hl
 go_wp2_with fail
 have h2:w2.cell? ⟨T,2,none⟩=some (.int .u32 0):=HQ.out.2.cell 2
 have f2:=HQ.out.2.frozen 2
 have hB3:Blk (w2.drew.setCell ⟨T,2,none⟩ (.int .u32 1)) T 129 ((txC J M 0 1 true).set 2 (.int .u32 1)):=Blk.set (w:=w2.drew) HQ.out.2 2 _
 have h3:(w2.drew.setCell ⟨T,2,none⟩ (.int .u32 1)).cell? ⟨T,3,none⟩=some (.int .i32 1):=hB3.cell 3
 have f3:=hB3.frozen 3
 refine leaves_cons (f:=97) (args:=#[.pointer (some ⟨T,2,none⟩),.bool true]) (by simp) (by simp[go_sem]) ?_
 refine(doneStore ⟨T,2,none⟩ (.int .u32 0) .returning _ h2 f2).mono ?_
 rintro e u' w3 ⟨rfl,rfl,rfl⟩
 refine leaves_cons (f:=158) (args:=#[.pointer (some ⟨T,3,none⟩)]) (by simp[settle]) (by simp[go_sem]) ?_
 refine(mxUnlock ⟨T,3,none⟩ _ _ h3 f3).mono ?_
 rintro e u' w4 ⟨rfl,rfl,rfl⟩
 have HR:∃w2',Q w2'∧Blk w2' T 129 (txC J M 0 1 true)∧(w2.drew.setCell ⟨T,2,none⟩ (.int .u32 1)).setCell ⟨T,3,none⟩ (.int .i32 0)=(w2'.drew.setCell ⟨T,2,none⟩ (.int .u32 1)).setCell ⟨T,3,none⟩ (.int .i32 0):=⟨w2,HQ.out.1,HQ.out.2,rfl⟩
 simp[Leaves,settle,results,Tryz.results116]
 exact HR
theorem onceFirst (T J M:Nat)(tr:Bool)(a1 a2:Addr)(Q:World→Prop)(w:World)(hb:Blk w T 129 (txC J M 0 0 tr))
  (hF:Calls Tryz.prog 81 #[.pointer (some a1),.pointer (some a2)] (w.setCell ⟨T,3,none⟩ (.int .i32 1)) fun e w'=>e=.returned (.tuple #[])∧Q w'∧Blk w' T 129 (txC J M 0 1 true)):
  Calls Tryz.prog 80 #[.pointer (some ⟨T,2,none⟩),.func (.func 81) #[] #[.pointer (some a1),.pointer (some a2)]] w fun e w'=>e=.returned (.tuple #[])∧∃w2,Q w2∧Blk w2 T 129 (txC J M 0 1 true)∧w'=(w2.drew.setCell ⟨T,2,none⟩ (.int .u32 1)).setCell ⟨T,3,none⟩ (.int .i32 0):=by
 have hl:=atLoadAt T 2 false w (hb.cell 2)
 have HS:=onceSlow T J M tr a1 a2 Q w hb hF
 clear hF hb
 go_enter Tryz.func80,Tryz.ntmps80
 go_wp2_with fail
 refine hl.mono ?_
 rintro e w1 ⟨rfl,rfl⟩
 go_wp2_with fail
 refine HS.mono ?_
 rintro e w2 ⟨rfl,hR⟩
 go_wp2_with fail
 go_end0
 exact⟨rfl,hR⟩
theorem onceDone (T J M:Nat)(lk:Int)(tr:Bool)(fv:Value)(w:World)(hb:Blk w T 129 (txC J M 1 lk tr)):
  Calls Tryz.prog 80 #[.pointer (some ⟨T,2,none⟩),fv] w fun e w'=>e=.returned (.tuple #[])∧w'=w:=by
 have hl:=atLoadAt T 2 true w (hb.cell 2)
 clear hb
 go_enter Tryz.func80,Tryz.ntmps80
 go_wp2_with fail
 refine hl.mono ?_
 rintro e w1 ⟨rfl,rfl⟩
 go_wp2_with fail
 go_end0
 exact⟨rfl,rfl⟩
def inE (t:Tl)(j:Jl):Int:=if j.dead=true then 51 else if t.l=[] then 0 else (cmC t j).2
def inJ (t:Tl)(j:Jl):Jl:=if j.dead=true then j else if t.l=[] then j else jCm t j
theorem codInner (w:World)(T J P base m:Nat)(t:Tl)(j:Jl)(M:Nat)(rest:List Value)(h:TIn w T J M t.l rest)(hj:JAt w J P base j)(hf:FewM j.p m)(hm:m≤80000)(h48:t.l.length≤48):
  Calls Tryz.prog 82 #[.pointer (some ⟨T,0,none⟩)] w fun e w'=>e=.returned (.int .i64 (inE t j))∧JAt w' J P base (inJ t j)∧KeepT JD w w'∧Below base w w':=by
 have c0:w.cell? ⟨T,0,none⟩=some (.pointer (some ⟨J,0,none⟩)):=h.blk.cell 0
 have c1:w.cell? ⟨T,1,none⟩=some (.map (some M)):=h.blk.cell 1
 have HLo:=atLoadAt J 2 j.dead w (hj.blk.cell 2)
 have HT:=mkHid h
 have HJ:=mkHid hj
 have HF:=mkHid hf
 have HLow:Hid (base≤w.heap.size):=hj.d.low
 have hln:(Builtin.len_ #[120] 3 #[.map (some M)]).run Tryz.prog w=.ok (.int .i64 (t.l.length:Int)) w:=by
  have:=h.own.len Tryz.underlying120 3
  rwa [mapD_size] at this
 clear h hj hf
 cases hd:j.dead with
 | true =>
  have HE:Hid (inE t j=51∧inJ t j=j):=by unfold Hid inE inJ;rw[if_pos hd,if_pos hd];exact⟨rfl,rfl⟩
  rw[hd] at HLo
  clear hd hln
  go_enter Tryz.func82,Tryz.ntmps82
  go_wp2_with fail
  refine HLo.mono ?_
  rintro e w1 ⟨rfl,rfl⟩
  go_wp2_with fail
  go_ret
  exact⟨by rw[HE.out.1];rfl,by rw[HE.out.2];exact HJ.out,KeepT.refl _ _,Below.refl _ _⟩
 | false =>
 rw[hd] at HLo
 by_cases hl0:t.l=[]
 ·have HE:Hid (inE t j=0∧inJ t j=j):=by unfold Hid inE inJ;rw[if_neg (by simp[hd]),if_pos hl0,if_neg (by simp[hd]),if_pos hl0];exact⟨rfl,rfl⟩
  have hz:(t.l.length:Int)=0:=by rw[hl0];rfl
  rw[hz] at hln
  clear hd hl0 hz
  go_enter Tryz.func82,Tryz.ntmps82
  go_wp2_with fail
  refine HLo.mono ?_
  rintro e w1 ⟨rfl,hw1⟩
  obtain rfl:=hw1.symm
  go_wp2_with fail
  go_ret
  exact⟨by rw[HE.out.1];rfl,by rw[HE.out.2];exact HJ.out,KeepT.refl _ _,Below.refl _ _⟩
 ·have HE:Hid (inE t j=(cmC t j).2∧inJ t j=jCm t j):=by unfold Hid inE inJ;rw[if_neg (by simp[hd]),if_neg hl0,if_neg (by simp[hd]),if_neg hl0];exact⟨rfl,rfl⟩
  have hlp:0<t.l.length:=List.length_pos_iff.2 hl0
  have hz:¬(t.l.length:Int)=0:=by omega
  have hKy:=codKeys (some M) w
  have hSo:=codSorted w M t.l HT.out.own HT.out.sort h48
  have HIJ:=fun W (hW:Below w.heap.size w W) (pa da:Option Addr) (pc dc:Nat) (hp:IsIs W pa t.l.length pc t.l) (hdt:IsDt W da t.l.length dc t.l)=>codJCommit W J P base m t j pa da t.l.length pc dc (HJ.out.on hW) HF.out hm h48 hp hdt (fun g hg=>by have:=(HT.out.ok g hg).2.2;omega)
  have HDa:=fun W (hW:Below w.heap.size w W) (pa:Option Addr) (pc:Nat) (hp:IsIs W pa t.l.length pc t.l)=>codData W T J M t.l rest (HT.out.on hW) t.l.length pc pa rfl h48 hp
  generalize (cmC t j).2=eC at *
  generalize jCm t j=jC at *
  obtain⟨n,hn⟩:∃n,n=t.l.length:=⟨_,rfl⟩
  rw[←hn] at hln hz hSo HIJ HDa h48
  clear hd hl0 hlp hn
  go_enter Tryz.func82,Tryz.ntmps82
  go_wp2_with fail
  refine HLo.mono ?_
  rintro e w1 ⟨rfl,hw1⟩
  obtain rfl:=hw1.symm
  go_wp2_with fail
  refine hKy.mono ?_
  rintro e w2 ⟨rfl,rfl⟩
  go_wp2_with fail
  refine hSo.mono ?_
  rintro e w3 ⟨pa,pc,rfl,hI3,hb3⟩
  have HI3:=mkHid hI3
  have HB3:=mkHid hb3
  clear hI3 hb3 hSo hKy HLo hln c0 c1
  go_wp2_with fail
  have HKP:∀w',Hid (KeepT JD w3 w'∧Below base w3 w')→Hid (KeepT JD w3 w'∧Below base w3 w')∧w'.cell? ⟨T,0,none⟩=some (.pointer (some ⟨J,0,none⟩)):=fun w' h=>⟨h,(h.out.1.blk (HT.out.on HB3.out).blk (by decide)).cell 0⟩
  have HLow3:Hid (base≤w3.heap.size):=Nat.le_trans HLow.out HB3.out.size
  have HK0:=mkHid (HKP _ (mkHid ⟨KeepT.of_below ((Below.refl _ w3).drew),((Below.refl _ w3).drew).mono HLow3.out⟩))
  have HDa2:∀W,Below w3.heap.size w3 W→Calls Tryz.prog 120 #[.pointer (some ⟨T,0,none⟩),.slice pa n pc] W fun e w'=>∃O,e=.returned (.slice (some ⟨O,0,none⟩) n n)∧Hid (IsDt w' (some ⟨O,0,none⟩) n n t.l)∧Hid (Below W.heap.size W w'):=fun W hW=>HDa W (HB3.out.trans (hW.mono HB3.out.size)) pa pc (HI3.out.on hW)
  have HIJ2:∀W O,Below w3.heap.size w3 W→IsDt W (some ⟨O,0,none⟩) n n t.l→Calls Tryz.prog 119 #[.pointer (some ⟨J,0,none⟩),.slice pa n pc,.slice (some ⟨O,0,none⟩) n n] W fun e w'=>e=.returned (.int .i64 eC)∧Hid (JAt w' J P base jC)∧Hid (KeepT JD W w')∧Hid (Below base W w'):=fun W O hW hO=>HIJ W (HB3.out.trans (hW.mono HB3.out.size)) pa (some ⟨O,0,none⟩) pc n (HI3.out.on hW) hO
  clear HDa HIJ
  go_region_held3 (fun w'=>Hid (KeepT JD w3 w'∧Below base w3 w')∧w'.cell? ⟨T,0,none⟩=some (.pointer (some ⟨J,0,none⟩)))
   (first|exact HK0.out|assumption|(have hq0:=‹Hid (KeepT _ _ _∧_)∧_›;exact HKP _ (mkHid ⟨hq0.1.out.1.trans hkx.out.1,hq0.1.out.2.trans hkx.out.2⟩)))
   (first
    | (go_at_call 120;have hq0:=‹Hid (KeepT _ _ _∧_)∧_›;refine(HDa2 _ ((Below.refl _ w3).drew)).mono ?_;rintro e y1 ⟨O,rfl,hO,hb1⟩;have hkx:=mkHid (And.intro (KeepT.of_below (ts:=JD) hb1.out) (hb1.out.mono (Nat.le_trans HLow3.out hq0.1.out.1.size)));have hw1:Hid (Below w3.heap.size w3 y1):=mkHid (((Below.refl _ w3).drew).trans hb1.out);clear hq0 hb1)
    | (go_at_call 119;refine(HIJ2 _ O hw1.out hO.out).mono ?_;rintro e y2 ⟨rfl,hJ2,hT2,hb2⟩;have hkx:=mkHid (And.intro hT2.out hb2.out);clear hT2 hb2))
  all_goals
   have hq9:=‹Hid (KeepT _ _ _∧_)∧_›
   go_wp2_with fail
   go_ret
   exact⟨by rw[HE.out.1];rfl,by rw[HE.out.2];exact hJ2.out,(KeepT.of_below HB3.out).trans hq9.1.out.1,(HB3.out.mono HLow.out).trans hq9.1.out.2⟩
end
section
open Go.RowKit Go.Maps
attribute [local go_sem ↓] zvJ arrJ
theorem codTWrite (w:World)(T J P base:Nat)(t:Tl)(j:Jl)(M:Nat)(tr:Bool)(i:Int)(ba:Option Addr)(bc:Nat)(b:List UInt8)(h:TAt w T J P base t j M tr)(hl:t.l.length≤48)(hn:j.p.n≤4096)(hi0 : -9223372036854775808≤i)(hi1:i≤9223372036854775807)(hB:IsB w ba b.length bc b):
  Calls Tryz.prog 56 #[.pointer (some ⟨T,0,none⟩),.int .i64 i,.slice ba b.length bc] w (TwPost w T J P base t j i b):=by
 have c0:w.cell? ⟨T,0,none⟩=some (.pointer (some ⟨J,0,none⟩)):=h.blk.cell 0
 have c1:w.cell? ⟨T,1,none⟩=some (.map (some M)):=h.blk.cell 1
 have c5:w.cell? ⟨T,5,none⟩=some (.bool tr):=h.blk.cell 5
 have HT:=mkHid h
 have HBy:=mkHid hB
 clear hB
 cases tr with
 | true =>
  have HZ:Hid (t.wrE j i b=51∧t.write j i b=t):=wr51 (by
   cases hd:j.dead with
   | true=>exact .inr rfl
   | false=>exact .inl (h.over hd).symm)
  clear h
  go_enter Tryz.func56,Tryz.ntmps56
  go_wp2_with fail
  go_ret
  exact twNo HT.out HZ.out (Below.refl _ _)
 | false =>
 have HLo:=atLoadAt J 2 j.dead w (h.ja.blk.cell 2)
 cases hd:j.dead with
 | true =>
  have HZ:Hid (t.wrE j i b=51∧t.write j i b=t):=wr51 (.inr hd)
  rw[hd] at HLo
  clear h
  go_enter Tryz.func56,Tryz.ntmps56
  go_wp2_with fail
  refine HLo.mono ?_
  rintro e w1 ⟨rfl,rfl⟩
  go_wp2_with fail
  go_ret
  exact twNo HT.out HZ.out (Below.refl _ _)
 | false =>
 have hov:¬(t.over=true∨j.dead=true):=by rw[←h.over hd,hd];simp
 have HZi:=codJSize w J P base j h.ja
 have HA:=codInArea i j.p.n w
 rw[hd] at HLo
 cases ha:areaI j.p.n i with
 | false =>
  have HZ:=mkHid (wr50 (b:=b) hov ha)
  rw[ha] at HA
  clear h hov hn
  generalize j.p.n=n at *
  go_enter Tryz.func56,Tryz.ntmps56
  go_wp2_with fail
  refine HLo.mono ?_
  rintro e w1 ⟨rfl,rfl⟩
  go_wp2_with fail
  refine HZi.mono ?_
  rintro e w2 ⟨rfl,hw2⟩
  obtain rfl:=hw2.symm
  go_wp2_with fail
  refine HA.mono ?_
  rintro e w3 ⟨rfl,hw3⟩
  obtain rfl:=hw3.symm
  go_wp2_with fail
  go_ret
  exact twNo HT.out HZ.out (Below.refl _ _)
 | true =>
 rw[ha] at HA
 by_cases hb5:b.length=512
 ·have hlk:=lookOk h.own hi0 hi1
  have hhit:hitQ t.l i.toNat=(Tl.find t.l i).isSome:=by
   have ha2:49≤i∧i<j.p.n:=by unfold areaI at ha;exact of_decide_eq_true ha
   have:=hit_find t.l i.toNat h.sort
   rwa [Int.toNat_of_nonneg (by omega)] at this
  obtain⟨C,hC,hCs,hCa⟩:∃C:Array Value,(Tl.find t.l i).elim (.agg zSec.toArray) secV=.agg C∧C.size=512∧C.all (·.oneCell')=true:=by
   cases hfd:Tl.find t.l i with
   | none=>exact⟨_,rfl,by rw[List.size_toArray,zSec_length],zAll⟩
   | some b0=>exact⟨_,rfl,by rw[List.size_toArray,bv_length,find_len hfd h.ok],bvAll9 b0⟩
  rw[hC,←hhit] at hlk
  have HRw:Hid (Blk (w.alloc (.cells zSec.toArray 152)) w.heap.size 152 zSec):=Blk.new w _ _
  have hS6:(Tryz.prog.info? 152).map (·.size)=some C.size:=by rw[hCs];exact infoJ
  have hS7:zSec.toArray.size=C.size:=by rw[hCs,List.size_toArray,zSec_length]
  have HS67:=mkHid (And.intro hS6 (And.intro hS7 hCa))
  have HD1:Hid (Below w.heap.size w ((w.alloc (.cells zSec.toArray 152)).setRow w.heap.size C)):=bel_row ((Below.refl _ w).alloc (Nat.le_refl _) _) (Nat.le_refl _) _
  have HAr:=mkHid ha
  have HN4:=mkHid hn
  have H5:=mkHid hb5
  obtain⟨bb,bo,rfl⟩:∃bb bo,ba=some ⟨bb,bo,none⟩:=by
   obtain⟨x,y,e,_⟩:=HBy.out.cells (by omega)
   exact⟨x,y,e⟩
  have hbz:(b.length:Int)=512:=by omega
  have hlen:(t.l.length:Int)≤48:=by omega
  have hhz:hitQ t.l i.toNat=false∧48≤t.l.length→_:=wr44 (b:=b) hov ha hb5
  have hhy:¬(hitQ t.l i.toNat=false∧48≤t.l.length)→_:=wr00 (b:=b) hov ha hb5
  have HKi:Hid (Lit.int .i64 i=keyQ i.toNat):=by
   have ha2:49≤i∧i<j.p.n:=by unfold areaI at ha;exact of_decide_eq_true ha
   unfold Hid keyQ
   rw[Int.toNat_of_nonneg (by omega)]
  have HL48:=mkHid hl
  have HLn:=(ownM_on h.own HD1.out).len Tryz.underlying120 3
  rw[mapD_size] at HLn
  have hd1:((w.alloc (.cells zSec.toArray 152)).setRow w.heap.size C).cell? ⟨T,1,none⟩=some (.map (some M)):=(HD1.out.cell (p:=⟨T,1,none⟩) (cell_lt c1)).trans c1
  rw[hb5] at HBy ⊢
  clear h hC hCs hCa hS6 hS7 hhit ha hn hov hbz hb5
  generalize hitQ t.l i.toNat=hit at *
  obtain⟨n,hn⟩:∃n,n=j.p.n:=⟨_,rfl⟩
  rw[←hn] at HZi HA
  clear hn
  cases hit with
  | true =>
   have HZ:=mkHid (hhy (fun e=>by cases e.1))
   clear hhy hhz
   go_enter Tryz.func56,Tryz.ntmps56
   go_wp2_with fail
   refine HLo.mono ?_
   rintro e w1 ⟨rfl,hw1⟩
   obtain rfl:=hw1.symm
   go_wp2_with fail
   refine HZi.mono ?_
   rintro e w2 ⟨rfl,hw2⟩
   obtain rfl:=hw2.symm
   go_wp2_with fail
   refine HA.mono ?_
   rintro e w3 ⟨rfl,hw3⟩
   obtain rfl:=hw3.symm
   go_upto_region 12 with(refine wpList_store_row rfl 152 _ _ rfl w.heap.size C rfl rfl _ _ HRw.out HS67.out.1 HS67.out.2.1 HS67.out.2.2 ?_)
   clear HRw HS67
   generalize (w.alloc (.cells zSec.toArray 152)).setRow w.heap.size C=W1 at *
   have k1:W1.cell? ⟨T,1,none⟩=some (.map (some M)):=(HD1.out.cell (p:=⟨T,1,none⟩) (cell_lt c1)).trans c1
   have HRg:Hid (W1.rangeAt bb bo (bv b)):=isB_range (HBy.out.below HD1.out rfl) (by omega)
   have HUp:Hid (∃w9,(Instr.mapUpdate 120 (.map (some M)) (.int .i64 i) (secV b)).run Tryz.prog W1.drew=.ok () w9∧w9.ownsMap Tryz.prog 3 secR M (t.l.length+1) ((mapD t.l).put (keyQ i.toNat) (.held (secV b)))∧W1.grownBy w9 (some M)):=by
    have hu:=(ownM_on HT.out.own HD1.out).drew.update (Maps.int_keyed Tryz.underlying3) Tryz.underlying120 (by unfold maxLen;have:=HL48.out;omega) (keyI hi0 hi1) (val:=secV b) (d:=.held (secV b)) (ps:=[]) rfl
    rw[HKi.out] at hu
    obtain⟨w9,q1,q2,q3⟩:=hu
    exact⟨w9,q1,q2,⟨q3.1,q3.2,q3.3,q3.4,fun k hk hne=>q3.5 k hk hne⟩⟩
   have HSd:Hid (∀w9,W1.grownBy w9 (some M)→w9.cell? ⟨T,1,none⟩=some (.map (some M))∧w9.rangeAt bb bo (bv b)):=fun w9 hg=>by
    have hko:=map_keepO (ownM_on HT.out.own HD1.out) hg
    obtain⟨cc,ty,fz,hcc⟩:=range_lt HRg.out (by rw[bv_length,H5.out];omega)
    refine⟨((hko [129]).blk (HT.out.on HD1.out).blk (by simp)).cell 1,fun k v hv=>?_⟩
    have h1:=HRg.out k v hv
    have h2:=(hko [ty]).same bb cc ty fz hcc (by simp)
    rw[←h1]
    unfold World.cell?
    rw[h2,hcc]
   clear c0 c1 c5 hlk HLo HZi HA HLn
   refine wp_region_noPanic ?_
   refine wp_region_held_drew (S:=fun w'=>w'.cell? ⟨T,1,none⟩=some (.map (some M))∧w'.rangeAt bb bo (bv b)) (by kernel_rfl) ⟨k1,HRg.out⟩ (fun hHeld=>?_)
   refine takeH (some 54) (i:=0) (v:=?_) rfl (by kernel_rfl) (by kernel_rfl) (by kernel_rfl) (fun _ _ _ h=>h) (Or.inl ⟨by rfl,?_⟩) hHeld rfl ?_
   rotate_left
   ·intro w hSw;have hS1:=hSw.1;go_simp;with_reducible rfl
   (try simp only[Act.put]);(try simp only[sIx]);(try simp only[sZ0,sZ1])
   refine takeH (some 55) (i:=1) (v:=?_) rfl (by kernel_rfl) (by kernel_rfl) (by kernel_rfl) (fun _ _ _ h=>h) (Or.inl ⟨by rfl,?_⟩) hHeld rfl ?_
   rotate_left
   ·intro w hSw;have hS1:=hSw.1;go_simp;with_reducible rfl
   (try simp only[Act.put]);(try simp only[sIx]);(try simp only[sZ0,sZ1])
   refine takeH (some 56) (i:=2) (v:=?_) rfl (by kernel_rfl) (by kernel_rfl) (by kernel_rfl) (fun _ _ _ h=>h) (Or.inl ⟨by rfl,?_⟩) hHeld rfl ?_
   rotate_left
   ·intro w hSw;have hS1:=hSw.1;go_simp;with_reducible rfl
   (try simp only[Act.put]);(try simp only[sIx]);(try simp only[sZ0,sZ1])
   refine takeH (some 57) (i:=3) (v:=?_) rfl (by kernel_rfl) (by kernel_rfl) (by kernel_rfl) (fun _ _ _ h=>h) (Or.inl ⟨by rfl,?_⟩) hHeld rfl ?_
   rotate_left
   ·intro w hSw;have hS1:=hSw.1;go_simp;with_reducible rfl
   (try simp only[Act.put]);(try simp only[sIx]);(try simp only[sZ0,sZ1])
   refine takeH (some 58) (i:=4) (v:=?_) rfl (by kernel_rfl) (by kernel_rfl) (by kernel_rfl) (fun _ _ _ h=>h) (Or.inl ⟨by rfl,?_⟩) hHeld rfl ?_
   rotate_left
   ·intro w hSw;have hS1:=hSw.1;go_simp;with_reducible rfl
   (try simp only[Act.put]);(try simp only[sIx]);(try simp only[sZ0,sZ1])
   refine takeH (some 59) (i:=5) (v:=?_) rfl (by kernel_rfl) (by kernel_rfl) (by kernel_rfl) (fun _ _ _ h=>h) (Or.inl ⟨by rfl,?_⟩) hHeld rfl ?_
   rotate_left
   ·intro w hSw;have hS1:=hSw.1;go_simp;with_reducible rfl
   (try simp only[Act.put]);(try simp only[sIx]);(try simp only[sZ0,sZ1])
   refine takeH (some 60) (i:=6) (v:=?_) rfl (by kernel_rfl) (by kernel_rfl) (by kernel_rfl) (fun _ _ _ h=>h) (Or.inl ⟨by rfl,?_⟩) hHeld rfl ?_
   rotate_left
   ·intro w hSw;have hS1:=hSw.1;go_simp;with_reducible rfl
   (try simp only[Act.put]);(try simp only[sIx]);(try simp only[sZ0,sZ1])
   refine takeH (some 61) (i:=7) (v:=.agg (bv b).toArray) rfl (by kernel_rfl) (by kernel_rfl) (by kernel_rfl) (fun _ _ _ h=>h) (yieldsIf_load_mid (by rfl) 152 (.tmp 60) (by rfl) bb bo (by rfl) (bv b) _ (fun w1 hw1=>hw1.2) Tryz.underlying152 rfl (infoJOf H5.out)) hHeld rfl ?_
   (try simp only[Act.put]);(try simp only[sIx]);(try simp only[sZ0,sZ1])
   obtain⟨w9,hrun,hM9,hg9⟩:=HUp.out
   refine oneH 8 rfl (by kernel_rfl) (by rfl) (stepMapUp (.tmp 57) (.tmp 58) (.tmp 61) 120 rfl (vm:=.map (some M)) (key:=.int .i64 i) (val:=secV b) rfl rfl rfl hrun none rfl ⟨?_,?_⟩)
   ·exact HSd.out w9 hg9
   ·refine wpAnyH_done (by kernel_rfl) ?_ _
    refine NoPanic.normal ?_
    have HP:=mkHid (twYes HT.out HD1.out HZ.out HAr.out HN4.out H5.out hM9 hg9)
    clear hM9 hg9 hrun
    (try simp only[Act.put]);(try simp only[sIx]);(try simp only[sZ0,sZ1])
    go_wp2_with fail
    go_ret
    exact HP.out
  | false =>
   obtain⟨ln,hln⟩:∃ln,ln=t.l.length:=⟨_,rfl⟩
   rw[←hln] at HLn hlen hl
   by_cases h48:ln=48
   ·have HZ:=mkHid (hhz ⟨rfl,by omega⟩)
    have h48z:(ln:Int)=48:=by omega
    clear hhy hhz hln
    rw[h48z] at HLn
    clear h48 h48z hlen
    go_enter Tryz.func56,Tryz.ntmps56
    go_wp2_with fail
    refine HLo.mono ?_
    rintro e w1 ⟨rfl,hw1⟩
    obtain rfl:=hw1.symm
    go_wp2_with fail
    refine HZi.mono ?_
    rintro e w2 ⟨rfl,hw2⟩
    obtain rfl:=hw2.symm
    go_wp2_with fail
    refine HA.mono ?_
    rintro e w3 ⟨rfl,hw3⟩
    obtain rfl:=hw3.symm
    go_wp2_with (refine wpList_store_row rfl 152 _ _ rfl w.heap.size C rfl rfl _ _ HRw.out HS67.out.1 HS67.out.2.1 HS67.out.2.2 ?_)
    go_ret
    exact twNo HT.out HZ.out HD1.out
   ·have HZ:=mkHid (hhy (fun e=>by have:=e.2;omega))
    have h48z:¬(ln:Int)=48:=by omega
    clear hhy hhz hln
    go_enter Tryz.func56,Tryz.ntmps56
    go_wp2_with fail
    refine HLo.mono ?_
    rintro e w1 ⟨rfl,hw1⟩
    obtain rfl:=hw1.symm
    go_wp2_with fail
    refine HZi.mono ?_
    rintro e w2 ⟨rfl,hw2⟩
    obtain rfl:=hw2.symm
    go_wp2_with fail
    refine HA.mono ?_
    rintro e w3 ⟨rfl,hw3⟩
    obtain rfl:=hw3.symm
    go_upto_region 12 with(refine wpList_store_row rfl 152 _ _ rfl w.heap.size C rfl rfl _ _ HRw.out HS67.out.1 HS67.out.2.1 HS67.out.2.2 ?_)
    clear HRw HS67
    generalize (w.alloc (.cells zSec.toArray 152)).setRow w.heap.size C=W1 at *
    have k1:W1.cell? ⟨T,1,none⟩=some (.map (some M)):=(HD1.out.cell (p:=⟨T,1,none⟩) (cell_lt c1)).trans c1
    have HRg:Hid (W1.rangeAt bb bo (bv b)):=isB_range (HBy.out.below HD1.out rfl) (by omega)
    have HUp:Hid (∃w9,(Instr.mapUpdate 120 (.map (some M)) (.int .i64 i) (secV b)).run Tryz.prog W1.drew=.ok () w9∧w9.ownsMap Tryz.prog 3 secR M (t.l.length+1) ((mapD t.l).put (keyQ i.toNat) (.held (secV b)))∧W1.grownBy w9 (some M)):=by
     have hu:=(ownM_on HT.out.own HD1.out).drew.update (Maps.int_keyed Tryz.underlying3) Tryz.underlying120 (by unfold maxLen;have:=HL48.out;omega) (keyI hi0 hi1) (val:=secV b) (d:=.held (secV b)) (ps:=[]) rfl
     rw[HKi.out] at hu
     obtain⟨w9,q1,q2,q3⟩:=hu
     exact⟨w9,q1,q2,⟨q3.1,q3.2,q3.3,q3.4,fun k hk hne=>q3.5 k hk hne⟩⟩
    have HSd:Hid (∀w9,W1.grownBy w9 (some M)→w9.cell? ⟨T,1,none⟩=some (.map (some M))∧w9.rangeAt bb bo (bv b)):=fun w9 hg=>by
     have hko:=map_keepO (ownM_on HT.out.own HD1.out) hg
     obtain⟨cc,ty,fz,hcc⟩:=range_lt HRg.out (by rw[bv_length,H5.out];omega)
     refine⟨((hko [129]).blk (HT.out.on HD1.out).blk (by simp)).cell 1,fun k v hv=>?_⟩
     have h1:=HRg.out k v hv
     have h2:=(hko [ty]).same bb cc ty fz hcc (by simp)
     rw[←h1]
     unfold World.cell?
     rw[h2,hcc]
    clear c0 c1 c5 hlk HLo HZi HA HLn
    refine wp_region_noPanic ?_
    refine wp_region_held_drew (S:=fun w'=>w'.cell? ⟨T,1,none⟩=some (.map (some M))∧w'.rangeAt bb bo (bv b)) (by kernel_rfl) ⟨k1,HRg.out⟩ (fun hHeld=>?_)
    refine takeH (some 54) (i:=0) (v:=?_) rfl (by kernel_rfl) (by kernel_rfl) (by kernel_rfl) (fun _ _ _ h=>h) (Or.inl ⟨by rfl,?_⟩) hHeld rfl ?_
    rotate_left
    ·intro w hSw;have hS1:=hSw.1;go_simp;with_reducible rfl
    (try simp only[Act.put]);(try simp only[sIx]);(try simp only[sZ0,sZ1])
    refine takeH (some 55) (i:=1) (v:=?_) rfl (by kernel_rfl) (by kernel_rfl) (by kernel_rfl) (fun _ _ _ h=>h) (Or.inl ⟨by rfl,?_⟩) hHeld rfl ?_
    rotate_left
    ·intro w hSw;have hS1:=hSw.1;go_simp;with_reducible rfl
    (try simp only[Act.put]);(try simp only[sIx]);(try simp only[sZ0,sZ1])
    refine takeH (some 56) (i:=2) (v:=?_) rfl (by kernel_rfl) (by kernel_rfl) (by kernel_rfl) (fun _ _ _ h=>h) (Or.inl ⟨by rfl,?_⟩) hHeld rfl ?_
    rotate_left
    ·intro w hSw;have hS1:=hSw.1;go_simp;with_reducible rfl
    (try simp only[Act.put]);(try simp only[sIx]);(try simp only[sZ0,sZ1])
    refine takeH (some 57) (i:=3) (v:=?_) rfl (by kernel_rfl) (by kernel_rfl) (by kernel_rfl) (fun _ _ _ h=>h) (Or.inl ⟨by rfl,?_⟩) hHeld rfl ?_
    rotate_left
    ·intro w hSw;have hS1:=hSw.1;go_simp;with_reducible rfl
    (try simp only[Act.put]);(try simp only[sIx]);(try simp only[sZ0,sZ1])
    refine takeH (some 58) (i:=4) (v:=?_) rfl (by kernel_rfl) (by kernel_rfl) (by kernel_rfl) (fun _ _ _ h=>h) (Or.inl ⟨by rfl,?_⟩) hHeld rfl ?_
    rotate_left
    ·intro w hSw;have hS1:=hSw.1;go_simp;with_reducible rfl
    (try simp only[Act.put]);(try simp only[sIx]);(try simp only[sZ0,sZ1])
    refine takeH (some 59) (i:=5) (v:=?_) rfl (by kernel_rfl) (by kernel_rfl) (by kernel_rfl) (fun _ _ _ h=>h) (Or.inl ⟨by rfl,?_⟩) hHeld rfl ?_
    rotate_left
    ·intro w hSw;have hS1:=hSw.1;go_simp;with_reducible rfl
    (try simp only[Act.put]);(try simp only[sIx]);(try simp only[sZ0,sZ1])
    refine takeH (some 60) (i:=6) (v:=?_) rfl (by kernel_rfl) (by kernel_rfl) (by kernel_rfl) (fun _ _ _ h=>h) (Or.inl ⟨by rfl,?_⟩) hHeld rfl ?_
    rotate_left
    ·intro w hSw;have hS1:=hSw.1;go_simp;with_reducible rfl
    (try simp only[Act.put]);(try simp only[sIx]);(try simp only[sZ0,sZ1])
    refine takeH (some 61) (i:=7) (v:=.agg (bv b).toArray) rfl (by kernel_rfl) (by kernel_rfl) (by kernel_rfl) (fun _ _ _ h=>h) (yieldsIf_load_mid (by rfl) 152 (.tmp 60) (by rfl) bb bo (by rfl) (bv b) _ (fun w1 hw1=>hw1.2) Tryz.underlying152 rfl (infoJOf H5.out)) hHeld rfl ?_
    (try simp only[Act.put]);(try simp only[sIx]);(try simp only[sZ0,sZ1])
    obtain⟨w9,hrun,hM9,hg9⟩:=HUp.out
    refine oneH 8 rfl (by kernel_rfl) (by rfl) (stepMapUp (.tmp 57) (.tmp 58) (.tmp 61) 120 rfl (vm:=.map (some M)) (key:=.int .i64 i) (val:=secV b) rfl rfl rfl hrun none rfl ⟨?_,?_⟩)
    ·exact HSd.out w9 hg9
    ·refine wpAnyH_done (by kernel_rfl) ?_ _
     refine NoPanic.normal ?_
     have HP:=mkHid (twYes HT.out HD1.out HZ.out HAr.out HN4.out H5.out hM9 hg9)
     clear hM9 hg9 hrun
     (try simp only[Act.put]);(try simp only[sIx]);(try simp only[sZ0,sZ1])
     go_wp2_with fail
     go_ret
     exact HP.out
 ·have HZ:=mkHid (wr1 (b:=b) hov ha hb5)
  have hb6:¬(b.length:Int)=512:=by omega
  clear h hov hn ha
  generalize j.p.n=n at *
  generalize hbn:b.length=bn at *
  clear hbn
  go_enter Tryz.func56,Tryz.ntmps56
  go_wp2_with fail
  refine HLo.mono ?_
  rintro e w1 ⟨rfl,rfl⟩
  go_wp2_with fail
  refine HZi.mono ?_
  rintro e w2 ⟨rfl,hw2⟩
  obtain rfl:=hw2.symm
  go_wp2_with fail
  refine HA.mono ?_
  rintro e w3 ⟨rfl,hw3⟩
  obtain rfl:=hw3.symm
  go_wp2_with fail
  go_ret
  exact twNo HT.out HZ.out (Below.refl _ _)
end
section
open Go.RowKit
abbrev CD:List TypeId:=[109,159,200,117,129,30]
abbrev CF:List TypeId:=[109,159,200,117,129]
theorem JAt.keepD {w w':World}{J P base:Nat}{j:Jl}(h:JAt w J P base j){ts:List TypeId}(hk:KeepT ts w w')(h0:117∉ts)(h1:109∉ts)(h2:159∉ts)(h3:200∉ts):JAt w' J P base j:=⟨hk.blk h.blk h0,h.low,h.d.keep hk h1 h2 h3,h.seq⟩
theorem u10_tx:∀t∈U10,t∉[129]:=by decide
theorem u10_cf:∀t∈U10,t∉CF:=by decide
structure InQ (w w':World)(T J P base M A2:Nat)(t:Tl)(j:Jl):Prop where
 ja:JAt w' J P base (inJ t j)
 own:OwnM w' M t.l
 e:Blk w' A2 30 [.int .i64 (inE t j)]
 k:KeepT CD w w'
 b:Below base w w'
 o:∀(k:Nat) (o:Obj),k≠A2→w.heap[k]?=some o→(∀c t fz,o=.cells c t fz→t∉CF)→w'.heap[k]?=some o
theorem codClosure (w:World)(T J P base m:Nat)(t:Tl)(j:Jl)(M A1 A2:Nat)(tr:Bool)(hT:Blk w T 129 (txC J M 0 1 tr))(hlT:base≤T)(hown:OwnM w M t.l)(hs:SortQ t.l)(hok:∀g∈t.l,g.2.length=512∧49≤g.1∧g.1<4096)(hj:JAt w J P base j)(hf:FewM j.p m)(hm:m≤80000)(h48:t.l.length≤48)(h1:Blk w A1 81 [.pointer (some ⟨T,0,none⟩)])(h2:Blk w A2 30 [.int .i64 51])(hl2:base≤A2):
  Calls Tryz.prog 81 #[.pointer (some ⟨A1,0,none⟩),.pointer (some ⟨A2,0,none⟩)] w fun e w'=>e=.returned (.tuple #[])∧InQ w w' T J P base M A2 t j∧Blk w' T 129 (txC J M 0 1 true):=by
 have hA:w.cell? ⟨A1,0,none⟩=some (.pointer (some ⟨T,0,none⟩)):=h1.cell 0
 have hTc:w.cell? ⟨T,5,none⟩=some (.bool tr):=hT.cell 5
 have hTf:=hT.frozen 5
 have HT1:Hid (Blk (w.setCell ⟨T,5,none⟩ (.bool true)) T 129 (txC J M 0 1 true)):=hT.set 5 (.bool true)
 have hK1:KeepT [129] w (w.setCell ⟨T,5,none⟩ (.bool true)):=(KeepT.refl _ w).set hT (by simp) 5 _
 have HB1:Hid (Below base w (w.setCell ⟨T,5,none⟩ (.bool true))):=bel_one (gr_cell w T 5 _) hlT hT.lt
 have HK1:=mkHid hK1
 have HA1:=mkHid (hK1.blk h1 (by decide))
 have HA2:=mkHid (hK1.blk h2 (by decide))
 have HIn:Hid (TIn (w.setCell ⟨T,5,none⟩ (.bool true)) T J M t.l [.int .u32 0,.int .i32 1,.int .u32 0,.bool true]):=⟨HT1.out,ownM_keep hown hK1,hs,hok⟩
 have HJ:=mkHid (hj.keepD hK1 (by decide) (by decide) (by decide) (by decide))
 have HLA:=mkHid hl2
 clear hT hown hs hok hj h1 h2 hK1 hlT hl2
 go_enter Tryz.func81,Tryz.ntmps81
 go_upto_region 1 with fail
 generalize w.setCell ⟨T,5,none⟩ (.bool true)=w1 at *
 have hA1:w1.cell? ⟨A1,0,none⟩=some (.pointer (some ⟨T,0,none⟩)):=HA1.out.cell 0
 have HC:=codInner w1 T J P base m t j M _ HIn.out HJ.out hf hm h48
 clear hA hTc hTf
 obtain⟨eI,heI⟩:∃eI,eI=inE t j:=⟨_,rfl⟩
 obtain⟨jI,hjI⟩:∃jI,jI=inJ t j:=⟨_,rfl⟩
 rw[←heI,←hjI] at HC
 have HeI:=mkHid heI
 have HjI:=mkHid hjI
 clear heI hjI
 go_wp2_with fail
 refine HC.mono ?_
 rintro e w2 ⟨rfl,hJ2,hK2,hB2⟩
 have HJ2:=mkHid hJ2
 have HK2:=mkHid hK2
 have HA22:=mkHid (hK2.blk HA2.out (by decide))
 have HT2:=mkHid (hK2.blk HT1.out (by decide))
 have HO2:=mkHid (ownM_keep HIn.out.own hK2)
 have c2:w2.cell? ⟨A2,0,none⟩=some (.int .i64 51):=HA22.out.cell 0
 have f2:=HA22.out.frozen 0
 have hK3:KeepT [30] w2 (w2.setCell ⟨A2,0,none⟩ (.int .i64 eI)):=(KeepT.refl _ w2).set HA22.out (by simp) 0 _
 have HR:Hid (JAt (w2.setCell ⟨A2,0,none⟩ (.int .i64 eI)) J P base jI∧OwnM (w2.setCell ⟨A2,0,none⟩ (.int .i64 eI)) M t.l∧Blk (w2.setCell ⟨A2,0,none⟩ (.int .i64 eI)) A2 30 [.int .i64 eI]∧KeepT CD w (w2.setCell ⟨A2,0,none⟩ (.int .i64 eI))∧Below base w (w2.setCell ⟨A2,0,none⟩ (.int .i64 eI))∧Blk (w2.setCell ⟨A2,0,none⟩ (.int .i64 eI)) T 129 (txC J M 0 1 true)∧∀(k:Nat) (o:Obj),k≠A2→w.heap[k]?=some o→(∀c t fz,o=.cells c t fz→t∉CF)→(w2.setCell ⟨A2,0,none⟩ (.int .i64 eI)).heap[k]?=some o):=
  ⟨HJ2.out.keepD hK3 (by decide) (by decide) (by decide) (by decide),ownM_keep HO2.out hK3,HA22.out.set 0 _,((HK1.out.wide (by decide)).trans (HK2.out.wide (by decide))).trans (hK3.wide (by decide)),(HB1.out.trans hB2).trans (bel_one (gr_cell w2 A2 0 _) HLA.out HA22.out.lt),hK3.blk HT2.out (by decide),fun k o hk ho hc=>(Below.heap_setCell _ _ _ _ hk).trans (((HK1.out.wide (by decide):KeepT CF _ _).trans (HK2.out.wide (by decide))).same k o ho hc)⟩
 clear hJ2 hK2 hB2 HC hK3 HJ2 HK2 HA22 HT2 HO2
 go_wp2_with fail
 go_end0
 exact⟨rfl,⟨by rw[←HjI.out];exact HR.out.1,HR.out.2.1,by rw[←HeI.out];exact HR.out.2.2.1,HR.out.2.2.2.1,HR.out.2.2.2.2.1,HR.out.2.2.2.2.2.2⟩,HR.out.2.2.2.2.2.1⟩
theorem cm_dead {t:Tl}{j:Jl}(h:t.over=true∨j.dead=true):cmE t j=51∧cmT t j=t∧cmJ t j=j:=by
 unfold cmE cmT cmJ;rw[if_pos h,if_pos h,if_pos h];exact⟨rfl,rfl,rfl⟩
theorem cm_in {t:Tl}{j:Jl}(hd:j.dead=false)(ho:t.over=false):cmE t j=inE t j∧cmT t j={ t with over:=true }∧cmJ t j=inJ t j:=by
 have hn:¬(t.over=true∨j.dead=true):=by simp[hd,ho]
 have hn2:¬j.dead=true:=by simp[hd]
 refine⟨?_,?_,?_⟩
 ·unfold cmE inE;rw[if_neg hn,if_neg hn2]
 ·unfold cmT;rw[if_neg hn]
 ·unfold cmJ inJ jCm;rw[if_neg hn,if_neg hn2]
theorem inJ_p {t:Tl}{j:Jl}(hd:j.dead=true):inE t j=51∧inJ t j=j:=by
 unfold inE inJ;rw[if_pos hd,if_pos hd];exact⟨rfl,rfl⟩
theorem TAt.txB {w:World}{T J P base:Nat}{t:Tl}{j:Jl}{M:Nat}{tr:Bool}(h:TAt w T J P base t j M tr):Blk w T 129 (txC J M (flag tr) 0 tr):=h.blk
theorem codCommit (w:World)(T J P base m:Nat)(t:Tl)(j:Jl)(h:TAx w T J P base t j)(hf:FewM j.p m)(hm:m≤80000)(h48:t.l.length≤48):
  Calls Tryz.prog 54 #[.pointer (some ⟨T,0,none⟩)] w fun e w'=>e=.returned (.int .i64 (cmE t j))∧TAx w' T J P base (cmT t j) (cmJ t j)∧KP base w w':=by
 obtain⟨M,tr,h⟩:=h
 have HT:=mkHid h
 have HLow:Hid (base≤w.heap.size):=h.ja.d.low
 have HF:=mkHid hf
 clear h hf
 have KB1:Hid (Blk ((w.alloc (.cells #[.pointer (some ⟨T,0,none⟩)] 81)).alloc (.cells #[.int .i64 51] 30)) w.heap.size 81 [.pointer (some ⟨T,0,none⟩)]):=(Blk.new w _ _).alloc _
 have KB2:Hid (Blk ((w.alloc (.cells #[.pointer (some ⟨T,0,none⟩)] 81)).alloc (.cells #[.int .i64 51] 30)) (w.heap.size+1) 30 [.int .i64 51]):=Blk.newAt _ _ _ _ _ (by simp) rfl
 have HB:Hid (Below w.heap.size w ((w.alloc (.cells #[.pointer (some ⟨T,0,none⟩)] 81)).alloc (.cells #[.int .i64 51] 30))):=((Below.refl _ w).alloc (Nat.le_refl _) _).alloc (by simp) _
 go_enter Tryz.func54,Tryz.ntmps54
 go_upto_region 4 with fail
 generalize (w.alloc (.cells #[.pointer (some ⟨T,0,none⟩)] 81)).alloc (.cells #[.int .i64 51] 30)=w1 at *
 have HT1:=mkHid (HT.out.on HB.out)
 have HLA:Hid (base≤w.heap.size+1):=Nat.le_succ_of_le HLow.out
 obtain⟨A2,hA2⟩:∃A2,A2=w.heap.size+1:=⟨_,rfl⟩
 have HNe:Hid (∀(k:Nat) (o:Obj),w.heap[k]?=some o→k≠A2):=fun k o hk=>by have:=(Array.getElem?_eq_some_iff.1 hk).1;omega
 rw[←hA2] at KB2 HLA ⊢
 clear hA2
 have HKw:Hid (KP base w w1):=KP.of_below HB.out HLow.out
 clear HT HB
 generalize w.heap.size=A1 at *
 have hA1:w1.cell? ⟨A1,0,none⟩=some (.pointer (some ⟨T,0,none⟩)):=KB1.out.cell 0
 cases tr with
 | true =>
  have HE:Hid (cmE t j=51∧cmT t j=t∧cmJ t j=j):=cm_dead (by
   cases hd:j.dead with
   | true=>exact .inr rfl
   | false=>exact .inl (HT1.out.over hd).symm)
  have hA2:w1.cell? ⟨A2,0,none⟩=some (.int .i64 51):=KB2.out.cell 0
  have HD:=fun fv=>onceDone T J M 0 true fv w1 HT1.out.txB
  have hmf:=mkF0
  go_wp2_with fail
  refine(HD _).mono ?_
  rintro e w2 ⟨rfl,hw2⟩
  obtain rfl:=hw2.symm
  go_wp2_with fail
  go_ret
  exact⟨by rw[HE.out.1];rfl,by rw[HE.out.2.1,HE.out.2.2];exact⟨M,true,HT1.out⟩,HKw.out⟩
 | false =>
  have hK3:KeepT [129] w1 (w1.setCell ⟨T,3,none⟩ (.int .i32 1)):=(KeepT.refl _ w1).set HT1.out.txB (by simp) 3 _
  have hB3:Below base w1 (w1.setCell ⟨T,3,none⟩ (.int .i32 1)):=bel_one (gr_cell w1 T 3 _) HT1.out.low HT1.out.blk.lt
  have HCl:=codClosure (w1.setCell ⟨T,3,none⟩ (.int .i32 1)) T J P base m t j M A1 A2 false (HT1.out.txB.set 3 _) HT1.out.low (ownM_keep HT1.out.own hK3) HT1.out.sort HT1.out.ok (HT1.out.ja.keepD hK3 (by decide) (by decide) (by decide) (by decide)) HF.out hm h48 (hK3.blk KB1.out (by decide)) (hK3.blk KB2.out (by decide)) HLA.out
  have HO:=onceFirst T J M false ⟨A1,0,none⟩ ⟨A2,0,none⟩ (fun w2=>InQ (w1.setCell ⟨T,3,none⟩ (.int .i32 1)) w2 T J P base M A2 t j) w1 HT1.out.txB HCl
  have HK3:=mkHid (And.intro hK3 hB3)
  have hmf:=mkF0
  clear hK3 hB3 HCl
  go_wp2_with fail
  refine HO.mono ?_
  rintro e w4 ⟨rfl,w2,hQ,hT2,hw4⟩
  have hK5:KeepT [129] w2 w4:=by
   rw[hw4]
   have hd:KeepT [129] w2 w2.drew:=KeepT.of_below ((Below.refl _ w2).drew)
   have h1:Blk w2.drew T 129 (txC J M 0 1 true):=hT2
   have h2:=h1.set 2 (.int .u32 1)
   exact(hd.set h1 (by simp) 2 _).set h2 (by simp) 3 _
  have hT4:Blk w4 T 129 (txC J M 1 0 true):=by
   rw[hw4]
   have h1:Blk w2.drew T 129 (txC J M 0 1 true):=hT2
   exact(h1.set 2 (.int .u32 1)).set 3 (.int .i32 0)
  have hB4:Below base w2 w4:=by
   rw[hw4]
   have h1:Blk w2.drew T 129 (txC J M 0 1 true):=hT2
   have h2:=h1.set 2 (.int .u32 1)
   have hd:Below base w2 w2.drew:=((Below.refl _ w2).drew).mono (by have:=HT1.out.low;have:=hT2.lt;omega)
   exact(hd.trans (bel_one (gr_cell w2.drew T 2 _) HT1.out.low h1.lt)).trans (bel_one (gr_cell _ T 3 _) HT1.out.low h2.lt)
  have hE4:Blk w4 A2 30 [.int .i64 (inE t j)]:=hK5.blk hQ.e (by decide)
  have hJ4:JAt w4 J P base (inJ t j):=hQ.ja.keepD hK5 (by decide) (by decide) (by decide) (by decide)
  have hO4:OwnM w4 M t.l:=ownM_keep hQ.own hK5
  have hKP:KP base w w4:=by
   refine⟨⟨Nat.le_trans HKw.out.o.size (Nat.le_trans HK3.out.1.size (Nat.le_trans hQ.k.size hK5.size)),fun k c ty fz hk ht=>?_,fun k o hk hc=>?_⟩,HKw.out.b.trans (HK3.out.2.trans (hQ.b.trans hB4))⟩
   ·have h1:=HK3.out.1.same k _ (HKw.out.o.same k c ty fz hk ht) (fun c' t' fz' e=>by injection e with _ h2 _;rw[←h2];exact u10_tx ty ht)
    exact hK5.same k _ (hQ.o k _ (HNe.out k _ hk) h1 (fun c' t' fz' e=>by injection e with _ h2 _;rw[←h2];exact u10_cf ty ht)) (fun c' t' fz' e=>by injection e with _ h2 _;rw[←h2];exact u10_tx ty ht)
   ·have h1:=HK3.out.1.same k _ (HKw.out.o.ctl k o hk hc) (fun c' t' fz' e=>by subst e;cases hc)
    exact hK5.same k _ (hQ.o k _ (HNe.out k _ hk) h1 (fun c' t' fz' e=>by subst e;cases hc)) (fun c' t' fz' e=>by subst e;cases hc)
  have hA2:w4.cell? ⟨A2,0,none⟩=some (.int .i64 (inE t j)):=hE4.cell 0
  have HR:Hid (inE t j=cmE t j∧TAx w4 T J P base (cmT t j) (cmJ t j)∧KP base w w4):=by
   cases hd:j.dead with
   | true =>
    obtain⟨e1,e2,e3⟩:=cm_dead (t:=t) (j:=j) (.inr hd)
    obtain⟨e4,e5⟩:=inJ_p (t:=t) hd
    rw[e5] at hJ4
    exact⟨by rw[e1,e4],by rw[e2,e3];exact⟨M,true,⟨hJ4,hT4,HT1.out.low,HT1.out.lowM,hO4,HT1.out.sort,HT1.out.ok,fun h=>by rw[hd] at h;cases h⟩⟩,hKP⟩
   | false =>
    obtain⟨e1,e2,e3⟩:=cm_in (t:=t) hd (HT1.out.over hd).symm
    exact⟨e1.symm,by rw[e2,e3];exact⟨M,true,⟨hJ4,hT4,HT1.out.low,HT1.out.lowM,hO4,HT1.out.sort,HT1.out.ok,fun _=>rfl⟩⟩,hKP⟩
  clear hK5 hT4 hB4 hE4 hJ4 hO4 hKP hw4 hQ hT2 HO
  generalize inE t j=eI at *
  go_wp2_with fail
  go_ret
  exact⟨by rw[←HR.out.1];rfl,HR.out.2.1,HR.out.2.2⟩
end
end Go.Proofs.YtpecobmfabmpkaaGreatDoor
