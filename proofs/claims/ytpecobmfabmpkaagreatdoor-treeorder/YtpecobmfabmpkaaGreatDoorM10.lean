/- PjN PjQ Pj3 -/
import Derived.Test.YtpecobmfabmpkaaGreatDoorM9
set_option maxRecDepth 20000
set_option maxHeartbeats 4000000
namespace Go.Proofs.YtpecobmfabmpkaaGreatDoor
section
open Go.RowKit
def SdPost (w:World)(p:Pl)(b:List UInt8)(e:Ending)(w':World):Prop :=
 ∃(s n pc nd dc:Nat) (pa da:Option Addr) (hold:Bool),e=.returned (.tuple #[.agg #[.int .u64 (s:Int),.slice pa n pc,.slice da nd dc],.bool hold])∧Below w.heap.size w w' ∧
  match heldB p b with
  | none=>hold=false
  | some (s',l)=>hold=true∧s=s'∧n=l.length∧nd=l.length∧dc=48∧IsIs w' pa n pc l∧IsDt w' da n 48 l
theorem sd_none {w w':World}{p:Pl}{b:List UInt8}(h:heldB p b=none)(hb:Below w.heap.size w w'):SdPost w p b (.returned (.tuple #[.agg #[.int .u64 ((0:Nat):Int),.slice none 0 0,.slice none 0 0],.bool false])) w':=by
 refine⟨0,0,0,0,0,none,none,false,rfl,hb,?_⟩
 rw[h]
structure SdAt (w wr:World)(R C RB s n:Nat)(p:Pl)(b:List UInt8)(k:Nat)(r:List UInt8)(bad:Bool)(l:Qs)(vP:Value):Prop where
 rd:IsR wr R r bad
 c:Blk wr C 113 [.int .u64 (s:Int),vP,.slice none 0 0]
 rb:Blk wr RB 113 [.int .u64 0,.slice none 0 0,.slice none 0 0]
 own:OwnI wr (C+1) vP l
 len:l.length=k
 go:heldGo p (hdN b).1 0 (hdN b).2.1 (hdN b).2.2 []=heldGo p ((hdN b).1-k) k r bad l
 dat:∀i,i<k→49≤(nthL l i).1∧(nthL l i).1<p.n∧(nthL l i).2=p.rdB ((1+i:Nat):Int)
 bel:Below w.heap.size w wr
 lt1:R<C
 lt2:RB<R
 low:w.heap.size≤RB
theorem rb_set {x:World}{RB base:Nat}{c0 c1 c2:Value}(h:Blk x RB 113 [c0,c1,c2])(hl:base≤RB)(a b c:Value):Blk (((x.setCell ⟨RB,0,none⟩ a).setCell ⟨RB,1,none⟩ b).setCell ⟨RB,2,none⟩ c) RB 113 [a,b,c]∧Below base x (((x.setCell ⟨RB,0,none⟩ a).setCell ⟨RB,1,none⟩ b).setCell ⟨RB,2,none⟩ c):=by
 have h1:=h.set 0 a
 have h2:=h1.set 1 b
 exact⟨h2.set 2 c,((bel_one (gr_cell x RB 0 a) hl h.lt).trans (bel_one (gr_cell _ RB 1 b) hl h1.lt)).trans (bel_one (gr_cell _ RB 2 c) hl h2.lt)⟩
theorem nthL_app {l:Qs}{x:Nat × List UInt8}{i:Nat}(h:i<l.length):nthL (l++[x]) i=nthL l i:=by
 unfold nthL;rw[List.getD_eq_getElem?_getD,List.getD_eq_getElem?_getD,List.getElem?_append_left h]
theorem nthL_last {l:Qs}{x:Nat × List UInt8}:nthL (l++[x]) l.length=x:=by
 unfold nthL;rw[List.getD_eq_getElem?_getD,List.getElem?_append_right (Nat.le_refl _),Nat.sub_self];rfl
theorem SdAt.read {w wr x1:World}{R C RB s n:Nat}{p:Pl}{b:List UInt8}{k:Nat}{r:List UInt8}{bad:Bool}{l:Qs}{vP:Value}(h:SdAt w wr R C RB s n p b k r bad l vP)(hg:wr.grownBy x1 (some R)):
  Below w.heap.size w x1∧Blk x1 C 113 [.int .u64 (s:Int),vP,.slice none 0 0]∧Blk x1 RB 113 [.int .u64 0,.slice none 0 0,.slice none 0 0]∧OwnI x1 (C+1) vP l:=by
 have l1:=h.lt1
 have l2:=h.lt2
 have l3:=h.low
 refine⟨h.bel.trans (bel_one hg (by omega) h.rd.lt),(hg.block C h.c.lt (fun e=>by have:=Option.some.inj e;omega)).trans h.c,(hg.block RB h.rb.lt (fun e=>by have:=Option.some.inj e;omega)).trans h.rb,World.ownsRow.kept h.own hg ?_⟩
 obtain⟨a,cap,hb,_⟩:=h.rd
 exact own_ne hb h.own (by decide)
theorem SdAt.next {w wr x1 x3:World}{R C RB s n:Nat}{p:Pl}{b:List UInt8}{k N v:Nat}{r r':List UInt8}{bad bad':Bool}{l:Qs}{vP v':Value}(h:SdAt w wr R C RB s n p b k r bad l vP)(hN:N=(hdN b).1)(hk:k<N)(hr:IsR x1 R r' bad')(hg:wr.grownBy x1 (some R))(hv:v=(rdUint r bad).1)(hr':r'=(rdUint r bad).2.1)(hb':bad'=(rdUint r bad).2.2)(hlo:49≤v)(hhi:v<p.n)
  (ho:OwnI x3 (C+1) v' (l++[(v,p.rdB ((1+k:Nat):Int))])) (hg3:(x1.alloc (.cells #[.int .i64 (v:Int)] 3)).grownBy x3 vP.ownBlock):
  SdAt w (x3.setCell ⟨C,1,none⟩ v') R C RB s n p b (k+1) r' bad' (l++[(v,p.rdB ((1+k:Nat):Int))]) v'∧Blk x3 C 113 [.int .u64 (s:Int),vP,.slice none 0 0]:=by
 obtain⟨q1,q2,q3,q4⟩:=h.read hg
 have l1:=h.lt1
 have l2:=h.lt2
 have l3:=h.low
 have hb2:Below x1.heap.size x1 (x1.alloc (.cells #[.int .i64 (v:Int)] 3)):=(Below.refl _ x1).alloc (Nat.le_refl _) _
 have hvP:∀k,vP.ownBlock=some k→C+1≤k:=fun k hk=>(World.ownsRow.lt q4 k hk).1
 have keep:∀X,X≤C→∀ {cs:List Value},Blk x1 X 113 cs→Blk x3 X 113 cs:=fun X hX cs hB=>by
  have hB2:=hB.on hb2
  refine(hg3.block X hB2.lt (fun e=>?_)).trans hB2
  have:=hvP X e.symm
  omega
 have hC3:=keep C (Nat.le_refl _) q2
 have hRB3:=keep RB (by omega) q3
 have hbel3:Below w.heap.size w x3:=by
  refine(q1.trans (hb2.mono q1.size)).trans ?_
  cases hq:vP.ownBlock with
  | none=>rw[hq] at hg3;exact(gr_below hg3).mono (Nat.le_trans q1.size hb2.size)
  | some g =>
   rw[hq] at hg3
   have h5:=World.ownsRow.lt q4 g hq
   exact bel_one hg3 (by omega) (Nat.lt_of_lt_of_le h5.2 hb2.size)
 have hr3:IsR x3 R r' bad':=(hr.on hb2).row hg3 hvP (by omega)
 have hv'k:∀k,v'.ownBlock=some k→C+1≤k:=fun k hk=>(World.ownsRow.lt ho k hk).1
 refine⟨⟨hr3.newer (gr_cell x3 C 1 v') l1,hC3.set 1 v',hRB3.other _ _ (by show RB≠C;omega),World.ownsRow.kept ho (gr_cell x3 C 1 v') ?_,by rw[List.length_append,h.len];rfl,?_,fun i hi=>?_,hbel3.trans (bel_one (gr_cell x3 C 1 v') (by omega) hC3.lt),l1,l2,l3⟩,hC3⟩
 ·cases hq:v'.ownBlock with
  | none=>exact .inl rfl
  | some g=>exact .inr (fun e=>by have:=hv'k g hq;have:=Option.some.inj e;omega)
 ·rw[h.go,←hN,show N-k=N-(k+1)+1 by omega,go_yes (by rw[←hv];omega),←hr',←hb',←hv]
 ·by_cases e:i<k
  ·rw[nthL_app (by rw[h.len];exact e)];exact h.dat i e
  ·have e2:i=l.length:=by rw[h.len];omega
   subst e2
   rw[nthL_last]
   have hle:=h.len
   rw[←hle]
   exact⟨hlo,hhi,rfl⟩
theorem infoC:(Tryz.prog.info? 113).map (·.size)=some 3:=by kernel_rfl
theorem codSealed (F:Nat)(p:Pl)(gs:Nat→Nat)(w:World)(h:IsFr w F p gs)(hn0:64≤p.n)(hn:p.n≤4096):
  Calls Tryz.prog 58 #[.slice (some ⟨F,0,none⟩) 49 49,.int .i64 (p.n:Int)] w (SdPost w p (p.rdB ((0:Nat):Int))):=by
 have HFr:=mkHid h
 have HN:=mkHid hn
 have c00:(w.alloc (.cells #[.int .u64 0,.slice none 0 0,.slice none 0 0] 113)).cell? ⟨F,0,none⟩=some (.slice (some ⟨gs 0,0,none⟩) 512 512):=(h.on ((Below.refl _ w).alloc (Nat.le_refl _) _)).cell 0 (by omega)
 have HB0:Hid (Below w.heap.size w (w.alloc (.cells #[.int .u64 0,.slice none 0 0,.slice none 0 0] 113))):=(Below.refl _ w).alloc (Nat.le_refl _) _
 have HRB:Hid (Blk (w.alloc (.cells #[.int .u64 0,.slice none 0 0,.slice none 0 0] 113)) w.heap.size 113 [.int .u64 0,.slice none 0 0,.slice none 0 0]):=Blk.new w _ _
 have hL5:=(h.at_ 0 (by omega)).2.1
 have HIb:Hid (IsB (w.alloc (.cells #[.int .u64 0,.slice none 0 0,.slice none 0 0] 113)) (some ⟨gs 0,0,none⟩) 512 512 (p.rdB ((0:Nat):Int))):=blk_isB ((h.at_ 0 (by omega)).2.2.on HB0.out) hL5
 clear h
 generalize hb:p.rdB ((0:Nat):Int)=b at *
 have HRd:=cRead _ _ _ b _ HIb.out (by omega)
 go_enter Tryz.func58,Tryz.ntmps58
 go_wp2_with fail
 generalize w.alloc (.cells #[.int .u64 0,.slice none 0 0,.slice none 0 0] 113)=w0 at *
 obtain⟨RB,hRB⟩:∃RB,RB=w.heap.size:=⟨_,rfl⟩
 have HRBe:=mkHid hRB
 rw[←hRB] at HRB ⊢
 clear hRB
 refine HRd.mono ?_
 rintro e w1 ⟨R,rfl,hR1,hr1,hb1⟩
 have HLtR:Hid (RB<R):=Nat.lt_of_lt_of_le HRB.out.lt hR1
 have HB1:=mkHid (HB0.out.trans (hb1.mono HB0.out.size))
 have HRB1:=mkHid (HRB.out.on hb1)
 have HRl:Hid (w.heap.size≤R):=Nat.le_trans HB0.out.size hR1
 have HTx:=cText R b false w1 hr1
 have e1:rdSome 115 b false=hdName b:=rfl
 rw[e1] at HTx
 have HR1:=mkHid hr1
 clear hR1 hr1 hb1 HRd c00 HIb HRB e1
 go_wp2_with fail
 refine HTx.mono ?_
 rintro e w2 ⟨rfl,hr2,hg2⟩
 have HB2:Hid (Below w.heap.size w w2):=HB1.out.trans (bel_one hg2 HRl.out HR1.out.lt)
 have HRB2:Hid (Blk w2 RB 113 [.int .u64 0,.slice none 0 0,.slice none 0 0]):=(hg2.block RB HRB1.out.lt (fun e=>by have:=Option.some.inj e;have:=HLtR.out;omega)).trans HRB1.out
 have HUi:=cUint R _ _ w2 hr2
 have e1:rdUint (hdName b).2.1 (hdName b).2.2=hdSeq b:=rfl
 rw[e1] at HUi
 have HR2:=mkHid hr2
 clear hr2 hg2 HTx HB1 HRB1 HR1 e1
 go_wp2_with fail
 refine HUi.mono ?_
 rintro e w3 ⟨rfl,hr3,hg3⟩
 have HB3:Hid (Below w.heap.size w w3):=HB2.out.trans (bel_one hg3 HRl.out HR2.out.lt)
 have HRB3:Hid (Blk w3 RB 113 [.int .u64 0,.slice none 0 0,.slice none 0 0]):=(hg3.block RB HRB2.out.lt (fun e=>by have:=Option.some.inj e;have:=HLtR.out;omega)).trans HRB2.out
 have HLtC:Hid (R<w3.heap.size):=hr3.lt
 have hb4:Below w3.heap.size w3 (w3.alloc (.cells #[.int .u64 ((hdSeq b).1:Int),.slice none 0 0,.slice none 0 0] 113)):=(Below.refl _ w3).alloc (Nat.le_refl _) _
 have HB4:=mkHid (HB3.out.trans (hb4.mono HB3.out.size))
 have HRB4:=mkHid (HRB3.out.on hb4)
 have HC4:Hid (Blk (w3.alloc (.cells #[.int .u64 ((hdSeq b).1:Int),.slice none 0 0,.slice none 0 0] 113)) w3.heap.size 113 [.int .u64 ((hdSeq b).1:Int),.slice none 0 0,.slice none 0 0]):=Blk.new w3 _ _
 have HR4:=mkHid (hr3.on hb4)
 have HLi:=cList R _ _ 48 _ HR4.out (by omega)
 have e1:rdList (hdSeq b).2.1 (hdSeq b).2.2 48=hdN b:=rfl
 rw[e1] at HLi
 have HSl:=mkHid (hdSeq_lt b)
 have HN8:=mkHid (hdN_le b)
 clear hr3 hg3 hb4 HUi HB2 HRB2 HR2 HB3 HRB3 e1
 generalize hs:(hdSeq b).1=s at *
 have HSe:=mkHid hs
 clear hs
 go_wp2_with fail
 obtain⟨C,hC⟩:∃C,C=w3.heap.size:=⟨_,rfl⟩
 rw[←hC] at HC4 HLtC ⊢
 clear hC
 generalize w3.alloc (.cells #[.int .u64 (s:Int),.slice none 0 0,.slice none 0 0] 113)=w4 at *
 obtain⟨N,hN⟩:∃N,N=(hdN b).1:=⟨_,rfl⟩
 have HNe:=mkHid hN
 rw[←hN] at HLi HN8
 clear hN
 refine HLi.mono ?_
 rintro e w5 ⟨rfl,hr5,hg5⟩
 have HB5:Hid (Below w.heap.size w w5):=HB4.out.trans (bel_one hg5 HRl.out HR4.out.lt)
 have HC5:Hid (Blk w5 C 113 [.int .u64 (s:Int),.slice none 0 0,.slice none 0 0]):=(hg5.block C HC4.out.lt (fun e=>by have:=Option.some.inj e;have:=HLtC.out;omega)).trans HC4.out
 have HRB5:Hid (Blk w5 RB 113 [.int .u64 0,.slice none 0 0,.slice none 0 0]):=(hg5.block RB HRB4.out.lt (fun e=>by have:=Option.some.inj e;have:=HLtR.out;omega)).trans HRB4.out
 have HS0:Hid (SdAt w w5 R C RB s p.n p b 0 (hdN b).2.1 (hdN b).2.2 [] (.slice none 0 0)):=⟨hr5,HC5.out,HRB5.out,OwnI.nil _ _,rfl,by rw[Nat.sub_zero],fun i hi=>absurd hi (Nat.not_lt_zero i),HB5.out,HLtC.out,HLtR.out,by rw[HRBe.out];exact Nat.le_refl _⟩
 clear hr5 hg5 HLi HB4 HC4 HRB4 HR4 HB5 HC5 HRB5 HLtC HLtR
 have hN8:(N:Int)≤48:=by have:=HN8.out;omega
 go_wp2_with fail
 go_loopw [20] (fun i wr=>∃(k:Nat) (r:List UInt8) (bad:Bool) (l:Qs) (vP:Value),k≤N∧i=.int .i64 (k:Int)∧Hid (SdAt w wr R C RB s p.n p b k r bad l vP)) (fun i _=>N-(Go.RowKit.intOf i).toNat)
 case atStart=>exact⟨0,_,_,_,_,Nat.zero_le _,rfl,HS0⟩
 case round =>
  obtain⟨k,r,bad,l,vP,hk,rfl,HA⟩:=hrel
  clear HS0
  by_cases hlt:k<N
  ·have hlt':(k:Int)<(N:Int):=by omega
   have HUi:=cUint R r bad wr HA.out.rd
   have HSt:Hid (N-k=N-(k+1)+1):=by unfold Hid;omega
   have HRBl:Hid (w.heap.size≤RB):=HA.out.low
   obtain⟨v,hv⟩:∃v,v=(rdUint r bad).1:=⟨_,rfl⟩
   have HV:=mkHid hv
   have hvl:v<18446744073709551616:=by rw[hv];exact rdUint_lt _ _
   rw[←hv] at HUi
   clear hv
   have hwn:IntKind.u64.wrap (p.n:Int)=(p.n:Int):=wrap64_nat _ (by omega)
   by_cases h1:p.n≤v
   ·have HNo:Hid (heldB p b=none):=held_none (by rw[HA.out.go,←HNe.out,HSt.out];exact go_no (.inr (by rw[←HV.out];exact h1)))
    have hd1:decide ((p.n:Int)≤(v:Int))=true:=decide_eq_true (by omega)
    have hge:(p.n:Int)≤(v:Int):=by omega
    generalize p.n=n at *
    go_wp2_with fail
    refine HUi.mono ?_
    rintro e x1 ⟨rfl,hr1,hg1⟩
    have HBx:Hid (Below w.heap.size w x1):=HA.out.bel.trans (bel_one hg1 HRl.out HA.out.rd.lt)
    have HRBx:Hid (Blk x1 RB 113 [.int .u64 0,.slice none 0 0,.slice none 0 0]):=(hg1.block RB HA.out.rb.lt (fun e=>by have:=Option.some.inj e;have:=HA.out.lt2;omega)).trans HA.out.rb
    clear hr1 hg1 HUi HA
    have r0:x1.cell? ⟨RB,0,none⟩=some (.int .u64 0):=HRBx.out.cell 0
    have r1:x1.cell? ⟨RB,1,none⟩=some (.slice none 0 0):=HRBx.out.cell 1
    have r2:x1.cell? ⟨RB,2,none⟩=some (.slice none 0 0):=HRBx.out.cell 2
    have z0:=HRBx.out.frozen 0
    have z1:=HRBx.out.frozen 1
    have z2:=HRBx.out.frozen 2
    go_wp2_with fail
    have HZ:=rb_set HRBx.out HRBl.out (.int .u64 0) (.slice none 0 0) (.slice none 0 0)
    (try simp only[Exit.inBlock,Exit.then])
    refine bodyPost_ret (v:=.tuple #[.agg #[.int .u64 ((0:Nat):Int),.slice none 0 0,.slice none 0 0],.bool false]) ?_ rfl (sd_none HNo.out (HBx.out.trans HZ.2))
    exact results_cellrow_tmp Tryz.results58 _ _ _ _ _ _ _ rfl HZ.1 Tryz.underlying113 rfl infoC
   ·have hvn:v<4096:=by omega
    have hd1:decide ((p.n:Int)≤(v:Int))=false:=decide_eq_false (by omega)
    have hge:¬(p.n:Int)≤(v:Int):=by omega
    have hwv:IntKind.i64.wrap (v:Int)=(v:Int):=by
     simp[IntKind.wrap,IntKind.signed,IntKind.bits]
     omega
    have HAr:=fun W=>codInArea (v:Int) p.n W
    by_cases h2:v<49
    ·have hz:areaI p.n (v:Int)=false:=decide_eq_false (by omega)
     have HNo:Hid (heldB p b=none):=held_none (by rw[HA.out.go,←HNe.out,HSt.out];exact go_no (.inl (by rw[←HV.out];exact h2)))
     rw[hz] at HAr
     clear hz
     generalize p.n=n at *
     go_wp2_with fail
     refine HUi.mono ?_
     rintro e x1 ⟨rfl,hr1,hg1⟩
     obtain⟨hBx,_,hRBx,_⟩:=HA.out.read hg1
     have HBx:=mkHid hBx
     have HRBx:=mkHid hRBx
     clear hr1 hg1 HUi HA hBx hRBx
     go_wp2_with fail
     refine(HAr x1).mono ?_
     rintro e x2 ⟨rfl,hx2⟩
     obtain rfl:=hx2.symm
     have r0:x1.cell? ⟨RB,0,none⟩=some (.int .u64 0):=HRBx.out.cell 0
     have r1:x1.cell? ⟨RB,1,none⟩=some (.slice none 0 0):=HRBx.out.cell 1
     have r2:x1.cell? ⟨RB,2,none⟩=some (.slice none 0 0):=HRBx.out.cell 2
     have z0:=HRBx.out.frozen 0
     have z1:=HRBx.out.frozen 1
     have z2:=HRBx.out.frozen 2
     go_wp2_with fail
     have HZ:=rb_set HRBx.out HRBl.out (.int .u64 0) (.slice none 0 0) (.slice none 0 0)
     (try simp only[Exit.inBlock,Exit.then])
     refine bodyPost_ret (v:=.tuple #[.agg #[.int .u64 ((0:Nat):Int),.slice none 0 0,.slice none 0 0],.bool false]) ?_ rfl (sd_none HNo.out (HBx.out.trans HZ.2))
     exact results_cellrow_tmp Tryz.results58 _ _ _ _ _ _ _ rfl HZ.1 Tryz.underlying113 rfl infoC
    ·have hz:areaI p.n (v:Int)=true:=decide_eq_true (by omega)
     rw[hz] at HAr
     have HLo:Hid (49≤v):=by unfold Hid;omega
     have HHi:Hid (v<p.n):=by unfold Hid;omega
     clear hz h1 h2
     go_wp2_with fail
     refine HUi.mono ?_
     rintro e x1 ⟨rfl,hr1,hg1⟩
     obtain⟨_,hCx,_,hOx⟩:=HA.out.read hg1
     have HCx:=mkHid hCx
     have HOx:=mkHid hOx
     have HRx:=mkHid (And.intro hr1 hg1)
     clear hr1 hg1 HUi hCx hOx
     go_wp2_with fail
     refine(HAr x1).mono ?_
     rintro e x2 ⟨rfl,hx2⟩
     obtain rfl:=hx2.symm
     have k1:x1.cell? ⟨C,1,none⟩=some vP:=HCx.out.cell 1
     have kz:=HCx.out.frozen 1
     have HLl:Hid (l.length≤4096):=by unfold Hid;rw[HA.out.len];have:=HN8.out;omega
     have HCl:Hid (C+1≤x1.heap.size):=HCx.out.lt
     have HOa:Hid (OwnI (x1.alloc (.cells #[.int .i64 (v:Int)] 3)) (C+1) vP l):=World.ownsRow.alloc HOx.out _
     have hcA:(x1.alloc (.cells #[.int .i64 (v:Int)] 3)).cell? ⟨C,1,none⟩=some vP:=(HCx.out.alloc _).cell 1
     clear HOx HCx HAr
     go_wp2_with (at_builtin;refine list_appI _ rfl (.tmp 37) (.tmp 40) rfl (C+1) vP l rfl HOa.out x1.heap.size v (p.rdB ((1+k:Nat):Int)) rfl (heap_alloc_new x1 _) HLl.out (by rw[World.size_alloc];have:=HCl.out;omega) ?_;intro v' x3 ho3 hg3;have HN3:=mkHid (HA.out.next HNe.out hlt HRx.out.1 HRx.out.2 HV.out rfl rfl HLo.out HHi.out ho3 hg3);obtain⟨pa',pc',hv',_⟩:=row_isIs ho3;clear ho3 hg3;obtain⟨ln,hln⟩:∃ln,ln=(l++[(v,p.rdB ((1+k:Nat):Int))]).length:=⟨_,rfl⟩;rw[←hln] at hv';clear hln;subst hv';have kC3:x3.cell? ⟨C,1,none⟩=some vP:=HN3.out.2.cell 1;have kz3:=HN3.out.2.frozen 1)
     go_roundw
     case rel=>exact⟨k+1,_,_,_,_,by omega,by go_num,mkHid HN3.out.1⟩
     case measure=>simp[Go.RowKit.intOf];omega
  ·have hge:¬(k:Int)<(N:Int):=by omega
   have hkN:k=N:=by omega
   have HGo:Hid (heldGo p (hdN b).1 0 (hdN b).2.1 (hdN b).2.2 []=some (l,bad)):=by
    unfold Hid
    rw[HA.out.go,←HNe.out,hkN,Nat.sub_self]
    rfl
   have hk48:k≤48:=by have:=HN8.out;omega
   obtain⟨pa,pc,hvP,hIs⟩:=row_isIs HA.out.own
   have hlk:=HA.out.len
   rw[hlk] at hvP hIs
   subst hvP
   have HIs:=mkHid hIs
   have HLk:=mkHid hlk
   have kC1:wr.drew.cell? ⟨C,1,none⟩=some (.slice pa k pc):=HA.out.c.cell 1
   have kC2:wr.drew.cell? ⟨C,2,none⟩=some (.slice none 0 0):=HA.out.c.cell 2
   have kf2:wr.drew.frozen? ⟨C,2,none⟩=false:=HA.out.c.frozen 2
   have h1s:∀w,(Instr.slice 59 (.slice (some ⟨F,0,none⟩) 49 49) (some (.int .i64 1)) none none).run Tryz.prog w=.ok (.slice (some ⟨F,1,none⟩) 48 48) w:=slQ1 F 49 (by omega)
   have h2s:∀w,(Instr.slice 59 (.slice (some ⟨F,1,none⟩) 48 48) none (some (.int .i64 (k:Int))) none).run Tryz.prog w=.ok (.slice (some ⟨F,1,none⟩) k 48) w:=slQh F 1 48 48 k hk48
   have HCy:Hid (Blk (wr.drew.setCell ⟨C,2,none⟩ (.slice (some ⟨F,1,none⟩) k 48)) C 113 [.int .u64 (s:Int),.slice pa k pc,.slice (some ⟨F,1,none⟩) k 48]):=Blk.set (w:=wr.drew) HA.out.c 2 _
   have HRl2:Hid (w.heap.size≤RB∧RB<C):=⟨HA.out.low,by have:=HA.out.lt1;have:=HA.out.lt2;omega⟩
   have HBd:Hid (Below w.heap.size w wr.drew):=HA.out.bel.trans (((Below.refl _ wr).drew).mono HA.out.bel.size)
   have HBy:Hid (Below w.heap.size w (wr.drew.setCell ⟨C,2,none⟩ (.slice (some ⟨F,1,none⟩) k 48))):=HBd.out.trans (bel_one (gr_cell wr.drew C 2 _) (by have:=HRl2.out;omega) HA.out.c.lt)
   have HKy:Hid (KeepT [113] wr (wr.drew.setCell ⟨C,2,none⟩ (.slice (some ⟨F,1,none⟩) k 48))):=(KeepT.of_below ((Below.refl _ wr).drew)).trans ((KeepT.refl _ wr.drew).set (w:=wr.drew) HA.out.c (by simp) 2 _)
   have HRBy:Hid (Blk (wr.drew.setCell ⟨C,2,none⟩ (.slice (some ⟨F,1,none⟩) k 48)) RB 113 [.int .u64 0,.slice none 0 0,.slice none 0 0]):=Blk.other (w:=wr.drew) HA.out.rb _ _ (by show RB≠C;have:=HRl2.out;omega)
   have HDat:=mkHid HA.out.dat
   have HS1:Hid ((wr.drew.setCell ⟨C,2,none⟩ (.slice (some ⟨F,1,none⟩) k 48)).cell? ⟨C,1,none⟩=some (.slice pa k pc)):=HCy.out.cell 1
   clear hIs hlk HA hkN
   go_wp2_with fail
   go_region_held3 (fun w'=>w'.cell? ⟨C,1,none⟩=some (.slice pa k pc))
    (first|exact kC1|assumption|exact HS1.out)
    (fail)
   have hYe:(wr.setCell ⟨C,2,none⟩ (.slice (some ⟨F,1,none⟩) k 48)).drew=wr.drew.setCell ⟨C,2,none⟩ (.slice (some ⟨F,1,none⟩) k 48):=rfl
   rw[←hYe] at HCy HBy HKy HRBy
   clear hYe HS1 kC1 kC2 kf2 h1s h2s HBd
   generalize (wr.setCell ⟨C,2,none⟩ (.slice (some ⟨F,1,none⟩) k 48)).drew=Y at *
   have HIsY:=mkHid (HIs.out.keep HKy.out (by decide))
   have HFrY:=mkHid (HFr.out.on HBy.out)
   have HDtY:Hid (IsDt Y (some ⟨F,1,none⟩) k 48 l):=⟨HLk.out,fun _=>⟨F,1,rfl,⟨_,_,HFrY.out.blk⟩,fun i hi=>by
    have h7:=HDat.out i hi
    have h8:=HFrY.out.at_ (1+i) (by omega)
    rw[h7.2.2]
    exact⟨h8.2.1,gs (1+i),5,HFrY.out.cell (1+i) (by omega),h8.2.2,by simp⟩⟩⟩
   have HSe2:∀W,Below Y.heap.size Y W→Calls Tryz.prog 91 #[.agg #[.int .u64 (s:Int),.slice pa k pc,.slice (some ⟨F,1,none⟩) k 48]] W fun e w'=>∃g,e=.returned (.slice (some ⟨g,0,none⟩) 512 512)∧Hid (Blk w' g 5 (bv (sealJ s l)))∧Hid (Below W.heap.size W w'):=fun W hW=>(codSeal s l pa (some ⟨F,1,none⟩) k pc 48 W hk48 (HIsY.out.on hW) (HDtY.out.on hW) (fun g hg=>by
    obtain⟨i,hi,rfl⟩:=List.getElem_of_mem hg
    have:=HDat.out i (by rw[←HLk.out];exact hi)
    have e9:nthL l i=l[i]:=by unfold nthL;rw[List.getD_eq_getElem?_getD,List.getElem?_eq_getElem hi];rfl
    rw[e9] at this
    have:=HN.out
    omega)).mono fun e w' ⟨g,h1,h2,_,h4⟩=>⟨g,h1,h2,h4⟩
   have HS5:Hid ((sealJ s l).length=512):=sealJ_length _ _ (by rw[preJ_length,HLk.out];omega)
   have HEq:∀W g,Below Y.heap.size Y W→Blk W g 5 (bv (sealJ s l))→Calls Tryz.prog 90 #[.slice (some ⟨g,0,none⟩) 512 512,.slice (some ⟨gs 0,0,none⟩) 512 512] W fun e w'=>e=.returned (.bool (decide (sealJ s l=b)))∧w'=W:=fun W g hW hg=>codEqual _ _ _ _ _ _ (sealJ s l) b W (blk_isB hg HS5.out) (by
    have h8:=(HFrY.out.on hW).at_ 0 (by omega)
    have:=blk_isB h8.2.2 h8.2.1
    rw[hb] at this
    exact this)
   have HKP:∀w',Hid (Below w.heap.size w w')→Blk w' C 113 [.int .u64 (s:Int),.slice pa k pc,.slice (some ⟨F,1,none⟩) k 48]→Hid (Below w.heap.size w w'∧Blk w' C 113 [.int .u64 (s:Int),.slice pa k pc,.slice (some ⟨F,1,none⟩) k 48])∧w'.cell? ⟨C,0,none⟩=some (.int .u64 (s:Int))∧w'.cell? ⟨C,1,none⟩=some (.slice pa k pc)∧w'.cell? ⟨C,2,none⟩=some (.slice (some ⟨F,1,none⟩) k 48)∧w'.cell? ⟨F,0,none⟩=some (.slice (some ⟨gs 0,0,none⟩) 512 512):=fun w' h1 h2=>⟨⟨h1.out,h2⟩,h2.cell 0,h2.cell 1,h2.cell 2,(HFr.out.on h1.out).cell 0 (by omega)⟩
   have HK0:=mkHid (HKP Y.drew (mkHid (HBy.out.trans (((Below.refl _ Y).drew).mono HBy.out.size))) HCy.out)
   have HRow:Hid (∀W,Below Y.heap.size Y W→Below w.heap.size w W∧Blk W C 113 [.int .u64 (s:Int),.slice pa k pc,.slice (some ⟨F,1,none⟩) k 48]∧Blk W RB 113 [.int .u64 0,.slice none 0 0,.slice none 0 0]∧IsIs W pa k pc l∧IsDt W (some ⟨F,1,none⟩) k 48 l):=fun W hW=>⟨HBy.out.trans (hW.mono HBy.out.size),HCy.out.on hW,HRBy.out.on hW,HIsY.out.on hW,HDtY.out.on hW⟩
   have HZz:Hid (∀W,Below w.heap.size w W→Blk W C 113 [.int .u64 (s:Int),.slice pa k pc,.slice (some ⟨F,1,none⟩) k 48]→Blk W RB 113 [.int .u64 0,.slice none 0 0,.slice none 0 0]→Below w.heap.size w (((W.setCell ⟨RB,0,none⟩ (.int .u64 (s:Int))).setCell ⟨RB,1,none⟩ (.slice pa k pc)).setCell ⟨RB,2,none⟩ (.slice (some ⟨F,1,none⟩) k 48))∧Blk (((W.setCell ⟨RB,0,none⟩ (.int .u64 (s:Int))).setCell ⟨RB,1,none⟩ (.slice pa k pc)).setCell ⟨RB,2,none⟩ (.slice (some ⟨F,1,none⟩) k 48)) C 113 [.int .u64 (s:Int),.slice pa k pc,.slice (some ⟨F,1,none⟩) k 48]):=fun W h1 h2 h3=>by
    have hne:C≠RB:=by have:=HRl2.out;omega
    exact⟨h1.trans (rb_set h3 HRl2.out.1 _ _ _).2,((h2.other _ _ hne).other _ _ hne).other _ _ hne⟩
   generalize hdc:decide (sealJ s l=b)=dc at *
   have HDc:=mkHid hdc
   clear hdc
   go_wp2_with fail
   go_region_held3 (fun w'=>Hid (Below w.heap.size w w'∧Blk w' C 113 [.int .u64 (s:Int),.slice pa k pc,.slice (some ⟨F,1,none⟩) k 48])∧w'.cell? ⟨C,0,none⟩=some (.int .u64 (s:Int))∧w'.cell? ⟨C,1,none⟩=some (.slice pa k pc)∧w'.cell? ⟨C,2,none⟩=some (.slice (some ⟨F,1,none⟩) k 48)∧w'.cell? ⟨F,0,none⟩=some (.slice (some ⟨gs 0,0,none⟩) 512 512))
    (first|exact HK0.out|assumption|exact HKP _ (mkHid hrw.out.1) hrw.out.2.1|exact HKP _ (mkHid hrz.out.1) hrz.out.2)
    (first
     | (go_at_call 91;refine(HSe2 _ ((Below.refl _ Y).drew)).mono ?_;rintro e y1 ⟨g,rfl,hgS,hb1⟩;have hY1:Hid (Below Y.heap.size Y y1):=mkHid (((Below.refl _ Y).drew).trans hb1.out);have hrw:=mkHid (HRow.out y1 hY1.out);clear hb1)
     | (go_at_call 90;refine(HEq _ g hY1.out hgS.out).mono ?_;rintro e y2 ⟨rfl,hy2⟩;obtain rfl:=hy2.symm;have r0:y1.cell? ⟨RB,0,none⟩=some (.int .u64 0):=hrw.out.2.2.1.cell 0;have r1:y1.cell? ⟨RB,1,none⟩=some (.slice none 0 0):=hrw.out.2.2.1.cell 1;have r2:y1.cell? ⟨RB,2,none⟩=some (.slice none 0 0):=hrw.out.2.2.1.cell 2;have z0:=hrw.out.2.2.1.frozen 0;have z1:=hrw.out.2.2.1.frozen 1;have z2:=hrw.out.2.2.1.frozen 2;have hrz:=mkHid (HZz.out y1 hrw.out.1 hrw.out.2.1 hrw.out.2.2.1)))
   have HZ9:=mkHid (rb_set hrw.out.2.2.1 HRl2.out.1 (.int .u64 (s:Int)) (.slice pa k pc) (.slice (some ⟨F,1,none⟩) k 48))
   go_wp2_with fail
   (try simp only[Exit.inBlock,Exit.then])
   refine bodyPost_ret (v:=.tuple #[.agg #[.int .u64 (s:Int),.slice pa k pc,.slice (some ⟨F,1,none⟩) k 48],.bool dc]) ?_ rfl ?_
   ·exact results_cellrow_tmp Tryz.results58 _ _ _ _ _ _ _ rfl HZ9.out.1 Tryz.underlying113 rfl infoC
   ·refine⟨s,k,pc,k,48,pa,some ⟨F,1,none⟩,dc,rfl,hrz.out.1,?_⟩
    have hKz:KeepT [113] y1 (((y1.setCell ⟨RB,0,none⟩ (.int .u64 (s:Int))).setCell ⟨RB,1,none⟩ (.slice pa k pc)).setCell ⟨RB,2,none⟩ (.slice (some ⟨F,1,none⟩) k 48)):=by
     have q0:=hrw.out.2.2.1
     have q1:=q0.set 0 (.int .u64 (s:Int))
     have q2:=q1.set 1 (.slice pa k pc)
     exact(((KeepT.refl _ y1).set q0 (by simp) 0 _).set q1 (by simp) 1 _).set q2 (by simp) 2 _
    by_cases hsb:sealJ s l=b
    ·have e8:heldB p b=some (s,l):=by
      have:=held_yes (q:=(l,bad)) HGo.out (by show l.length≤48;rw[HLk.out];exact hk48) (by rw[HSe.out];exact hsb)
      rw[HSe.out] at this
      exact this
     rw[e8]
     have e9:dc=true:=by rw[←HDc.out];exact decide_eq_true hsb
     have hl9:=HLk.out
     exact⟨e9,rfl,hl9.symm,hl9.symm,rfl,hrw.out.2.2.2.1.keep hKz (by decide),hrw.out.2.2.2.2.keep hKz (by decide)⟩
    ·have e8:heldB p b=none:=held_no (q:=(l,bad)) HGo.out (by rw[HSe.out];exact hsb)
     rw[e8]
     rw[←HDc.out];exact decide_eq_false hsb
def MnPost (w:World)(P base:Nat)(p:Pl)(e:Ending)(w':World):Prop :=
 (if mountE p=0 then ∃J,e=.returned (.tuple #[.pointer (some ⟨J,0,none⟩),.int .i64 0])∧JAt w' J P base ⟨mountP p,mountS p,false⟩ else e=.returned (.tuple #[.pointer none,.int .i64 (mountE p)])∧IsD0 w' P base (mountP p))∧KeepT PD w w'∧Below base w w'
theorem mn_down {p:Pl}(h:p.off=true):mountE p=51∧mountP p=p:=by
 have e:p.rdE 0=51:=by unfold Pl.rdE;rw[h];rfl
 unfold mountE mountP
 rw[if_pos (by rw[e];decide),if_pos (by rw[e];decide)]
 exact⟨e,rfl⟩
theorem held_up {p:Pl}(h:p.rdE 0=0):heldJ p=heldB p (p.rdB ((0:Nat):Int)):=by unfold heldJ;rw[if_neg (by simp[h])];rfl
theorem mn_none {p:Pl}(h:p.rdE 0=0)(hh:heldJ p=none):mountE p=0∧mountP p=p∧mountS p=0:=by
 unfold mountE mountP mountS
 rw[if_neg (by simp[h]),if_neg (by simp[h]),hh]
 exact⟨rfl,rfl,rfl⟩
theorem mn_some {p:Pl}{s:Nat}{l:Qs}(h:p.rdE 0=0)(hh:heldJ p=some (s,l)):mountE p=stepsE p l∧mountP p=stepsP p l∧mountS p=s:=by
 unfold mountE mountP mountS
 rw[if_neg (by simp[h]),if_neg (by simp[h]),hh]
 exact⟨rfl,rfl,rfl⟩
theorem codMount (P base m:Nat)(p:Pl)(w:World)(h:IsD0 w P base p)(hf:FewM p m)(hm:m≤80000):
  Calls Tryz.prog 35 #[.pointer (some ⟨P,0,none⟩)] w (MnPost w P base p):=by
 have HLow:Hid (base≤w.heap.size):=h.low
 cases hoff:p.off with
 | true =>
  have HFr:=codFrontNo P base m p w h hf (by omega) hoff
  have HE:=mkHid (mn_down hoff)
  have HI:=mkHid h
  clear h hf hoff
  go_enter Tryz.func35,Tryz.ntmps35
  go_wp2_with fail
  refine HFr.mono ?_
  rintro e w1 ⟨rfl,hb1⟩
  have HB1:=mkHid hb1
  clear hb1 HFr
  go_wp2_with fail
  go_ret2
  refine⟨?_,KeepT.of_below HB1.out,HB1.out.mono HLow.out⟩
  rw[if_neg (by rw[HE.out.1];decide),HE.out.1,HE.out.2]
  exact⟨rfl,HI.out.on HB1.out⟩
 | false =>
  have HFr:=codFront P base m p w h hf (by omega) hoff
  have HI:=mkHid h
  have HF:=mkHid hf
  have h0:=rdE_zero hf hoff
  have HHe:=mkHid (held_up h0)
  have H0:=mkHid h0
  have HN0:=mkHid hf.n0
  have HN4:=mkHid hf.n
  clear h hf hoff h0
  go_enter Tryz.func35,Tryz.ntmps35
  go_wp2_with fail
  refine HFr.mono ?_
  rintro e w1 ⟨F,rfl,⟨gs,hFr⟩,hb1⟩
  have HB1:=mkHid hb1
  have HSd:=codSealed F p gs w1 hFr HN0.out HN4.out
  have HSz:Calls Tryz.prog 59 #[.pointer (some ⟨P,0,none⟩)] w1 fun e w'=>e=.returned (.int .i64 (p.n:Int))∧w'=w1:=by
   obtain⟨S,vC,arm,h⟩:=HI.out.on hb1
   exact codSize P S p.n w1 (h.blk.cell 0)
  clear hb1 HFr hFr
  go_wp2_with fail
  refine HSz.mono ?_
  rintro e w2 ⟨rfl,hw2⟩
  obtain rfl:=hw2.symm
  go_wp2_with fail
  refine HSd.mono ?_
  rintro e w3 ⟨s,n,pc,nd,dc,pa,da,hold,rfl,hb3,hpost⟩
  have HB3:Hid (Below w.heap.size w w3):=HB1.out.trans (hb3.mono HB1.out.size)
  rw[←HHe.out] at hpost
  clear HSz HSd hb3
  have hb4:Below w3.heap.size w3 (w3.alloc (.cells #[.int .u64 (s:Int),.slice pa n pc,.slice da nd dc] 113)):=(Below.refl _ w3).alloc (Nat.le_refl _) _
  have HB4:=mkHid (HB3.out.trans (hb4.mono HB3.out.size))
  have HC4:Hid (Blk (w3.alloc (.cells #[.int .u64 (s:Int),.slice pa n pc,.slice da nd dc] 113)) w3.heap.size 113 [.int .u64 (s:Int),.slice pa n pc,.slice da nd dc]):=Blk.new w3 _ _
  cases hh:heldJ p with
  | none =>
   rw[hh] at hpost
   obtain rfl:hold=false:=hpost
   have HE:=mkHid (mn_none H0.out hh)
   clear hh
   have hbl:Tryz.prog.built 117 [(0,.pointer (some ⟨P,0,none⟩))]=some #[.pointer (some ⟨P,0,none⟩),.int .u64 0,.int .u32 0]:=by kernel_rfl
   go_wp2_with fail
   go_ret2
   have hb5:=HB4.out.alloc HB4.out.size (.cells #[.pointer (some ⟨P,0,none⟩),.int .u64 0,.int .u32 0] 117)
   refine⟨?_,KeepT.of_below hb5,hb5.mono HLow.out⟩
   rw[if_pos HE.out.1,HE.out.2.1,HE.out.2.2]
   refine⟨_,rfl,⟨Blk.newAt _ _ _ _ _ (by simp) rfl,?_,HI.out.on hb5,by show 0<_;omega⟩⟩
   have:=HLow.out;have:=HB3.out.size;omega
  | some q =>
   obtain⟨s',l⟩:=q
   rw[hh] at hpost
   obtain⟨rfl,rfl,hn,rfl,rfl,hIs,hDt⟩:=hpost
   rw[←hn] at HC4 HB4 ⊢
   have HE:=mkHid (mn_some H0.out hh)
   have HS8:=mkHid (heldJ_len hh)
   have HSl:Hid (s<18446744073709551616):=by
    have:=mountS_lt (p:=p)
    rw[HE.out.2.2] at this
    exact this
   have h48:n≤48:=by rw[hn];exact HS8.out.1
   have HPu:=codPut P base m p l pa da n pc 48 (w3.alloc (.cells #[.int .u64 (s:Int),.slice pa n pc,.slice da n 48] 113)) (HI.out.on HB4.out) HF.out (by omega) (hIs.on ((Below.refl _ w3).alloc (Nat.le_refl _) _)) (hDt.on ((Below.refl _ w3).alloc (Nat.le_refl _) _))
   rw[←HE.out.1,←HE.out.2.1] at HPu
   clear hIs hDt hh hn hb4
   have k1:(w3.alloc (.cells #[.int .u64 (s:Int),.slice pa n pc,.slice da n 48] 113)).cell? ⟨w3.heap.size,1,none⟩=some (.slice pa n pc):=HC4.out.cell 1
   have k2:(w3.alloc (.cells #[.int .u64 (s:Int),.slice pa n pc,.slice da n 48] 113)).cell? ⟨w3.heap.size,2,none⟩=some (.slice da n 48):=HC4.out.cell 2
   have HSm:=mkHid HE.out.2.2
   clear HE
   obtain⟨eM,heM⟩:∃eM,eM=mountE p:=⟨_,rfl⟩
   have HeM:=mkHid heM
   rw[←heM] at HPu
   clear heM
   by_cases hz:eM=0
   ·subst hz
    go_wp2_with fail
    refine HPu.mono ?_
    rintro e w5 ⟨rfl,hI5,hT5,hb5⟩
    have HI5:=mkHid hI5
    have HT5:Hid (KeepT PD w w5):=(KeepT.of_below HB4.out).trans hT5
    have HB5:Hid (Below base w w5):=(HB4.out.mono HLow.out).trans hb5
    have HC5:=mkHid (hT5.blk HC4.out (by decide))
    have HLw5:Hid (base≤w5.heap.size):=hI5.low
    clear hI5 hT5 hb5 HPu k1 k2
    generalize w3.heap.size=C at *
    have k0:w5.cell? ⟨C,0,none⟩=some (.int .u64 (s:Int)):=HC5.out.cell 0
    have hbl:Tryz.prog.built 117 [(0,.pointer (some ⟨P,0,none⟩)),(1,.int .u64 (s:Int))]=some #[.pointer (some ⟨P,0,none⟩),.int .u64 (s:Int),.int .u32 0]:=by kernel_rfl
    go_wp2_with fail
    go_ret2
    have hb6:Below w5.heap.size w5 (w5.alloc (.cells #[.pointer (some ⟨P,0,none⟩),.int .u64 (s:Int),.int .u32 0] 117)):=(Below.refl _ w5).alloc (Nat.le_refl _) _
    refine⟨?_,HT5.out.trans (KeepT.of_below hb6),HB5.out.trans (hb6.mono HLw5.out)⟩
    rw[if_pos HeM.out.symm,HSm.out]
    exact⟨_,rfl,⟨Blk.newAt _ _ _ _ _ rfl rfl,HLw5.out,HI5.out.on hb6,HSl.out⟩⟩
   ·have hzb:(eM==0)=false:=by rw[beq_eq_false_iff_ne];exact hz
    go_wp2_with fail
    refine HPu.mono ?_
    rintro e w5 ⟨rfl,hI5,hT5,hb5⟩
    have HI5:=mkHid hI5
    have HT5:Hid (KeepT PD w w5):=(KeepT.of_below HB4.out).trans hT5
    have HB5:Hid (Below base w w5):=(HB4.out.mono HLow.out).trans hb5
    clear hI5 hT5 hb5 HPu k1 k2
    go_wp2_with fail
    go_ret2
    refine⟨?_,HT5.out,HB5.out⟩
    rw[if_neg (by rw[←HeM.out];exact hz),←HeM.out]
    exact⟨rfl,HI5.out⟩
end
section
open Go.RowKit Go.Maps
attribute [local go_sem ↓] zvJ arrJ
theorem stepMapUp {o:Oper}{a:Act}{w w':World}{K:Act→World→Prop}{Q:Exit→Act→World→Prop}(m x v:Operand)(t:TypeId)(hop:o.op=Op.mapUpdate t m x v){vm key val:Value}(hm:a.eval m=vm)(hx:a.eval x=key)(hv:a.eval v=val)(hrun:(Instr.mapUpdate t vm key val).run Tryz.prog w=.ok () w')(d:Option Tmp)(hd:o.dst=d)(h:K (a.put d undef) w'):Oper.wp Tryz.prog o a w K Q:=by
 subst hd
 unfold Oper.wp
 simp[execOp,hop,hm,hx,hv,hrun,Result.andThen]
 exact h
theorem isB_range {w:World}{b off n c:Nat}{l:List UInt8}(h:IsB w (some ⟨b,off,none⟩) n c l)(hn:0<n):w.rangeAt b off (bv l):=fun k v hv=>by
 obtain⟨b2,off2,e,hc⟩:=h.cells hn
 injection Option.some.inj e with e1 e2
 subst e1 e2
 have hk:k<l.length:=by have:=(List.getElem?_eq_some_iff.1 hv).1;rwa [bv_length] at this
 rw[bv_at l k hk] at hv
 rw[hc k (by rw[←h.len_eq];exact hk),hv]
theorem range_lt {w:World}{b off:Nat}{cs:List Value}(h:w.rangeAt b off cs)(hc:0<cs.length):∃c t fz,w.heap[b]?=some (.cells c t fz):=by
 have h0:=h 0 cs[0] (List.getElem?_eq_getElem hc)
 unfold World.cell? at h0
 split at h0
 ·rename_i c t fz hb
  exact⟨c,t,fz,hb⟩
 ·cases h0
theorem putQ_memJ (l:Qs)(i:Nat)(b:List UInt8):∀g∈putQ l i b,g∈l∨g=(i,b):=by
 induction l with
 | nil=>intro g hg;exact .inr (List.mem_singleton.1 hg)
 | cons x l ih =>
  intro g hg
  rw[putQ] at hg
  split at hg
  ·rcases List.mem_cons.1 hg with e|e
   ·exact .inl (by rw[e];simp)
   ·rcases ih g e with h|h
    ·exact .inl (List.mem_cons_of_mem _ h)
    ·exact .inr h
  ·split at hg
   ·rcases List.mem_cons.1 hg with e|e
    ·exact .inr e
    ·exact .inl (List.mem_cons_of_mem _ e)
   ·rcases List.mem_cons.1 hg with e|e
    ·exact .inr e
    ·exact .inl e
theorem wr51 {t:Tl}{j:Jl}{i:Int}{b:List UInt8}(h:t.over=true∨j.dead=true):t.wrE j i b=51∧t.write j i b=t:=by
 have:t.wrE j i b=51:=by unfold Tl.wrE;rw[if_pos h]
 exact⟨this,by unfold Tl.write;rw[if_neg (by rw[this];decide)]⟩
theorem wr50 {t:Tl}{j:Jl}{i:Int}{b:List UInt8}(h:¬(t.over=true∨j.dead=true))(ha:areaI j.p.n i=false):t.wrE j i b=50∧t.write j i b=t:=by
 have:t.wrE j i b=50:=by unfold Tl.wrE;rw[if_neg h,if_pos ha]
 exact⟨this,by unfold Tl.write;rw[if_neg (by rw[this];decide)]⟩
theorem wr1 {t:Tl}{j:Jl}{i:Int}{b:List UInt8}(h:¬(t.over=true∨j.dead=true))(ha:areaI j.p.n i=true)(hb:b.length≠512):t.wrE j i b=1∧t.write j i b=t:=by
 have:t.wrE j i b=1:=by unfold Tl.wrE;rw[if_neg h,if_neg (by rw[ha];decide),if_pos hb]
 exact⟨this,by unfold Tl.write;rw[if_neg (by rw[this];decide)]⟩
theorem wr44 {t:Tl}{j:Jl}{i:Int}{b:List UInt8}(h:¬(t.over=true∨j.dead=true))(ha:areaI j.p.n i=true)(hb:b.length=512)(hh:hitQ t.l i.toNat=false∧48≤t.l.length):t.wrE j i b=44∧t.write j i b=t:=by
 have:t.wrE j i b=44:=by unfold Tl.wrE;rw[if_neg h,if_neg (by rw[ha];decide),if_neg (by simp[hb]),if_pos hh]
 exact⟨this,by unfold Tl.write;rw[if_neg (by rw[this];decide)]⟩
theorem wr00 {t:Tl}{j:Jl}{i:Int}{b:List UInt8}(h:¬(t.over=true∨j.dead=true))(ha:areaI j.p.n i=true)(hb:b.length=512)(hh:¬(hitQ t.l i.toNat=false∧48≤t.l.length)):t.wrE j i b=0∧t.write j i b={ t with l:=putQ t.l i.toNat b }:=by
 have:t.wrE j i b=0:=by unfold Tl.wrE;rw[if_neg h,if_neg (by rw[ha];decide),if_neg (by simp[hb]),if_neg hh]
 exact⟨this,by unfold Tl.write;rw[if_pos this]⟩
def TwPost (w:World)(T J P base:Nat)(t:Tl)(j:Jl)(i:Int)(b:List UInt8)(e:Ending)(w':World):Prop:=e=.returned (.int .i64 (t.wrE j i b))∧TAx w' T J P base (t.write j i b) j∧KP base w w'
theorem twNo {w w':World}{T J P base:Nat}{t:Tl}{j:Jl}{M:Nat}{tr:Bool}{i z:Int}{b:List UInt8}(h:TAt w T J P base t j M tr)(hz:t.wrE j i b=z∧t.write j i b=t)(hb:Below w.heap.size w w'):TwPost w T J P base t j i b (.returned (.int .i64 z)) w' :=
 ⟨by rw[hz.1],by rw[hz.2];exact⟨M,tr,h.on hb⟩,KP.of_below hb (by have:=h.low;have:=h.blk.lt;omega)⟩
theorem isD_keepO {X:Nat→Prop}{w w':World}{P base:Nat}{p:Pl}(h:IsD X w P base p){us:List TypeId}(hk:KeepO us w w')(h1:109∈us)(h2:159∈us)(h3:200∈us):IsD X w' P base p:=by
 obtain⟨S,vC,arm,h⟩:=h
 exact⟨S,vC,arm,{ h with blk:=hk.blk h.blk h1,st:=hk.blk h.st h2,ca:=own_keepO hk h.ca h3,xlt:=fun k hx=>Nat.lt_of_lt_of_le (h.xlt k hx) hk.size }⟩
theorem map_keepO {w w':World}{M:Nat}{l:Qs}(hM:OwnM w M l)(hg:w.grownBy w' (some M))(us:List TypeId):KeepO us w w':=by
 obtain⟨es,cl,hob⟩:=ownM_obj hM
 exact⟨hg.size,fun k c ty fz hk _=>(hg.block k (Array.getElem?_eq_some_iff.1 hk).1 (fun e=>by
  have e:=Option.some.inj e
  subst e
  have:=hob.symm.trans hk
  cases this)).trans hk,fun k o hk ho=>(hg.block k (Array.getElem?_eq_some_iff.1 hk).1 (fun e=>by
  have e:=Option.some.inj e
  subst e
  have:=Option.some.inj (hob.symm.trans hk)
  subst this
  cases ho)).trans hk⟩
theorem twYes {w w1 w2:World}{T J P base:Nat}{t:Tl}{j:Jl}{M:Nat}{tr:Bool}{i:Int}{b:List UInt8}(h:TAt w T J P base t j M tr)(hb:Below w.heap.size w w1)(hz:t.wrE j i b=0∧t.write j i b={ t with l:=putQ t.l i.toNat b })(hi:areaI j.p.n i=true)(hn:j.p.n≤4096)(hl:b.length=512)(hM:w2.ownsMap Tryz.prog 3 secR M (t.l.length+1) ((mapD t.l).put (keyQ i.toNat) (.held (secV b))))(hg:w1.grownBy w2 (some M)):TwPost w T J P base t j i b (.returned (.int .i64 0)) w2:=by
 have h1:=h.on hb
 have hKO:=map_keepO h1.own hg
 have hlt:base≤w1.heap.size:=by have:=h1.low;have:=h1.blk.lt;omega
 have hBl:Below base w1 w2:=⟨hg.1,hg.2,hg.3,hg.4,fun k hk=>hg.block k (Nat.lt_of_lt_of_le hk hlt) (fun e=>by have:=Option.some.inj e;have:=h1.lowM;omega)⟩
 have hIs:IsD0 w2 P base j.p:=isD_keepO h1.ja.d (hKO [109,159,200]) (by simp) (by simp) (by simp)
 have ha:49≤i∧i<j.p.n:=by unfold areaI at hi;exact of_decide_eq_true hi
 refine⟨by rw[hz.1],⟨M,tr,⟨⟨(hKO [117]).blk h1.ja.blk (by simp),h1.ja.low,hIs,h1.ja.seq⟩,(hKO [129]).blk h1.blk (by simp),h1.low,h1.lowM,?_,?_,?_,?_⟩⟩,⟨(KeepO.of_below hb).trans (hKO _),(hb.mono (by have:=h.low;have:=h.blk.lt;omega)).trans hBl⟩⟩
 ·rw[hz.2]
  rw[mapD_put _ _ _ h.sort] at hM
  exact own_tight hM
 ·rw[hz.2];exact putQ_sort _ _ _ h.sort
 ·rw[hz.2]
  intro g hg
  rcases putQ_memJ _ _ _ g hg with e|e
  ·exact h.ok g e
  ·rw[e];exact⟨hl,by show 49≤i.toNat;omega,by show i.toNat<4096;omega⟩
 ·intro hd
  rw[hz.2]
  exact h.over hd
end
end Go.Proofs.YtpecobmfabmpkaaGreatDoor
