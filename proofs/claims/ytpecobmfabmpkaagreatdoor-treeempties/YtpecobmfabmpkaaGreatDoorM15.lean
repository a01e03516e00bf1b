/- PtL PjF BackL PjP Shelf1 PjK HashJ -/
import Derived.Test.YtpecobmfabmpkaaGreatDoorM14
import Derived.Shelf.SlGeneric
import Derived.Shelf.SlIterI.Nil
import Derived.Shelf.SortM.Plain
import Derived.Shelf.SortM.SortNone
import Derived.Test.YtpecobmfabmpkaaGreatDoorProg
set_option maxRecDepth 20000
set_option maxHeartbeats 4000000
namespace Go.Proofs.YtpecobmfabmpkaaGreatDoor
open Go.RowKit
theorem codPageBad (v:Value)(b:List UInt8)(w:World)(hs:SB w v b)(hb:b.length=512)(hbad:¬(b.getD 0 0=116∧(b.getD 1 0).toNat≤11)):
  Calls Tryz.prog 102 #[v] w (PgPost w b):=by
 have HNo:Hid (pgOf b=none):=by
  unfold Hid pgOf
  rw[if_neg (fun h=>hbad ⟨h.2.1,h.2.2⟩)]
 obtain⟨g,off,c,rfl,_⟩:=hs.head 3 (by omega)
 have HS:=mkHid hs
 have hW1:Below w.heap.size w ((w.alloc (.cells #[.slice (some ⟨g,off,none⟩) b.length c] 33)).alloc (.cells #[.int .i64 0,.int .i64 0,.slice none 0 0,.slice none 0 0] 133)):=((Below.refl _ w).alloc (Nat.le_refl _) _).alloc (by simp) _
 have k0:Blk ((w.alloc (.cells #[.slice (some ⟨g,off,none⟩) b.length c] 33)).alloc (.cells #[.int .i64 0,.int .i64 0,.slice none 0 0,.slice none 0 0] 133)) w.heap.size 33 [.slice (some ⟨g,off,none⟩) b.length c]:=(Blk.newAt w w.heap.size 33 _ [.slice (some ⟨g,off,none⟩) b.length c] rfl rfl).alloc _
 have k1:Blk ((w.alloc (.cells #[.slice (some ⟨g,off,none⟩) b.length c] 33)).alloc (.cells #[.int .i64 0,.int .i64 0,.slice none 0 0,.slice none 0 0] 133)) (w.heap.size+1) 133 [.int .i64 0,.int .i64 0,.slice none 0 0,.slice none 0 0]:=Blk.newAt _ (w.heap.size+1) 133 _ _ (by simp) rfl
 have hmf:∀(fn:Fn) (first cap:Array Value) (w:World),(Instr.makeFunc fn first cap).run Tryz.prog w=.ok (.func fn first cap) w:=fun _ _ _ _=>rfl
 have HNx:=nextYes w.heap.size _ b 3 _ w k0 hs (by omega)
 have K0:=mkHid k0
 have K1:=mkHid k1
 have HW1:=mkHid hW1
 have HBad:=mkHid hbad
 have HBl:=mkHid hb
 clear hs k0 k1 hW1 hbad
 simp only[hb] at HNx HS K0 K1 HW1 ⊢
 simp only[Int.cast_ofNat_Int] at HNx
 go_enter Tryz.func102,Tryz.ntmps102
 go_wp2_with fail
 refine HNx.mono ?_
 rintro e y1 ⟨u,v',rfl,hu,hv',rfl⟩
 obtain⟨g2,off2,c2,rfl,hcs⟩:=hu.three (by have:=HBl.out;omega)
 have hY1:=HW1.out.setCell (p:=⟨w.heap.size,0,none⟩) (Nat.le_refl _) v'
 have q0:=K0.out.set 0 v'
 have q1:=K1.out.other ⟨w.heap.size,0,none⟩ v' (by show w.heap.size+1≠w.heap.size;omega)
 have hsz:(((w.alloc (.cells #[.slice (some ⟨g,off,none⟩) 512 c] 33)).alloc (.cells #[.int .i64 0,.int .i64 0,.slice none 0 0,.slice none 0 0] 133)).setCell ⟨w.heap.size,0,none⟩ v').heap.size=w.heap.size+2:=by simp[World.setCell]
 clear HNx HS hu
 generalize ((w.alloc (.cells #[.slice (some ⟨g,off,none⟩) 512 c] 33)).alloc (.cells #[.int .i64 0,.int .i64 0,.slice none 0 0,.slice none 0 0] 133)).setCell ⟨w.heap.size,0,none⟩ v'=Y1 at *
 have kY:=KeepO.of_below (us:=UB) hY1
 obtain⟨a0,a1,a2⟩:=hcs Y1 kY
 have hB0:(b.getD 0 0).toNat=116↔b.getD 0 0=116:=⟨fun h=>UInt8.toNat_inj.1 h,fun h=>by rw[h];rfl⟩
 have hBad:¬((b.getD 0 0).toNat=116∧(b.getD 1 0).toNat≤11):=fun h=>HBad.out ⟨hB0.1 h.1,h.2⟩
 have hA:=(Below.refl _ Y1).alloc (Nat.le_refl _) (.cells #[.int .i64 0,.int .i64 ((b.getD 1 0).toNat:Int),.slice none 0 0,.slice none 0 0] 133)
 have kA:=KeepO.of_below (us:=UB) hA
 obtain⟨b0,b1,b2⟩:=hcs _ (kY.trans kA)
 have hkb:(b.getD 1 0).toNat<256:=UInt8.toNat_lt _
 have HBl4:Hid (Below w.heap.size w (Y1.alloc (.cells #[.int .i64 0,.int .i64 ((b.getD 1 0).toNat:Int),.slice none 0 0,.slice none 0 0] 133))):=hY1.alloc hY1.size _
 have hp1:(Y1.alloc (.cells #[.int .i64 0,.int .i64 ((b.getD 1 0).toNat:Int),.slice none 0 0,.slice none 0 0] 133)).cell? ⟨Y1.heap.size,1,none⟩=some (.int .i64 ((b.getD 1 0).toNat:Int)):=(Blk.new Y1 133 [.int .i64 0,.int .i64 ((b.getD 1 0).toNat:Int),.slice none 0 0,.slice none 0 0]).cell 1
 have HNn:=needNo13 4
 clear K0 K1 HW1 q0 q1 hcs a0 a2 b1 b2 hY1 hA kA kY hB0 HBad
 generalize (b.getD 1 0).toNat=lv at *
 generalize (b.getD 0 0).toNat=mk at *
 have hwl:IntKind.i64.wrap (lv:Int)=(lv:Int):=wrapi64_in _ (by omega) (by omega)
 by_cases hm:mk=116
 ·have hm':(mk:Int)=116:=by omega
  have hl':¬(lv:Int)≤11:=fun h=>hBad ⟨hm,by omega⟩
  have hdq:decide ((lv:Int)≤11)=false:=decide_eq_false hl'
  clear hm hBad
  go_wp2_with (go_at_call 99;refine(HNn _).mono ?_;rintro x w2 ⟨rfl,hww⟩;rw[hww];clear hww w2)
  exact bp_panic (PgPost.no HNo.out HBl4.out)
 ·have hm':¬(mk:Int)=116:=by omega
  have hbq:((mk:Int)==116)=false:=beq_eq_false_iff_ne.2 hm'
  clear hm hBad
  go_wp2_with (go_at_call 99;refine(HNn _).mono ?_;rintro x w2 ⟨rfl,hww⟩;rw[hww];clear hww w2)
  exact bp_panic (PgPost.no HNo.out HBl4.out)
theorem codPageOf (v:Value)(b:List UInt8)(w:World)(hs:SB w v b)(hb:b.length=512):Calls Tryz.prog 102 #[v] w (PgPost w b):=by
 by_cases h:b.getD 0 0=116∧(b.getD 1 0).toNat≤11
 ·by_cases h0:(b.getD 1 0).toNat=0
  ·exact codPageLow v b w hs hb h.1 h0
  ·exact codPageUp v b w hs hb h.1 _ rfl (by omega) h.2
 ·exact codPageBad v b w hs hb h
theorem codReadOk (X:Nat→Prop)(P base:Nat)(p:Pl)(k:Nat)(w:World)(h:IsD X w P base p)(hf:FewP p)(hoff:p.off=false)(hk:k<p.n):
  Calls Tryz.prog 62 #[.pointer (some ⟨P,0,none⟩),.int .i64 (k:Int)] w fun e w'=>∃g,e=.returned (.tuple #[.slice (some ⟨g,0,none⟩) 512 512,.int .i64 0])∧w.heap.size≤g∧(p.rdB (k:Int)).length=512∧Blk w' g 5 (bv (p.rdB (k:Int)))∧Below w.heap.size w w':=by
 obtain⟨S,vC,arm,h⟩:=h
 have HR:=codReach P S p.n p.off (k:Int) w (h.blk.cell 0) (h.blk.cell 3)
 have HH:=mkHid h
 have HF:=mkHid hf
 clear h hf
 have hin:inR p.n (k:Int)=true:=inR_nat hk
 rw[hoff,if_neg (by simp),hin,if_pos rfl] at HR
 have HE:Hid (p.rdB (k:Int)=p.ca.foldl Pl.put p.st k):=by unfold Hid Pl.rdB;simp[hoff,hin]
 have HL:Hid ((p.ca.foldl Pl.put p.st k).length=512):=fold_len512 _ _ p.n k hk (fun g hg=>(HF.out.at_ g hg).2) HH.out.len
 have HLa:=codLatest X P base S vC arm p k w HH.out HF.out hk
 rw[HE.out]
 generalize p.ca.foldl Pl.put p.st k=bb at *
 clear hoff hin hk
 go_enter Tryz.func62,Tryz.ntmps62
 go_wp2_with fail
 refine HR.mono ?_
 rintro e w1 ⟨rfl,hw1⟩
 obtain rfl:=hw1.symm
 go_wp2_with fail
 refine HLa.mono ?_
 rintro e w2 ⟨rfl,hb2⟩
 have HB2:=mkHid hb2
 clear hb2
 go_wp2_with fail
 refine(codBytes bb w2 HL.out).mono ?_
 rintro e w3 ⟨g,rfl,hg3,hB3,hb3⟩
 have HB3:=mkHid (And.intro hg3 (And.intro hB3 hb3))
 clear hg3 hB3 hb3
 go_wp2_with fail
 go_ret2
 exact⟨g,rfl,Nat.le_trans HB2.out.size HB3.out.1,HL.out,HB3.out.2.1,HB2.out.trans (HB3.out.2.2.mono HB2.out.size)⟩
structure IsFr (w:World)(F:Nat)(p:Pl)(gs:Nat→Nat):Prop where
 blk:Blk w F 33 (laidTo (dtv gs) (.slice none 0 0) 49 49)
 at_:∀i,i<49→F≠gs i∧(p.rdB (i:Int)).length=512∧Blk w (gs i) 5 (bv (p.rdB (i:Int)))
theorem IsFr.on {w w':World}{F:Nat}{p:Pl}{gs:Nat→Nat}(h:IsFr w F p gs)(hb:Below w.heap.size w w'):IsFr w' F p gs:=⟨h.blk.on hb,fun i hi=>⟨(h.at_ i hi).1,(h.at_ i hi).2.1,(h.at_ i hi).2.2.on hb⟩⟩
theorem IsFr.cell {w:World}{F:Nat}{p:Pl}{gs:Nat→Nat}(h:IsFr w F p gs)(i:Nat)(hi:i<49):w.cell? ⟨F,i,none⟩=some (.slice (some ⟨gs i,0,none⟩) 512 512):=by
 rw[h.blk.cell,laidTo_at _ _ _ _ _ hi,if_pos hi];rfl
theorem codFront (P base m:Nat)(p:Pl)(w:World)(h:IsD0 w P base p)(hf:FewM p m)(hm:m≤1000000)(hoff:p.off=false):
  Calls Tryz.prog 57 #[.pointer (some ⟨P,0,none⟩)] w fun e w'=>∃F,e=.returned (.tuple #[.slice (some ⟨F,0,none⟩) 49 49,.int .i64 0])∧(∃gs,IsFr w' F p gs)∧Below w.heap.size w w':=by
 have HI:=mkHid h
 have HF:=mkHid hf
 have HO:=mkHid hoff
 clear h hf hoff
 go_enter Tryz.func57,Tryz.ntmps57
 go_wp2_with (at_make;refine make_slices w rfl _ _ rfl 49 rfl rfl (by omega) ?_;intro w1 hB1 hg1;have HB1:=mkHid hB1;have HG1:=mkHid (gr_below hg1);clear hB1 hg1)
 obtain⟨S,hS⟩:∃S,S=w.heap.size:=⟨_,rfl⟩
 have HS:=mkHid hS
 rw[←hS] at HB1 ⊢
 clear hS
 go_loopw [11] (fun i wr=>∃(k:Nat) (gs:Nat→Nat),k≤49∧i=.int .i64 (k:Int)∧Hid (Blk wr S 33 (laidTo (dtv gs) (.slice none 0 0) 49 k))∧Hid (∀i,i<k→S≠gs i∧(p.rdB (i:Int)).length=512∧Blk wr (gs i) 5 (bv (p.rdB (i:Int))))∧Hid (Below w.heap.size w wr)) (fun i _=>49-(Go.RowKit.intOf i).toNat)
 case atStart=>exact⟨0,fun _=>0,Nat.zero_le _,rfl,by rw[laidTo_zero];exact HB1,fun i hi=>absurd hi (Nat.not_lt_zero i),HG1⟩
 case round =>
  obtain⟨k,gs,hk,rfl,HB,HBs,HW⟩:=hrel
  clear HB1 HG1
  by_cases hlt:k<49
  ·have hlt':(k:Int)<49:=by omega
   have hk0:(0:Int)≤(k:Int):=by omega
   have HRd:=codReadOk (fun _=>False) P base p k wr (HI.out.on HW.out) (HF.out.few hm) HO.out (by have:=HF.out.n0;omega)
   have HX:Hid (∀W g,Below wr.heap.size wr W→wr.heap.size≤g→(p.rdB (k:Int)).length=512→Blk W g 5 (bv (p.rdB (k:Int)))→∀i,i<k+1→S≠(fun i=>if i=k then g else gs i) i∧(p.rdB (i:Int)).length=512∧Blk W ((fun i=>if i=k then g else gs i) i) 5 (bv (p.rdB (i:Int)))):=fun W g hW hg hl hB i hi=>by
    have hSl:=HB.out.lt
    by_cases e:i=k
    ·subst e;simp only[if_true];exact⟨by omega,hl,hB⟩
    ·simp only[if_neg e]
     have:=HBs.out i (by omega)
     exact⟨this.1,this.2.1,this.2.2.on hW⟩
   generalize p.rdB (k:Int)=bb at *
   go_wp2_with fail
   refine HRd.mono ?_
   rintro e W1 ⟨g,rfl,hg,hl5,hBg,hb1⟩
   have hX1:=mkHid (HX.out W1 g hb1 hg hl5 hBg)
   have HB1:=mkHid (HB.out.on hb1)
   have HW1:=mkHid (HW.out.trans (hb1.mono HW.out.size))
   have hc:W1.cell? ⟨S,k,none⟩=some (.slice none 0 0):=by rw[HB1.out.cell,laidTo_at _ _ _ _ _ hlt,if_neg (by omega)]
   have hfz:=HB1.out.frozen k
   have HB2:Hid (Blk (W1.setCell ⟨S,k,none⟩ (.slice (some ⟨g,0,none⟩) 512 512)) S 33 (laidTo (dtv (fun i=>if i=k then g else gs i)) (.slice none 0 0) 49 (k+1))):=by
    have h1:=HB1.out
    rw[laidTo_congr (f':=dtv (fun i=>if i=k then g else gs i)) (fun i hi=>by unfold dtv;simp only[if_neg (show ¬i=k by omega)])] at h1
    have h2:=h1.set k (dtv (fun i=>if i=k then g else gs i) k)
    rw[laidTo_set _ _ _ _ hlt] at h2
    have e:dtv (fun i=>if i=k then g else gs i) k=.slice (some ⟨g,0,none⟩) 512 512:=by unfold dtv;simp only[if_true]
    rw[e] at h2
    exact h2
   have HX2:Hid (∀i,i<k+1→S≠(fun i=>if i=k then g else gs i) i∧(p.rdB (i:Int)).length=512∧Blk (W1.setCell ⟨S,k,none⟩ (.slice (some ⟨g,0,none⟩) 512 512)) ((fun i=>if i=k then g else gs i) i) 5 (bv (p.rdB (i:Int)))):=fun i hi=>by
    have:=hX1.out i hi
    exact⟨this.1,this.2.1,this.2.2.other _ _ (fun e=>this.1 e.symm)⟩
   have HW2:Hid (Below w.heap.size w (W1.setCell ⟨S,k,none⟩ (.slice (some ⟨g,0,none⟩) 512 512))):=HW1.out.trans (bel_one (gr_cell W1 S k _) (Nat.le_of_eq HS.out.symm) HB1.out.lt)
   clear HB1 HW1 HW hX1 HX HB HBs hg hl5 hBg hb1 HRd
   go_wp2_with fail
   go_roundw
   case rel=>exact⟨k+1,(fun i=>if i=k then g else gs i),by omega,by go_num,HB2,HX2,HW2⟩
   case measure=>simp[Go.RowKit.intOf];omega
  ·have hge:¬(k:Int)<49:=by omega
   have hkn:k=49:=by omega
   subst hkn
   go_wp2_with fail
   go_ret2
   exact⟨S,rfl,⟨gs,HB.out,HBs.out⟩,HW.out⟩
theorem codFrontNo (P base m:Nat)(p:Pl)(w:World)(h:IsD0 w P base p)(hf:FewM p m)(hm:m≤1000000)(hoff:p.off=true):
  Calls Tryz.prog 57 #[.pointer (some ⟨P,0,none⟩)] w fun e w'=>e=.returned (.tuple #[.slice none 0 0,.int .i64 51])∧Below w.heap.size w w':=by
 have HI:=mkHid h
 have HF:=mkHid hf
 have HO:Hid (p.rdE ((0:Nat):Int)=51∧p.rdB ((0:Nat):Int)=[]):=by unfold Hid Pl.rdE Pl.rdB;simp[hoff]
 clear h hf hoff
 go_enter Tryz.func57,Tryz.ntmps57
 go_wp2_with (at_make;refine make_slices w rfl _ _ rfl 49 rfl rfl (by omega) ?_;intro w1 hB1 hg1;have HG1:=mkHid (gr_below hg1);clear hB1 hg1)
 go_loopw [11] (fun i wr=>i=.int .i64 ((0:Nat):Int)∧Hid (Below w.heap.size w wr)) (fun i _=>49-(Go.RowKit.intOf i).toNat)
 case atStart=>exact⟨rfl,HG1⟩
 case round =>
  obtain⟨rfl,HW⟩:=hrel
  have HRd:=codRead (fun _=>False) P base p ((0:Nat):Int) wr (HI.out.on HW.out) (HF.out.few hm)
  rw[HO.out.1,HO.out.2] at HRd
  have hz:((0:Nat):Int)=0:=rfl
  rw[hz] at HRd
  go_wp2_with fail
  refine HRd.mono ?_
  rintro e W1 ⟨⟨a,c,rfl,_,_⟩,hb1⟩
  have HW1:=mkHid (HW.out.trans (hb1.mono HW.out.size))
  clear hb1 HRd
  go_wp2_with fail
  go_ret2
  exact⟨rfl,HW1.out⟩
end Go.Proofs.YtpecobmfabmpkaaGreatDoor
namespace Go.Proofs.YtpecobmfabmpkaaGreatDoor
theorem nth_zero_cons (x : UInt8) (l : List UInt8) : nth (x :: l) 0 = x := by simp [nth]
theorem nth_succ_cons (x : UInt8) (l : List UInt8) (k : Nat) : nth (x :: l) (1 + k) = nth l k := by rw [Nat.add_comm]; simp [nth]
theorem nth_app (l m : List UInt8) (k : Nat) (h : k < l.length) : nth (l ++ m) k = nth l k := by
  unfold nth; rw [List.getD_eq_getElem?_getD, List.getD_eq_getElem?_getD, List.getElem?_append_left h]
theorem nth_beL (n size k j : Nat) (h : j < k) : nth (beL n size k) j = beAt n size j := by
  rw [nth_eq _ _ (by rw [beL_length]; exact h)]; simp [beL]
theorem numTo_be (m : UInt8) (n size : Nat) (r : List UInt8) : ∀ j, j ≤ size → numTo (m :: (beL n size size ++ r)) j = n / 2 ^ (8 * (size - j)) % 256 ^ j
  | 0, _ => by simp [numTo, Nat.mod_one]
  | j + 1, h => by
    rw [numTo, numTo_be m n size r j (by omega), nth_succ_cons, nth_app _ _ _ (by rw [beL_length]; omega), nth_beL _ _ _ _ (by omega)]
    unfold beAt
    rw [UInt8.toNat_ofNat']
    have e1 : 8 * (size - j) = 8 * (size - 1 - j) + 8 := by omega
    have e2 : 8 * (size - (j + 1)) = 8 * (size - 1 - j) := by omega
    rw [e1, e2, Nat.pow_add, ← Nat.div_div_eq_div_mul]
    generalize n / 2 ^ (8 * (size - 1 - j)) = x
    have e3 : (2 : Nat) ^ 8 = 256 := by decide
    have e4 : (256 : Nat) ^ (j + 1) = 256 * 256 ^ j := by rw [Nat.pow_succ, Nat.mul_comm]
    rw [e3, e4, Nat.mod_mul, Nat.mul_comm, Nat.add_comm]
theorem numTo_all (m : UInt8) (n size : Nat) (r : List UInt8) (h : n < 256 ^ size) : numTo (m :: (beL n size size ++ r)) size = n := by
  rw [numTo_be m n size r size (Nat.le_refl _), Nat.sub_self]
  simp [Nat.mod_eq_of_lt h]
theorem behL_eq (l : List UInt8) (m : UInt8) (n s k : Nat) : behL l m n s k = l ++ behL [] m n s k := by simp [behL]
theorem rdUint_back (n : Nat) (r : List UInt8) (h : n < 18446744073709551616) : rdUint (behL [] 117 n 8 8 ++ r) false = (n, r, false) := by
  have e : behL [] 117 n 8 8 ++ r = 117 :: (beL n 8 8 ++ r) := by simp [behL]
  have hn := numTo_all 117 n 8 r (by have : (256 : Nat) ^ 8 = 18446744073709551616 := by decide
                                     omega)
  have hl := beL_length n 8 8
  rw [e]
  unfold rdUint
  rw [if_pos (by unfold okH; rw [nth_zero_cons]; simp [hl]), hn]
  refine Prod.ext rfl (Prod.ext ?_ rfl)
  show List.drop 9 (117 :: (beL n 8 8 ++ r)) = r
  rw [List.drop_succ_cons, List.drop_left' hl]
theorem rdSome_back (m : UInt8) (b r : List UInt8) (h : b.length < 4294967296) : rdSome m (behL [] m b.length 4 4 ++ b ++ r) false = (b, r, false) := by
  have e : behL [] m b.length 4 4 ++ b ++ r = m :: (beL b.length 4 4 ++ (b ++ r)) := by simp [behL]
  have hn := numTo_all m b.length 4 (b ++ r) (by have : (256 : Nat) ^ 4 = 4294967296 := by decide
                                                 omega)
  have hl := beL_length b.length 4 4
  have hd : List.drop 5 (m :: (beL b.length 4 4 ++ (b ++ r))) = b ++ r := by rw [List.drop_succ_cons, List.drop_left' hl]
  rw [e]
  unfold rdSome
  rw [if_pos (by unfold okB okH; rw [nth_zero_cons, hn]; simp [hl]; omega), hn, ← List.drop_drop, hd]
  refine Prod.ext ?_ (Prod.ext ?_ rfl)
  · exact List.take_left
  · exact List.drop_left
theorem rdList_back (n : Nat) (r : List UInt8) (most : Int) (h : (n : Int) ≤ most) (hn : n < 4294967296) : rdList (behL [] 108 n 4 4 ++ r) false most = (n, r, false) := by
  have e : behL [] 108 n 4 4 ++ r = 108 :: (beL n 4 4 ++ r) := by simp [behL]
  have hn := numTo_all 108 n 4 r (by have : (256 : Nat) ^ 4 = 4294967296 := by decide
                                     omega)
  have hl := beL_length n 4 4
  rw [e]
  unfold rdList
  rw [if_pos (by unfold okL okH; rw [nth_zero_cons, hn]; simp [hl, h]), hn]
  refine Prod.ext rfl (Prod.ext ?_ rfl)
  show List.drop 5 (108 :: (beL n 4 4 ++ r)) = r
  rw [List.drop_succ_cons, List.drop_left' hl]
end Go.Proofs.YtpecobmfabmpkaaGreatDoor
namespace Go.Proofs.YtpecobmfabmpkaaGreatDoor
open Go.RowKit
theorem fold_pre (xs:Qs):∀b:List UInt8,∃R,xs.foldl (fun b g=>uintL b g.1) b=b++R:=by
 induction xs with
 | nil=>intro b;exact⟨[],by simp⟩
 | cons g xs ih =>
  intro b
  obtain⟨R,hR⟩:=ih (uintL b g.1)
  refine⟨behL [] 117 g.1 8 8++R,?_⟩
  rw[List.foldl_cons,hR]
  unfold uintL
  rw[behL_eq b,List.append_assoc]
theorem seal_form (s:Nat)(l:Qs)(hl:l.length≤48):∃R,sealJ s l=behL [] 115 steleB.length 4 4++steleB++(behL [] 117 s 8 8++(behL [] 108 l.length 4 4++R)):=by
 obtain⟨R,hR⟩:=fold_pre (l.take l.length) (listL (uintL (textL [] steleB) s) (l.length:Int))
 have hH:headJ s l=listL (uintL (textL [] steleB) s) (l.length:Int)++R:=hR
 have hL:listL (uintL (textL [] steleB) s) (l.length:Int)=behL [] 115 steleB.length 4 4++steleB++(behL [] 117 s 8 8++behL [] 108 l.length 4 4):=by
  unfold listL uintL textL
  rw[if_neg (by omega),behL_eq (behL _ _ _ _ _),behL_eq (behL [] 115 _ _ _++steleB)]
  simp
 refine⟨R++(98::beL (sumJ s l).length 4 4++(sumJ s l++List.replicate (512-(preJ s l).length) 0)),?_⟩
 have hP:preJ s l=headJ s l++(98::beL (sumJ s l).length 4 4++sumJ s l):=by unfold preJ bytesL behL;simp
 unfold sealJ
 rw[hP,hH,hL]
 simp
theorem seal_hd {s:Nat}{l:Qs}{b:List UInt8}(hs:s<18446744073709551616)(hl:l.length≤48)(h:sealJ s l=b):(hdName b).1=steleB∧(hdSeq b).1=s∧(hdN b).2.2=false∧(hdN b).1=l.length:=by
 obtain⟨R,hR⟩:=seal_form s l hl
 rw[h] at hR
 have h1:hdName b=(steleB,behL [] 117 s 8 8++(behL [] 108 l.length 4 4++R),false):=by
  unfold hdName
  rw[hR]
  exact rdSome_back 115 steleB _ (by decide)
 have h2:hdSeq b=(s,behL [] 108 l.length 4 4++R,false):=by
  unfold hdSeq
  rw[h1]
  exact rdUint_back s _ hs
 have h3:hdN b=(l.length,R,false):=by
  unfold hdN
  rw[h2]
  exact rdList_back l.length R 48 (by omega) (by omega)
 rw[h1,h2,h3]
 exact⟨rfl,rfl,rfl,rfl⟩
theorem rdUint_bad {r:List UInt8}{bad:Bool}(h:(rdUint r bad).2.2=true):(rdUint r bad).1=0:=by
 unfold rdUint at h ⊢
 split
 ·rename_i h1;rw[if_pos h1] at h;cases h
 ·rfl
theorem go_no {p:Pl}{k i:Nat}{r:List UInt8}{bad:Bool}{l:Qs}(h:(rdUint r bad).1<49∨p.n≤(rdUint r bad).1):heldGo p (k+1) i r bad l=none:=by
 rw[heldGo,if_pos (.inr h)]
theorem go_yes {p:Pl}{k i:Nat}{r:List UInt8}{bad:Bool}{l:Qs}(h:¬((rdUint r bad).1<49∨p.n≤(rdUint r bad).1)):heldGo p (k+1) i r bad l=heldGo p k (i+1) (rdUint r bad).2.1 (rdUint r bad).2.2 (l++[((rdUint r bad).1,p.rdB ((1+i:Nat):Int))]):=by
 rw[heldGo,if_neg]
 rintro(h1|h1)
 ·exact h (.inl (by rw[rdUint_bad h1];omega))
 ·exact h h1
theorem go_bad {p:Pl}:∀(k i:Nat) (r:List UInt8) (l:Qs) (q:Qs × Bool),heldGo p k i r false l=some q→q.2=false:=by
 intro k
 induction k with
 | zero=>intro i r l q h;rw[heldGo] at h;rw[←Option.some.inj h]
 | succ k ih =>
  intro i r l q h
  rw[heldGo] at h
  split at h
  ·cases h
  ·rename_i hc
   have:(rdUint r false).2.2=false:=by
    cases hq:(rdUint r false).2.2 with
    | false=>rfl
    | true=>exact absurd (.inl hq) hc
   rw[this] at h
   exact ih _ _ _ q h
theorem hdSeq_lt (b:List UInt8):(hdSeq b).1<18446744073709551616:=rdUint_lt _ _
theorem held_none {p:Pl}{b:List UInt8}(h:heldGo p (hdN b).1 0 (hdN b).2.1 (hdN b).2.2 []=none):heldB p b=none:=by unfold heldB;rw[h];rfl
theorem held_no {p:Pl}{b:List UInt8}{q:Qs × Bool}(h:heldGo p (hdN b).1 0 (hdN b).2.1 (hdN b).2.2 []=some q)(hs:sealJ (hdSeq b).1 q.1≠b):heldB p b=none:=by
 unfold heldB;rw[h]
 obtain⟨l,bad⟩:=q
 show (if bad=true∨(hdName b).1≠steleB∨sealJ (hdSeq b).1 l≠b then none else some ((hdSeq b).1,l))=none
 rw[if_pos (.inr (.inr hs))]
theorem held_yes {p:Pl}{b:List UInt8}{q:Qs × Bool}(h:heldGo p (hdN b).1 0 (hdN b).2.1 (hdN b).2.2 []=some q)(hl:q.1.length≤48)(hs:sealJ (hdSeq b).1 q.1=b):heldB p b=some ((hdSeq b).1,q.1):=by
 obtain⟨h1,_,h3,_⟩:=seal_hd (hdSeq_lt b) hl hs
 have hb:q.2=false:=by
  rw[h3] at h
  exact go_bad _ _ _ _ q h
 unfold heldB;rw[h]
 obtain⟨l,bad⟩:=q
 show (if bad=true∨(hdName b).1≠steleB∨sealJ (hdSeq b).1 l≠b then none else some ((hdSeq b).1,l))=_
 rw[if_neg]
 rintro(h4|h4|h4)
 ·have hb:bad=false:=hb
  rw[hb] at h4;cases h4
 ·exact h4 h1
 ·exact h4 hs
theorem hdN_le (b:List UInt8):(hdN b).1≤48:=by
 unfold hdN rdList
 split
 ·rename_i h
  unfold okL at h
  have:=(Bool.and_eq_true_iff.1 h).2
  have:=of_decide_eq_true this
  show numTo _ 4≤48
  omega
 ·show 0≤48;omega
end Go.Proofs.YtpecobmfabmpkaaGreatDoor
namespace Go.Proofs
open Go.Shelf
def Tryz.keysA_ren:Go.Shelf.Ren:=⟨fun|7=>118|10=>161|n=>n,fun|23=>120|26=>3|3=>152|28=>180|0=>0|27=>179|33=>173|4=>4|n=>n,fun|n=>n⟩
theorem Tryz.keysA:Go.Proofs.SlLaysZI.n7 Tryz.prog Tryz.keysA_ren:={
  mixed:=by kernel_rfl
  f7:=⟨Tryz.f118.name,by decide,Tryz.func118.trans (congrArg some (by kernel_rfl))⟩
  f10:=⟨Tryz.f161.name,by decide,Tryz.func161.trans (congrArg some (by kernel_rfl))⟩
  t0:=Tryz.underlying0
  a0:=Tryz.isAgg0
  z0:=Tryz.sizeOf0
  v0:=Tryz.zeroValue0
  t4:=Tryz.underlying4
  a4:=Tryz.isAgg4
  z4:=Tryz.sizeOf4
  v4:=Tryz.zeroValue4
  t23:=Tryz.underlying120
  a23:=Tryz.isAgg120
  z23:=Tryz.sizeOf120
  v23:=Tryz.zeroValue120
  t26:=Tryz.underlying3
  a26:=Tryz.isAgg3
  z26:=Tryz.sizeOf3
  v26:=Tryz.zeroValue3
  t27:=Tryz.underlying179
  a27:=Tryz.isAgg179
  z27:=Tryz.sizeOf179
  v27:=Tryz.zeroValue179
  t28:=Tryz.underlying180
  a28:=Tryz.isAgg180
  z28:=Tryz.sizeOf180
  v28:=Tryz.zeroValue180
  t33:=Tryz.underlying173
  a33:=Tryz.isAgg173
  z33:=Tryz.sizeOf173
  v33:=Tryz.zeroValue173 }
def Tryz.sortedA_ren:Go.Shelf.Ren:=⟨fun|6=>117|8=>159|9=>160|11=>189|13=>191|12=>190|23=>221|24=>222|14=>212|15=>213|16=>214|17=>215|18=>216|19=>217|20=>218|21=>219|22=>220|25=>236|26=>237|27=>238|28=>239|29=>240|30=>241|31=>244|n=>n,fun|26=>3|28=>180|24=>58|0=>0|3=>3|37=>205|48=>101|50=>105|4=>4|40=>276|39=>275|45=>61|5=>5|9=>9|51=>292|55=>288|57=>301|58=>302|33=>173|n=>n,fun|n=>n⟩
theorem Tryz.sortedA:Go.Proofs.SlLaysZI.n6 Tryz.prog Tryz.sortedA_ren:={
  mixed:=by kernel_rfl
  f6:=⟨Tryz.f117.name,by decide,Tryz.func117.trans (congrArg some (by kernel_rfl))⟩
  f8:=⟨Tryz.f159.name,by decide,Tryz.func159.trans (congrArg some (by kernel_rfl))⟩
  f11:=⟨Tryz.f189.name,by decide,Tryz.func189.trans (congrArg some (by kernel_rfl))⟩
  t0:=Tryz.underlying0
  a0:=Tryz.isAgg0
  z0:=Tryz.sizeOf0
  v0:=Tryz.zeroValue0
  t24:=Tryz.underlying58
  a24:=Tryz.isAgg58
  z24:=Tryz.sizeOf58
  v24:=Tryz.zeroValue58
  t26:=Tryz.underlying3
  a26:=Tryz.isAgg3
  z26:=Tryz.sizeOf3
  v26:=Tryz.zeroValue3
  t28:=Tryz.underlying180
  a28:=Tryz.isAgg180
  z28:=Tryz.sizeOf180
  v28:=Tryz.zeroValue180
  i26:=by kernel_rfl }
def Tryz.sortA_ren:Go.Shelf.Ren:=⟨fun|5=>160|8=>191|7=>190|19=>221|20=>222|10=>212|11=>213|12=>214|13=>215|14=>216|15=>217|16=>218|17=>219|18=>220|30=>236|31=>237|32=>238|33=>239|34=>240|35=>241|40=>244|n=>n,fun|23=>58|25=>3|3=>3|32=>205|22=>58|0=>0|44=>101|46=>105|4=>4|36=>276|35=>275|41=>61|5=>5|9=>9|53=>292|57=>288|63=>301|64=>302|n=>n,fun|n=>n⟩
theorem Tryz.sortA:Go.Proofs.SlLaysM.n5 Tryz.prog Tryz.sortA_ren:={
  mixed:=by kernel_rfl
  f5:=⟨Tryz.f160.name,by decide,Tryz.func160.trans (congrArg some (by kernel_rfl))⟩
  f7:=⟨Tryz.f190.name,by decide,Tryz.func190.trans (congrArg some (by kernel_rfl))⟩
  f8:=Tryz.func191.trans (congrArg some (by kernel_rfl))
  f10:=⟨Tryz.f212.name,by decide,Tryz.func212.trans (congrArg some (by kernel_rfl))⟩
  f11:=⟨Tryz.f213.name,by decide,Tryz.func213.trans (congrArg some (by kernel_rfl))⟩
  f12:=⟨Tryz.f214.name,by decide,Tryz.func214.trans (congrArg some (by kernel_rfl))⟩
  f13:=⟨Tryz.f215.name,by decide,Tryz.func215.trans (congrArg some (by kernel_rfl))⟩
  f14:=⟨Tryz.f216.name,by decide,Tryz.func216.trans (congrArg some (by kernel_rfl))⟩
  f15:=⟨Tryz.f217.name,by decide,Tryz.func217.trans (congrArg some (by kernel_rfl))⟩
  f16:=⟨Tryz.f218.name,by decide,Tryz.func218.trans (congrArg some (by kernel_rfl))⟩
  f17:=⟨Tryz.f219.name,by decide,Tryz.func219.trans (congrArg some (by kernel_rfl))⟩
  f18:=⟨Tryz.f220.name,by decide,Tryz.func220.trans (congrArg some (by kernel_rfl))⟩
  f19:=Tryz.func221.trans (congrArg some (by kernel_rfl))
  f20:=Tryz.func222.trans (congrArg some (by kernel_rfl))
  f30:=⟨Tryz.f236.name,by decide,Tryz.func236.trans (congrArg some (by kernel_rfl))⟩
  f31:=Tryz.func237.trans (congrArg some (by kernel_rfl))
  f32:=Tryz.func238.trans (congrArg some (by kernel_rfl))
  f33:=⟨Tryz.f239.name,by decide,Tryz.func239.trans (congrArg some (by kernel_rfl))⟩
  f34:=⟨Tryz.f240.name,by decide,Tryz.func240.trans (congrArg some (by kernel_rfl))⟩
  f35:=⟨Tryz.f241.name,by decide,Tryz.func241.trans (congrArg some (by kernel_rfl))⟩
  f40:=⟨Tryz.f244.name,by decide,Tryz.func244.trans (congrArg some (by kernel_rfl))⟩
  t0:=Tryz.underlying0
  a0:=Tryz.isAgg0
  z0:=Tryz.sizeOf0
  v0:=Tryz.zeroValue0
  t3:=Tryz.underlying3
  a3:=Tryz.isAgg3
  z3:=Tryz.sizeOf3
  v3:=Tryz.zeroValue3
  t4:=Tryz.underlying4
  a4:=Tryz.isAgg4
  z4:=Tryz.sizeOf4
  v4:=Tryz.zeroValue4
  t5:=Tryz.underlying5
  a5:=Tryz.isAgg5
  z5:=Tryz.sizeOf5
  v5:=Tryz.zeroValue5
  t9:=Tryz.underlying9
  a9:=Tryz.isAgg9
  z9:=Tryz.sizeOf9
  v9:=Tryz.zeroValue9
  t22:=Tryz.underlying58
  a22:=Tryz.isAgg58
  z22:=Tryz.sizeOf58
  v22:=Tryz.zeroValue58
  t23:=Tryz.underlying58
  a23:=Tryz.isAgg58
  z23:=Tryz.sizeOf58
  v23:=Tryz.zeroValue58
  t25:=Tryz.underlying3
  a25:=Tryz.isAgg3
  z25:=Tryz.sizeOf3
  v25:=Tryz.zeroValue3
  t32:=Tryz.underlying205
  a32:=Tryz.isAgg205
  z32:=Tryz.sizeOf205
  v32:=Tryz.zeroValue205
  t35:=Tryz.underlying275
  a35:=Tryz.isAgg275
  z35:=Tryz.sizeOf275
  v35:=Tryz.zeroValue275
  t36:=Tryz.underlying276
  a36:=Tryz.isAgg276
  z36:=Tryz.sizeOf276
  v36:=Tryz.zeroValue276
  t41:=Tryz.underlying61
  a41:=Tryz.isAgg61
  z41:=Tryz.sizeOf61
  v41:=Tryz.zeroValue61
  t44:=Tryz.underlying101
  a44:=Tryz.isAgg101
  z44:=Tryz.sizeOf101
  v44:=Tryz.zeroValue101
  t46:=Tryz.underlying105
  a46:=Tryz.isAgg105
  z46:=Tryz.sizeOf105
  v46:=Tryz.zeroValue105
  t53:=Tryz.underlying292
  a53:=Tryz.isAgg292
  z53:=Tryz.sizeOf292
  v53:=Tryz.zeroValue292
  t57:=Tryz.underlying288
  a57:=Tryz.isAgg288
  z57:=Tryz.sizeOf288
  v57:=Tryz.zeroValue288
  t63:=Tryz.underlying301
  a63:=Tryz.isAgg301
  z63:=Tryz.sizeOf301
  v63:=Tryz.zeroValue301
  t64:=Tryz.underlying302
  a64:=Tryz.isAgg302
  z64:=Tryz.sizeOf302
  v64:=Tryz.zeroValue302 }
end Go.Proofs
namespace Go.Proofs.YtpecobmfabmpkaaGreatDoor
open Go.RowKit Go.Sort Go.Shelf
theorem sortsA (m:Nat):AnyZI.SortsIn Tryz.prog Tryz.sortedA_ren Fence.wide m :=
  ⟨fun blk off cap ss W hH hblk hsz=>callsIn_wide.2 (AnyM.slices_Sort_int Tryz.sortA blk off cap ss W hH hblk hsz),
   fun p cap W=>callsIn_wide.2 (AnyM.slices_Sort_int_none Tryz.sortA p cap W)⟩
theorem codKeys (mb:Option Nat)(W:World):
    Calls Tryz.prog 118 #[.map mb] W fun e w'=>e=.returned (.func (.func 161) #[] #[.pointer (some ⟨W.heap.size,0,none⟩)])∧w'=W.alloc (.cells #[.map mb] 120):=
  (callsIn_wide (n:=5)).1 (AnyZI.keys_in Tryz.keysA Fence.wide 5 trivial rfl mb W)
theorem row_isIs {w:World}{base:Nat}{v:Value}{l:Qs}(h:w.ownsRow base 3 1 v l.length ((l.map fun g=>(g.1:Int)).map encZ)):∃a cap,v=.slice a l.length cap∧IsIs w a l.length cap l:=by
  have hx:∀i,i<l.length→((l.map fun g=>(g.1:Int)).map encZ)[i]?=some (.int .i64 ((nthL l i).1:Int)):=fun i hi=>by
    unfold nthL
    simp[hi,encZ]
  rcases h.2 with⟨rfl,h0⟩|⟨g,cap,cur,rfl,hb,hg,hle,hmax,hsz,htk⟩
  · refine⟨none,0,by rw[h0],⟨rfl,fun hp=>absurd hp (by omega)⟩⟩
  · refine⟨_,cap,rfl,⟨rfl,fun hp=>⟨g,0,rfl,⟨_,_,hg⟩,fun i hi=>?_⟩⟩⟩
    have hc:=World.ownsRow.cells (w:=w) (base:=base) (e:=3) (size:=1) (v:=.slice (some ⟨g,0,none⟩) l.length cap) (n:=l.length) (xs:=(l.map fun g=>(g.1:Int)).map encZ) ⟨h.1,.inr ⟨g,cap,cur,rfl,hb,hg,hle,hmax,hsz,htk⟩⟩ (g:=g) rfl i _ (hx i hi)
    rw[Addr.add_lit] at hc
    exact hc
theorem codSorted (w:World)(M:Nat)(l:Qs)(h:OwnM w M l)(hs:SortQ l)(h48:l.length≤48):
    Calls Tryz.prog 117 #[.func (.func 161) #[] #[.pointer (some ⟨w.heap.size,0,none⟩)]] (w.alloc (.cells #[.map (some M)] 120)) fun e w'=>∃a cap,e=.returned (.slice a l.length cap)∧IsIs w' a l.length cap l∧Below w.heap.size w w':=by
  have hbl:=h.lt
  have hseq:SeqGives Fence.wide 2 Tryz.prog 161 #[.pointer (some ⟨w.heap.size,0,none⟩)] encZ (fun ss=>ss.Perm (intKeys (mapD l))) (Maps.size (mapD l)) (w.alloc (.cells #[.map (some M)] 120)):=
    AnyZI.keys_gives (ρ:=Tryz.keysA_ren) { Tryz.keysA with } Fence.wide _ trivial rfl (by omega) w.heap.size M l.length (mapD l) _ (by simp) (by simp) (ownM_on h ((Below.refl _ w).alloc (Nat.le_refl _) _))
  have cS:=AnyZI.sorted_in Tryz.sortedA Fence.wide 5 trivial trivial trivial trivial rfl (by omega) (sortsA _) (enters_of Tryz.func160 (by kernel_rfl) rfl) 161 #[.pointer (some ⟨w.heap.size,0,none⟩)] trivial (enters_of Tryz.func161 (by kernel_rfl) rfl) _ _ (by rw[mapD_size];unfold maxLen;omega) (by rw[mapD_size];omega) _ hseq
  change CallsIn _ _ Tryz.prog 117 _ _ _ at cS
  refine((callsIn_wide (n:=5)).1 cS).mono ?_
  rintro e w' ⟨v,ss,rfl,hS,hrow,_,hb⟩
  have hlen:ss.length=l.length:=by
    have:=hS.length_eq
    rw[mapD_keys,List.length_map] at this
    exact this
  have hk:ss.mergeSort (fun x y=>decide (x≤y))=l.map fun g=>(g.1:Int):=sorted_keys l hs ss hS
  rw[hk,hlen] at hrow
  obtain⟨a,cap,rfl,hI⟩:=row_isIs hrow
  exact⟨a,cap,rfl,hI,((Below.refl _ w).alloc (Nat.le_refl _) _).trans (hb.mono (by simp))⟩
end Go.Proofs.YtpecobmfabmpkaaGreatDoor
namespace Go.Proofs.YtpecobmfabmpkaaGreatDoor
open Go.RowKit
attribute [local go_sem ↓] zv83
def kc256:List Value:=kcOf (32:Nat) s256 193
def IsH (w:World)(G:Nat)(A:List UInt8):Prop :=
 ∃ws buf,ws.length=8∧Blk w G 234 (rc kc256 ws buf A.length)∧Inv mix256L s256.list A A.length ws buf
theorem IsH.on {w w':World}{G:Nat}{A:List UInt8}(h:IsH w G A)(hb:Below w.heap.size w w'):IsH w' G A:=by
 obtain⟨ws,buf,h1,h2,h3⟩:=h
 exact⟨ws,buf,h1,h2.on hb,h3⟩
theorem IsH.lt {w:World}{G:Nat}{A:List UInt8}(h:IsH w G A):G<w.heap.size:=by
 obtain⟨ws,buf,h1,h2,h3⟩:=h
 exact h2.lt
theorem hNew (w:World):Calls Tryz.prog 128 #[] w fun e w'=>∃G,e=.returned (.pointer (some ⟨G,0,none⟩))∧w.heap.size≤G∧IsH w' G []∧Below w.heap.size w w':=by
 have hb:Tryz.prog.built 234 [(0,.agg (rc kc256 s256.list (List.replicate 64 0) 0).toArray)]=some (rc kc256 s256.list (List.replicate 64 0) 0).toArray:=by kernel_rfl
 go_enter Tryz.func128,Tryz.ntmps128
 go_wp2_with fail
 refine(digKind256 w).mono ?_
 rintro e w1 ⟨rfl,b1⟩
 go_wp2_with fail
 refine(digBegin (32:Nat) s256 193 w1).mono ?_
 rintro e w2 ⟨rfl,b2⟩
 have t2:Below w.heap.size w w2:=b1.trans (b2.mono b1.size)
 go_wp2_with (refine list_build rfl 234 _ rfl [(0,.agg (rc kc256 s256.list (List.replicate 64 0) 0).toArray)] (by simp only[List.map_toArray,List.map_cons,List.map_nil];rfl) (rc kc256 s256.list (List.replicate 64 0) 0).toArray hb ?_)
 go_ret
 exact⟨w2.heap.size,rfl,t2.size,⟨s256.list,List.replicate 64 0,rfl,Blk.newAt w2 _ _ _ _ rfl rfl,Inv.start_ _ _ _ _ (List.length_replicate ..)⟩,t2.alloc t2.size _⟩
theorem hAdd (G:Nat)(A l:List UInt8)(a:Option Addr)(len cap:Nat)(w:World)(h:IsH w G A)(hl:IsB w a len cap l)(hG:0<len→∀b off,a=some ⟨b,off,none⟩→b≠G)(hn:A.length+len<9223372036854775808):
  Calls Tryz.prog 129 #[.pointer (some ⟨G,0,none⟩),.slice a len cap] w fun e w'=>e=.returned (.tuple #[])∧IsH w' G (A++l)∧w.grownBy w' (some G):=by
 obtain⟨ws,buf,h8,hb,hi⟩:=h
 have HB:Hid (Blk w G 234 (rc kc256 ws buf A.length)):=hb
 have HI:Hid (Inv mix256L s256.list A A.length ws buf):=hi
 have HL:Hid (IsB w a len cap l):=hl
 have HE:Hid (l.length=len):=hl.len_eq
 have HG:Hid (0<len→∀b off,a=some ⟨b,off,none⟩→b≠G):=hG
 clear hb hi hl hG
 go_enter Tryz.func129,Tryz.ntmps129
 go_wp2_with fail
 refine(digAdd 193 mix256L s256.list mixOK256 kc256 rfl rfl G 234 ws buf A l a len cap w h8 HB.out HI.out HL.out HG.out hn).mono ?_
 rintro e w1 ⟨rfl,ws',buf',h8',hb',hi',hg⟩
 have HN:Hid (IsH w1 G (A++l)):=⟨ws',buf',h8',by rw[List.length_append,HE.out];exact hb',by rw[List.length_append,HE.out];exact hi'⟩
 clear hb' hi'
 go_wp2_with fail
 go_end0
 exact⟨rfl,HN.out,hg⟩
theorem info83':(Tryz.prog.info? 230).map (·.size)=some 83:=by kernel_rfl
theorem hSum (G:Nat)(A:List UInt8)(w:World)(h:IsH w G A)(hn:A.length<4294967296):
  Calls Tryz.prog 131 #[.pointer (some ⟨G,0,none⟩)] w fun e w'=>∃v,e=.returned v∧OwnB w' w.heap.size v (sha256L A)∧Below w.heap.size w w':=by
 obtain⟨ws,buf,h8,hb,hi⟩:=h
 have hsz:(Tryz.prog.info? 230).map (·.size)=some (rc kc256 ws buf A.length).toArray.size:=by rw[info83',List.size_toArray,rc_length kc256 ws buf A.length rfl h8 hi.size]
 have HI:Hid (Inv mix256L s256.list A A.length ws buf):=hi
 clear hi
 go_enter Tryz.func131,Tryz.ntmps131
 go_wp2_with (refine wpList_load_row rfl 230 _ rfl _ rfl _ _ _ _ hb Tryz.underlying230 rfl hsz ?_)
 refine(digSum 193 mix256L s256.list mixOK256 32 (by omega) kc256 rfl rfl rfl ws buf A w h8 HI.out hn).mono ?_
 rintro e w1 ⟨v,rfl,ho,hb1⟩
 have HO:Hid (OwnB w1 w.heap.size v (sha256L A)):=ho
 clear ho
 go_wp2_with fail
 go_ret
 exact⟨_,rfl,HO.out,hb1⟩
end Go.Proofs.YtpecobmfabmpkaaGreatDoor
