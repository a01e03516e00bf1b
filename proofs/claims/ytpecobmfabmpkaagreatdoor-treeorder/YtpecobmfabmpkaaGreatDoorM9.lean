/- PtL PjF BackL PjP Shelf1 PjK HashJ Pj7 PjM PjE -/
import Derived.Test.YtpecobmfabmpkaaGreatDoorM8
import Derived.Shelf.SlGeneric
import Derived.Shelf.SlIterI.Nil
import Derived.Shelf.SortM.Plain
import Derived.Shelf.SortM.SortNone
import Derived.Test.YtpecobmfabmpkaaGreatDoorProg
set_option maxRecDepth 20000
set_option maxHeartbeats 4000000
namespace Go.Proofs.YtpecobmfabmpkaaGreatDoor
section
open Go.RowKit
theorem codPageBad (v:Value)(b:List UInt8)(w:World)(hs:SB w v b)(hb:b.length=512)(hbad:¬(b.getD 0 0=116∧(b.getD 1 0).toNat≤11)):
  Calls Tryz.prog 102 #[v] w (PgPost w b):=by
 have HNo:Hid (pgOf b=none):=by
  unfold Hid pgOf
  rw[if_neg (fun h=>hbad ⟨h.2.1,h.2.2⟩)]
 obtain⟨g,off,c,rfl,_⟩:=hs.head 3 (by omega)
 have HS:=mkHid hs
 have hW1:Below w.heap.size w ((w.alloc (.cells #[.slice (some ⟨g,off,none⟩) b.length c] 33)).alloc (.cells #[.int .i64 0,.int .i64 0,.slice none 0 0,.slice none 0 0] 133)):=((Below.refl _ w).alloc (Nat.le_refl _) _).alloc (by simp) _
 have k0:Blk ((w.alloc (.cells #[.slice (some ⟨g,off,none⟩) b.length c] 33)).alloc (.cells #[.int .i64 0,.int .i64 0,.slice none 0 0,.slice none 0 0] 133)) w.heap.size 33 [.slice (some ⟨g,off,none⟩) b.length c]:=(Blk.newAt w w.heap.size 33 _ [.slice (some ⟨g,off,none⟩) b.length c] rfl rfl).alloc _
 have k1:Blk ((w.alloc (.cells #[.slice (some ⟨g,off,none⟩) b.length c] 33)).alloc (.cells #[.int .i64 0,.int .i64 0,.slice none 0 0,.slice none 0 0] 133)) (w.heap.size+1) 133 [.int .i64 0,.int .i64 0,.slice none 0 0,.slice none 0 0]:=Blk.newAt _ (w.heap.size+1) 133 _ _ (by simp) rfl
 have hmf:=mkF0
 have HNx:=nextYes w.heap.size _ b 3 _ w k0 hs (by omega)
 have K0:=mkHid k0
 have K1:=mkHid k1
 have HW1:=mkHid hW1
 have HBad:=mkHid hbad
 have HBl:=mkHid hb
 clear hs k0 k1 hW1 hbad
 simp only[hb] at HNx HS K0 K1 HW1 ⊢
 simp only[Int.cast_ofNat_Int] at HNx
 go_enter Tryz.func102,Tryz.ntmps102
 go_wp2_with fail
 refine HNx.mono ?_
 rintro e y1 ⟨u,v',rfl,hu,hv',rfl⟩
 obtain⟨g2,off2,c2,rfl,hcs⟩:=hu.three (by have:=HBl.out;omega)
 have hY1:=HW1.out.setCell (p:=⟨w.heap.size,0,none⟩) (Nat.le_refl _) v'
 have q0:=K0.out.set 0 v'
 have q1:=K1.out.other ⟨w.heap.size,0,none⟩ v' (by show w.heap.size+1≠w.heap.size;omega)
 have hsz:(((w.alloc (.cells #[.slice (some ⟨g,off,none⟩) 512 c] 33)).alloc (.cells #[.int .i64 0,.int .i64 0,.slice none 0 0,.slice none 0 0] 133)).setCell ⟨w.heap.size,0,none⟩ v').heap.size=w.heap.size+2:=by simp[World.setCell]
 clear HNx HS hu
 generalize ((w.alloc (.cells #[.slice (some ⟨g,off,none⟩) 512 c] 33)).alloc (.cells #[.int .i64 0,.int .i64 0,.slice none 0 0,.slice none 0 0] 133)).setCell ⟨w.heap.size,0,none⟩ v'=Y1 at *
 have kY:=KeepO.of_below (us:=UB) hY1
 obtain⟨a0,a1,a2⟩:=hcs Y1 kY
 have hB0:(b.getD 0 0).toNat=116↔b.getD 0 0=116:=⟨fun h=>UInt8.toNat_inj.1 h,fun h=>by rw[h];rfl⟩
 have hBad:¬((b.getD 0 0).toNat=116∧(b.getD 1 0).toNat≤11):=fun h=>HBad.out ⟨hB0.1 h.1,h.2⟩
 have hA:=(Below.refl _ Y1).alloc (Nat.le_refl _) (.cells #[.int .i64 0,.int .i64 ((b.getD 1 0).toNat:Int),.slice none 0 0,.slice none 0 0] 133)
 have kA:=KeepO.of_below (us:=UB) hA
 obtain⟨b0,b1,b2⟩:=hcs _ (kY.trans kA)
 have hkb:(b.getD 1 0).toNat<256:=UInt8.toNat_lt _
 have HBl4:Hid (Below w.heap.size w (Y1.alloc (.cells #[.int .i64 0,.int .i64 ((b.getD 1 0).toNat:Int),.slice none 0 0,.slice none 0 0] 133))):=hY1.alloc hY1.size _
 have hp1:(Y1.alloc (.cells #[.int .i64 0,.int .i64 ((b.getD 1 0).toNat:Int),.slice none 0 0,.slice none 0 0] 133)).cell? ⟨Y1.heap.size,1,none⟩=some (.int .i64 ((b.getD 1 0).toNat:Int)):=(Blk.new Y1 133 [.int .i64 0,.int .i64 ((b.getD 1 0).toNat:Int),.slice none 0 0,.slice none 0 0]).cell 1
 have HNn:=needNo13 4
 clear K0 K1 HW1 q0 q1 hcs a0 a2 b1 b2 hY1 hA kA kY hB0 HBad
 generalize (b.getD 1 0).toNat=lv at *
 generalize (b.getD 0 0).toNat=mk at *
 have hwl:IntKind.i64.wrap (lv:Int)=(lv:Int):=wrapi64_in _ (by omega) (by omega)
 by_cases hm:mk=116
 ·have hm':(mk:Int)=116:=by omega
  have hl':¬(lv:Int)≤11:=fun h=>hBad ⟨hm,by omega⟩
  have hdq:decide ((lv:Int)≤11)=false:=decide_eq_false hl'
  clear hm hBad
  go_wp2_with (go_at_call 99;refine(HNn _).mono ?_;rintro x w2 ⟨rfl,hww⟩;rw[hww];clear hww w2)
  exact bp_panic (PgPost.no HNo.out HBl4.out)
 ·have hm':¬(mk:Int)=116:=by omega
  have hbq:((mk:Int)==116)=false:=beq_eq_false_iff_ne.2 hm'
  clear hm hBad
  go_wp2_with (go_at_call 99;refine(HNn _).mono ?_;rintro x w2 ⟨rfl,hww⟩;rw[hww];clear hww w2)
  exact bp_panic (PgPost.no HNo.out HBl4.out)
theorem codPageOf (v:Value)(b:List UInt8)(w:World)(hs:SB w v b)(hb:b.length=512):Calls Tryz.prog 102 #[v] w (PgPost w b):=by
 by_cases h:b.getD 0 0=116∧(b.getD 1 0).toNat≤11
 ·by_cases h0:(b.getD 1 0).toNat=0
  ·exact codPageLow v b w hs hb h.1 h0
  ·exact codPageUp v b w hs hb h.1 _ rfl (by omega) h.2
 ·exact codPageBad v b w hs hb h
theorem codReadOk (X:Nat→Prop)(P base:Nat)(p:Pl)(k:Nat)(w:World)(h:IsD X w P base p)(hf:FewP p)(hoff:p.off=false)(hk:k<p.n):
  Calls Tryz.prog 62 #[.pointer (some ⟨P,0,none⟩),.int .i64 (k:Int)] w fun e w'=>∃g,e=.returned (.tuple #[.slice (some ⟨g,0,none⟩) 512 512,.int .i64 0])∧w.heap.size≤g∧(p.rdB (k:Int)).length=512∧Blk w' g 5 (bv (p.rdB (k:Int)))∧Below w.heap.size w w':=by
 obtain⟨S,vC,arm,h⟩:=h
 have HR:=codReach P S p.n p.off (k:Int) w (h.blk.cell 0) (h.blk.cell 3)
 have HH:=mkHid h
 have HF:=mkHid hf
 clear h hf
 have hin:inR p.n (k:Int)=true:=inR_nat hk
 rw[hoff,if_neg (by simp),hin,if_pos rfl] at HR
 have HE:Hid (p.rdB (k:Int)=p.ca.foldl Pl.put p.st k):=by unfold Hid Pl.rdB;simp[hoff,hin]
 have HL:Hid ((p.ca.foldl Pl.put p.st k).length=512):=fold_len512 _ _ p.n k hk (fun g hg=>(HF.out.at_ g hg).2) HH.out.len
 have HLa:=codLatest X P base S vC arm p k w HH.out HF.out hk
 rw[HE.out]
 generalize p.ca.foldl Pl.put p.st k=bb at *
 clear hoff hin hk
 go_enter Tryz.func62,Tryz.ntmps62
 go_wp2_with fail
 refine HR.mono ?_
 rintro e w1 ⟨rfl,hw1⟩
 obtain rfl:=hw1.symm
 go_wp2_with fail
 refine HLa.mono ?_
 rintro e w2 ⟨rfl,hb2⟩
 have HB2:=mkHid hb2
 clear hb2
 go_wp2_with fail
 refine(codBytes bb w2 HL.out).mono ?_
 rintro e w3 ⟨g,rfl,hg3,hB3,hb3⟩
 have HB3:=mkHid (And.intro hg3 (And.intro hB3 hb3))
 clear hg3 hB3 hb3
 go_wp2_with fail
 go_ret2
 exact⟨g,rfl,Nat.le_trans HB2.out.size HB3.out.1,HL.out,HB3.out.2.1,HB2.out.trans (HB3.out.2.2.mono HB2.out.size)⟩
structure IsFr (w:World)(F:Nat)(p:Pl)(gs:Nat→Nat):Prop where
 blk:Blk w F 33 (laidTo (dtv gs) (.slice none 0 0) 49 49)
 at_:∀i,i<49→F≠gs i∧(p.rdB (i:Int)).length=512∧Blk w (gs i) 5 (bv (p.rdB (i:Int)))
theorem IsFr.on {w w':World}{F:Nat}{p:Pl}{gs:Nat→Nat}(h:IsFr w F p gs)(hb:Below w.heap.size w w'):IsFr w' F p gs:=⟨h.blk.on hb,fun i hi=>⟨(h.at_ i hi).1,(h.at_ i hi).2.1,(h.at_ i hi).2.2.on hb⟩⟩
theorem IsFr.cell {w:World}{F:Nat}{p:Pl}{gs:Nat→Nat}(h:IsFr w F p gs)(i:Nat)(hi:i<49):w.cell? ⟨F,i,none⟩=some (.slice (some ⟨gs i,0,none⟩) 512 512):=by
 rw[h.blk.cell,laidTo_at _ _ _ _ _ hi,if_pos hi];rfl
theorem codFront (P base m:Nat)(p:Pl)(w:World)(h:IsD0 w P base p)(hf:FewM p m)(hm:m≤1000000)(hoff:p.off=false):
  Calls Tryz.prog 57 #[.pointer (some ⟨P,0,none⟩)] w fun e w'=>∃F,e=.returned (.tuple #[.slice (some ⟨F,0,none⟩) 49 49,.int .i64 0])∧(∃gs,IsFr w' F p gs)∧Below w.heap.size w w':=by
 have HI:=mkHid h
 have HF:=mkHid hf
 have HO:=mkHid hoff
 clear h hf hoff
 go_enter Tryz.func57,Tryz.ntmps57
 go_wp2_with (at_make;refine make_slices w rfl _ _ rfl 49 rfl rfl (by omega) ?_;intro w1 hB1 hg1;have HB1:=mkHid hB1;have HG1:=mkHid (gr_below hg1);clear hB1 hg1)
 obtain⟨S,hS⟩:∃S,S=w.heap.size:=⟨_,rfl⟩
 have HS:=mkHid hS
 rw[←hS] at HB1 ⊢
 clear hS
 go_loopw [11] (fun i wr=>∃(k:Nat) (gs:Nat→Nat),k≤49∧i=.int .i64 (k:Int)∧Hid (Blk wr S 33 (laidTo (dtv gs) (.slice none 0 0) 49 k))∧Hid (∀i,i<k→S≠gs i∧(p.rdB (i:Int)).length=512∧Blk wr (gs i) 5 (bv (p.rdB (i:Int))))∧Hid (Below w.heap.size w wr)) (fun i _=>49-(Go.RowKit.intOf i).toNat)
 case atStart=>exact⟨0,fun _=>0,Nat.zero_le _,rfl,by rw[laidTo_zero];exact HB1,fun i hi=>absurd hi (Nat.not_lt_zero i),HG1⟩
 case round =>
  obtain⟨k,gs,hk,rfl,HB,HBs,HW⟩:=hrel
  clear HB1 HG1
  by_cases hlt:k<49
  ·have hlt':(k:Int)<49:=by omega
   have hk0:(0:Int)≤(k:Int):=by omega
   have HRd:=codReadOk (fun _=>False) P base p k wr (HI.out.on HW.out) (HF.out.few hm) HO.out (by have:=HF.out.n0;omega)
   have HX:Hid (∀W g,Below wr.heap.size wr W→wr.heap.size≤g→(p.rdB (k:Int)).length=512→Blk W g 5 (bv (p.rdB (k:Int)))→∀i,i<k+1→S≠(fun i=>if i=k then g else gs i) i∧(p.rdB (i:Int)).length=512∧Blk W ((fun i=>if i=k then g else gs i) i) 5 (bv (p.rdB (i:Int)))):=fun W g hW hg hl hB i hi=>by
    have hSl:=HB.out.lt
    by_cases e:i=k
    ·subst e;simp only[if_true];exact⟨by omega,hl,hB⟩
    ·simp only[if_neg e]
     have:=HBs.out i (by omega)
     exact⟨this.1,this.2.1,this.2.2.on hW⟩
   generalize p.rdB (k:Int)=bb at *
   go_wp2_with fail
   refine HRd.mono ?_
   rintro e W1 ⟨g,rfl,hg,hl5,hBg,hb1⟩
   have hX1:=mkHid (HX.out W1 g hb1 hg hl5 hBg)
   have HB1:=mkHid (HB.out.on hb1)
   have HW1:=mkHid (HW.out.trans (hb1.mono HW.out.size))
   have hc:W1.cell? ⟨S,k,none⟩=some (.slice none 0 0):=by rw[HB1.out.cell,laidTo_at _ _ _ _ _ hlt,if_neg (by omega)]
   have hfz:=HB1.out.frozen k
   have HB2:Hid (Blk (W1.setCell ⟨S,k,none⟩ (.slice (some ⟨g,0,none⟩) 512 512)) S 33 (laidTo (dtv (fun i=>if i=k then g else gs i)) (.slice none 0 0) 49 (k+1))):=by
    have h1:=HB1.out
    rw[laidTo_congr (f':=dtv (fun i=>if i=k then g else gs i)) (fun i hi=>by unfold dtv;simp only[if_neg (show ¬i=k by omega)])] at h1
    have h2:=h1.set k (dtv (fun i=>if i=k then g else gs i) k)
    rw[laidTo_set _ _ _ _ hlt] at h2
    have e:dtv (fun i=>if i=k then g else gs i) k=.slice (some ⟨g,0,none⟩) 512 512:=by unfold dtv;simp only[if_true]
    rw[e] at h2
    exact h2
   have HX2:Hid (∀i,i<k+1→S≠(fun i=>if i=k then g else gs i) i∧(p.rdB (i:Int)).length=512∧Blk (W1.setCell ⟨S,k,none⟩ (.slice (some ⟨g,0,none⟩) 512 512)) ((fun i=>if i=k then g else gs i) i) 5 (bv (p.rdB (i:Int)))):=fun i hi=>by
    have:=hX1.out i hi
    exact⟨this.1,this.2.1,this.2.2.other _ _ (fun e=>this.1 e.symm)⟩
   have HW2:Hid (Below w.heap.size w (W1.setCell ⟨S,k,none⟩ (.slice (some ⟨g,0,none⟩) 512 512))):=HW1.out.trans (bel_one (gr_cell W1 S k _) (Nat.le_of_eq HS.out.symm) HB1.out.lt)
   clear HB1 HW1 HW hX1 HX HB HBs hg hl5 hBg hb1 HRd
   go_wp2_with fail
   go_roundw
   case rel=>exact⟨k+1,(fun i=>if i=k then g else gs i),by omega,by go_num,HB2,HX2,HW2⟩
   case measure=>simp[Go.RowKit.intOf];omega
  ·have hge:¬(k:Int)<49:=by omega
   have hkn:k=49:=by omega
   subst hkn
   go_wp2_with fail
   go_ret2
   exact⟨S,rfl,⟨gs,HB.out,HBs.out⟩,HW.out⟩
theorem codFrontNo (P base m:Nat)(p:Pl)(w:World)(h:IsD0 w P base p)(hf:FewM p m)(hm:m≤1000000)(hoff:p.off=true):
  Calls Tryz.prog 57 #[.pointer (some ⟨P,0,none⟩)] w fun e w'=>e=.returned (.tuple #[.slice none 0 0,.int .i64 51])∧Below w.heap.size w w':=by
 have HI:=mkHid h
 have HF:=mkHid hf
 have HO:Hid (p.rdE ((0:Nat):Int)=51∧p.rdB ((0:Nat):Int)=[]):=by unfold Hid Pl.rdE Pl.rdB;simp[hoff]
 clear h hf hoff
 go_enter Tryz.func57,Tryz.ntmps57
 go_wp2_with (at_make;refine make_slices w rfl _ _ rfl 49 rfl rfl (by omega) ?_;intro w1 hB1 hg1;have HG1:=mkHid (gr_below hg1);clear hB1 hg1)
 go_loopw [11] (fun i wr=>i=.int .i64 ((0:Nat):Int)∧Hid (Below w.heap.size w wr)) (fun i _=>49-(Go.RowKit.intOf i).toNat)
 case atStart=>exact⟨rfl,HG1⟩
 case round =>
  obtain⟨rfl,HW⟩:=hrel
  have HRd:=codRead (fun _=>False) P base p ((0:Nat):Int) wr (HI.out.on HW.out) (HF.out.few hm)
  rw[HO.out.1,HO.out.2] at HRd
  have hz:((0:Nat):Int)=0:=rfl
  rw[hz] at HRd
  go_wp2_with fail
  refine HRd.mono ?_
  rintro e W1 ⟨⟨a,c,rfl,_,_⟩,hb1⟩
  have HW1:=mkHid (HW.out.trans (hb1.mono HW.out.size))
  clear hb1 HRd
  go_wp2_with fail
  go_ret2
  exact⟨rfl,HW1.out⟩
end
section
theorem nth_zero_cons (x:UInt8)(l:List UInt8):nth (x::l) 0=x:=by simp[nth]
theorem nth_succ_cons (x:UInt8)(l:List UInt8)(k:Nat):nth (x::l) (1+k)=nth l k:=by rw[Nat.add_comm];simp[nth]
theorem nth_app (l m:List UInt8)(k:Nat)(h:k<l.length):nth (l++m) k=nth l k:=by
 unfold nth;rw[List.getD_eq_getElem?_getD,List.getD_eq_getElem?_getD,List.getElem?_append_left h]
theorem nth_beL (n size k j:Nat)(h:j<k):nth (beL n size k) j=beAt n size j:=by
 rw[nth_eq _ _ (by rw[beL_length];exact h)];simp[beL]
theorem numTo_be (m:UInt8)(n size:Nat)(r:List UInt8):∀j,j≤size→numTo (m::(beL n size size++r)) j=n/2 ^ (8 * (size-j))%256 ^ j
 | 0,_=>by simp[numTo,Nat.mod_one]
 | j+1,h=>by
  rw[numTo,numTo_be m n size r j (by omega),nth_succ_cons,nth_app _ _ _ (by rw[beL_length];omega),nth_beL _ _ _ _ (by omega)]
  unfold beAt
  rw[UInt8.toNat_ofNat']
  have e1:8 * (size-j)=8 * (size-1-j)+8:=by omega
  have e2:8 * (size-(j+1))=8 * (size-1-j):=by omega
  rw[e1,e2,Nat.pow_add,←Nat.div_div_eq_div_mul]
  generalize n/2 ^ (8 * (size-1-j))=x
  have e3:(2:Nat) ^ 8=256:=by decide
  have e4:(256:Nat) ^ (j+1)=256 * 256 ^ j:=by rw[Nat.pow_succ,Nat.mul_comm]
  rw[e3,e4,Nat.mod_mul,Nat.mul_comm,Nat.add_comm]
theorem numTo_all (m:UInt8)(n size:Nat)(r:List UInt8)(h:n<256 ^ size):numTo (m::(beL n size size++r)) size=n:=by
 rw[numTo_be m n size r size (Nat.le_refl _),Nat.sub_self]
 simp[Nat.mod_eq_of_lt h]
theorem behL_eq (l:List UInt8)(m:UInt8)(n s k:Nat):behL l m n s k=l++behL [] m n s k:=by simp[behL]
theorem rdUint_back (n:Nat)(r:List UInt8)(h:n<18446744073709551616):rdUint (behL [] 117 n 8 8++r) false=(n,r,false):=by
 have e:behL [] 117 n 8 8++r=117::(beL n 8 8++r):=by simp[behL]
 have hn:=numTo_all 117 n 8 r (by (have:(256:Nat) ^ 8=18446744073709551616:=by decide);omega)
 have hl:=beL_length n 8 8
 rw[e]
 unfold rdUint
 rw[if_pos (by unfold okH;rw[nth_zero_cons];simp[hl]),hn]
 refine Prod.ext rfl (Prod.ext ?_ rfl)
 show List.drop 9 (117::(beL n 8 8++r))=r
 rw[List.drop_succ_cons,List.drop_left' hl]
theorem rdSome_back (m:UInt8)(b r:List UInt8)(h:b.length<4294967296):rdSome m (behL [] m b.length 4 4++b++r) false=(b,r,false):=by
 have e:behL [] m b.length 4 4++b++r=m::(beL b.length 4 4++(b++r)):=by simp[behL]
 have hn:=numTo_all m b.length 4 (b++r) (by (have:(256:Nat) ^ 4=4294967296:=by decide);omega)
 have hl:=beL_length b.length 4 4
 have hd:List.drop 5 (m::(beL b.length 4 4++(b++r)))=b++r:=by rw[List.drop_succ_cons,List.drop_left' hl]
 rw[e]
 unfold rdSome
 rw[if_pos (by unfold okB okH;rw[nth_zero_cons,hn];simp[hl];omega),hn,←List.drop_drop,hd]
 refine Prod.ext ?_ (Prod.ext ?_ rfl)
 ·exact List.take_left
 ·exact List.drop_left
theorem rdList_back (n:Nat)(r:List UInt8)(most:Int)(h:(n:Int)≤most)(hn:n<4294967296):rdList (behL [] 108 n 4 4++r) false most=(n,r,false):=by
 have e:behL [] 108 n 4 4++r=108::(beL n 4 4++r):=by simp[behL]
 have hn:=numTo_all 108 n 4 r (by (have:(256:Nat) ^ 4=4294967296:=by decide);omega)
 have hl:=beL_length n 4 4
 rw[e]
 unfold rdList
 rw[if_pos (by unfold okL okH;rw[nth_zero_cons,hn];simp[hl,h]),hn]
 refine Prod.ext rfl (Prod.ext ?_ rfl)
 show List.drop 5 (108::(beL n 4 4++r))=r
 rw[List.drop_succ_cons,List.drop_left' hl]
end
section
open Go.RowKit
theorem fold_pre (xs:Qs):∀b:List UInt8,∃R,xs.foldl (fun b g=>uintL b g.1) b=b++R:=by
 induction xs with
 | nil=>intro b;exact⟨[],by simp⟩
 | cons g xs ih =>
  intro b
  obtain⟨R,hR⟩:=ih (uintL b g.1)
  refine⟨behL [] 117 g.1 8 8++R,?_⟩
  rw[List.foldl_cons,hR]
  unfold uintL
  rw[behL_eq b,List.append_assoc]
theorem seal_form (s:Nat)(l:Qs)(hl:l.length≤48):∃R,sealJ s l=behL [] 115 steleB.length 4 4++steleB++(behL [] 117 s 8 8++(behL [] 108 l.length 4 4++R)):=by
 obtain⟨R,hR⟩:=fold_pre (l.take l.length) (listL (uintL (textL [] steleB) s) (l.length:Int))
 have hH:headJ s l=listL (uintL (textL [] steleB) s) (l.length:Int)++R:=hR
 have hL:listL (uintL (textL [] steleB) s) (l.length:Int)=behL [] 115 steleB.length 4 4++steleB++(behL [] 117 s 8 8++behL [] 108 l.length 4 4):=by
  unfold listL uintL textL
  rw[if_neg (by omega),behL_eq (behL _ _ _ _ _),behL_eq (behL [] 115 _ _ _++steleB)]
  simp
 refine⟨R++(98::beL (sumJ s l).length 4 4++(sumJ s l++List.replicate (512-(preJ s l).length) 0)),?_⟩
 have hP:preJ s l=headJ s l++(98::beL (sumJ s l).length 4 4++sumJ s l):=by unfold preJ bytesL behL;simp
 unfold sealJ
 rw[hP,hH,hL]
 simp
theorem seal_hd {s:Nat}{l:Qs}{b:List UInt8}(hs:s<18446744073709551616)(hl:l.length≤48)(h:sealJ s l=b):(hdName b).1=steleB∧(hdSeq b).1=s∧(hdN b).2.2=false∧(hdN b).1=l.length:=by
 obtain⟨R,hR⟩:=seal_form s l hl
 rw[h] at hR
 have h1:hdName b=(steleB,behL [] 117 s 8 8++(behL [] 108 l.length 4 4++R),false):=by
  unfold hdName
  rw[hR]
  exact rdSome_back 115 steleB _ (by decide)
 have h2:hdSeq b=(s,behL [] 108 l.length 4 4++R,false):=by
  unfold hdSeq
  rw[h1]
  exact rdUint_back s _ hs
 have h3:hdN b=(l.length,R,false):=by
  unfold hdN
  rw[h2]
  exact rdList_back l.length R 48 (by omega) (by omega)
 rw[h1,h2,h3]
 exact⟨rfl,rfl,rfl,rfl⟩
theorem rdUint_bad {r:List UInt8}{bad:Bool}(h:(rdUint r bad).2.2=true):(rdUint r bad).1=0:=by
 unfold rdUint at h ⊢
 split
 ·rename_i h1;rw[if_pos h1] at h;cases h
 ·rfl
theorem go_no {p:Pl}{k i:Nat}{r:List UInt8}{bad:Bool}{l:Qs}(h:(rdUint r bad).1<49∨p.n≤(rdUint r bad).1):heldGo p (k+1) i r bad l=none:=by
 rw[heldGo,if_pos (.inr h)]
theorem go_yes {p:Pl}{k i:Nat}{r:List UInt8}{bad:Bool}{l:Qs}(h:¬((rdUint r bad).1<49∨p.n≤(rdUint r bad).1)):heldGo p (k+1) i r bad l=heldGo p k (i+1) (rdUint r bad).2.1 (rdUint r bad).2.2 (l++[((rdUint r bad).1,p.rdB ((1+i:Nat):Int))]):=by
 rw[heldGo,if_neg]
 rintro(h1|h1)
 ·exact h (.inl (by rw[rdUint_bad h1];omega))
 ·exact h h1
theorem go_bad {p:Pl}:∀(k i:Nat) (r:List UInt8) (l:Qs) (q:Qs × Bool),heldGo p k i r false l=some q→q.2=false:=by
 intro k
 induction k with
 | zero=>intro i r l q h;rw[heldGo] at h;rw[←Option.some.inj h]
 | succ k ih =>
  intro i r l q h
  rw[heldGo] at h
  split at h
  ·cases h
  ·rename_i hc
   have:(rdUint r false).2.2=false:=by
    cases hq:(rdUint r false).2.2 with
    | false=>rfl
    | true=>exact absurd (.inl hq) hc
   rw[this] at h
   exact ih _ _ _ q h
theorem hdSeq_lt (b:List UInt8):(hdSeq b).1<18446744073709551616:=rdUint_lt _ _
theorem held_none {p:Pl}{b:List UInt8}(h:heldGo p (hdN b).1 0 (hdN b).2.1 (hdN b).2.2 []=none):heldB p b=none:=by unfold heldB;rw[h];rfl
theorem held_no {p:Pl}{b:List UInt8}{q:Qs × Bool}(h:heldGo p (hdN b).1 0 (hdN b).2.1 (hdN b).2.2 []=some q)(hs:sealJ (hdSeq b).1 q.1≠b):heldB p b=none:=by
 unfold heldB;rw[h]
 obtain⟨l,bad⟩:=q
 show (if bad=true∨(hdName b).1≠steleB∨sealJ (hdSeq b).1 l≠b then none else some ((hdSeq b).1,l))=none
 rw[if_pos (.inr (.inr hs))]
theorem held_yes {p:Pl}{b:List UInt8}{q:Qs × Bool}(h:heldGo p (hdN b).1 0 (hdN b).2.1 (hdN b).2.2 []=some q)(hl:q.1.length≤48)(hs:sealJ (hdSeq b).1 q.1=b):heldB p b=some ((hdSeq b).1,q.1):=by
 obtain⟨h1,_,h3,_⟩:=seal_hd (hdSeq_lt b) hl hs
 have hb:q.2=false:=by
  rw[h3] at h
  exact go_bad _ _ _ _ q h
 unfold heldB;rw[h]
 obtain⟨l,bad⟩:=q
 show (if bad=true∨(hdName b).1≠steleB∨sealJ (hdSeq b).1 l≠b then none else some ((hdSeq b).1,l))=_
 rw[if_neg]
 rintro(h4|h4|h4)
 ·have hb:bad=false:=hb
  rw[hb] at h4;cases h4
 ·exact h4 h1
 ·exact h4 hs
theorem hdN_le (b:List UInt8):(hdN b).1≤48:=by
 unfold hdN rdList
 split
 ·rename_i h
  unfold okL at h
  have:=(Bool.and_eq_true_iff.1 h).2
  have:=of_decide_eq_true this
  show numTo _ 4≤48
  omega
 ·show 0≤48;omega
end
end Go.Proofs.YtpecobmfabmpkaaGreatDoor
namespace Go.Proofs
section
open Go.Shelf
def Tryz.keysA_ren:Go.Shelf.Ren:=⟨fun|7=>118|10=>161|n=>n,fun|23=>120|26=>3|3=>152|28=>180|0=>0|27=>179|33=>173|4=>4|n=>n,fun|n=>n⟩
theorem Tryz.keysA:Go.Proofs.SlLaysZI.n7 Tryz.prog Tryz.keysA_ren:={
  mixed:=by kernel_rfl
  f7:=⟨Tryz.f118.name,by decide,Tryz.func118.trans (congrArg some (by kernel_rfl))⟩
  f10:=⟨Tryz.f161.name,by decide,Tryz.func161.trans (congrArg some (by kernel_rfl))⟩
  t0:=Tryz.underlying0
  a0:=Tryz.isAgg0
  z0:=Tryz.sizeOf0
  v0:=Tryz.zeroValue0
  t4:=Tryz.underlying4
  a4:=Tryz.isAgg4
  z4:=Tryz.sizeOf4
  v4:=Tryz.zeroValue4
  t23:=Tryz.underlying120
  a23:=Tryz.isAgg120
  z23:=Tryz.sizeOf120
  v23:=Tryz.zeroValue120
  t26:=Tryz.underlying3
  a26:=Tryz.isAgg3
  z26:=Tryz.sizeOf3
  v26:=Tryz.zeroValue3
  t27:=Tryz.underlying179
  a27:=Tryz.isAgg179
  z27:=Tryz.sizeOf179
  v27:=Tryz.zeroValue179
  t28:=Tryz.underlying180
  a28:=Tryz.isAgg180
  z28:=Tryz.sizeOf180
  v28:=Tryz.zeroValue180
  t33:=Tryz.underlying173
  a33:=Tryz.isAgg173
  z33:=Tryz.sizeOf173
  v33:=Tryz.zeroValue173 }
def Tryz.sortedA_ren:Go.Shelf.Ren:=⟨fun|6=>117|8=>159|9=>160|11=>189|13=>191|12=>190|23=>221|24=>222|14=>212|15=>213|16=>214|17=>215|18=>216|19=>217|20=>218|21=>219|22=>220|25=>236|26=>237|27=>238|28=>239|29=>240|30=>241|31=>244|n=>n,fun|26=>3|28=>180|24=>58|0=>0|3=>3|37=>205|48=>101|50=>105|4=>4|40=>276|39=>275|45=>61|5=>5|9=>9|51=>292|55=>288|57=>301|58=>302|33=>173|n=>n,fun|n=>n⟩
theorem Tryz.sortedA:Go.Proofs.SlLaysZI.n6 Tryz.prog Tryz.sortedA_ren:={
  mixed:=by kernel_rfl
  f6:=⟨Tryz.f117.name,by decide,Tryz.func117.trans (congrArg some (by kernel_rfl))⟩
  f8:=⟨Tryz.f159.name,by decide,Tryz.func159.trans (congrArg some (by kernel_rfl))⟩
  f11:=⟨Tryz.f189.name,by decide,Tryz.func189.trans (congrArg some (by kernel_rfl))⟩
  t0:=Tryz.underlying0
  a0:=Tryz.isAgg0
  z0:=Tryz.sizeOf0
  v0:=Tryz.zeroValue0
  t24:=Tryz.underlying58
  a24:=Tryz.isAgg58
  z24:=Tryz.sizeOf58
  v24:=Tryz.zeroValue58
  t26:=Tryz.underlying3
  a26:=Tryz.isAgg3
  z26:=Tryz.sizeOf3
  v26:=Tryz.zeroValue3
  t28:=Tryz.underlying180
  a28:=Tryz.isAgg180
  z28:=Tryz.sizeOf180
  v28:=Tryz.zeroValue180
  i26:=by kernel_rfl }
def Tryz.sortA_ren:Go.Shelf.Ren:=⟨fun|5=>160|8=>191|7=>190|19=>221|20=>222|10=>212|11=>213|12=>214|13=>215|14=>216|15=>217|16=>218|17=>219|18=>220|30=>236|31=>237|32=>238|33=>239|34=>240|35=>241|40=>244|n=>n,fun|23=>58|25=>3|3=>3|32=>205|22=>58|0=>0|44=>101|46=>105|4=>4|36=>276|35=>275|41=>61|5=>5|9=>9|53=>292|57=>288|63=>301|64=>302|n=>n,fun|n=>n⟩
theorem Tryz.sortA:Go.Proofs.SlLaysM.n5 Tryz.prog Tryz.sortA_ren:={
  mixed:=by kernel_rfl
  f5:=⟨Tryz.f160.name,by decide,Tryz.func160.trans (congrArg some (by kernel_rfl))⟩
  f7:=⟨Tryz.f190.name,by decide,Tryz.func190.trans (congrArg some (by kernel_rfl))⟩
  f8:=Tryz.func191.trans (congrArg some (by kernel_rfl))
  f10:=⟨Tryz.f212.name,by decide,Tryz.func212.trans (congrArg some (by kernel_rfl))⟩
  f11:=⟨Tryz.f213.name,by decide,Tryz.func213.trans (congrArg some (by kernel_rfl))⟩
  f12:=⟨Tryz.f214.name,by decide,Tryz.func214.trans (congrArg some (by kernel_rfl))⟩
  f13:=⟨Tryz.f215.name,by decide,Tryz.func215.trans (congrArg some (by kernel_rfl))⟩
  f14:=⟨Tryz.f216.name,by decide,Tryz.func216.trans (congrArg some (by kernel_rfl))⟩
  f15:=⟨Tryz.f217.name,by decide,Tryz.func217.trans (congrArg some (by kernel_rfl))⟩
  f16:=⟨Tryz.f218.name,by decide,Tryz.func218.trans (congrArg some (by kernel_rfl))⟩
  f17:=⟨Tryz.f219.name,by decide,Tryz.func219.trans (congrArg some (by kernel_rfl))⟩
  f18:=⟨Tryz.f220.name,by decide,Tryz.func220.trans (congrArg some (by kernel_rfl))⟩
  f19:=Tryz.func221.trans (congrArg some (by kernel_rfl))
  f20:=Tryz.func222.trans (congrArg some (by kernel_rfl))
  f30:=⟨Tryz.f236.name,by decide,Tryz.func236.trans (congrArg some (by kernel_rfl))⟩
  f31:=Tryz.func237.trans (congrArg some (by kernel_rfl))
  f32:=Tryz.func238.trans (congrArg some (by kernel_rfl))
  f33:=⟨Tryz.f239.name,by decide,Tryz.func239.trans (congrArg some (by kernel_rfl))⟩
  f34:=⟨Tryz.f240.name,by decide,Tryz.func240.trans (congrArg some (by kernel_rfl))⟩
  f35:=⟨Tryz.f241.name,by decide,Tryz.func241.trans (congrArg some (by kernel_rfl))⟩
  f40:=⟨Tryz.f244.name,by decide,Tryz.func244.trans (congrArg some (by kernel_rfl))⟩
  t0:=Tryz.underlying0
  a0:=Tryz.isAgg0
  z0:=Tryz.sizeOf0
  v0:=Tryz.zeroValue0
  t3:=Tryz.underlying3
  a3:=Tryz.isAgg3
  z3:=Tryz.sizeOf3
  v3:=Tryz.zeroValue3
  t4:=Tryz.underlying4
  a4:=Tryz.isAgg4
  z4:=Tryz.sizeOf4
  v4:=Tryz.zeroValue4
  t5:=Tryz.underlying5
  a5:=Tryz.isAgg5
  z5:=Tryz.sizeOf5
  v5:=Tryz.zeroValue5
  t9:=Tryz.underlying9
  a9:=Tryz.isAgg9
  z9:=Tryz.sizeOf9
  v9:=Tryz.zeroValue9
  t22:=Tryz.underlying58
  a22:=Tryz.isAgg58
  z22:=Tryz.sizeOf58
  v22:=Tryz.zeroValue58
  t23:=Tryz.underlying58
  a23:=Tryz.isAgg58
  z23:=Tryz.sizeOf58
  v23:=Tryz.zeroValue58
  t25:=Tryz.underlying3
  a25:=Tryz.isAgg3
  z25:=Tryz.sizeOf3
  v25:=Tryz.zeroValue3
  t32:=Tryz.underlying205
  a32:=Tryz.isAgg205
  z32:=Tryz.sizeOf205
  v32:=Tryz.zeroValue205
  t35:=Tryz.underlying275
  a35:=Tryz.isAgg275
  z35:=Tryz.sizeOf275
  v35:=Tryz.zeroValue275
  t36:=Tryz.underlying276
  a36:=Tryz.isAgg276
  z36:=Tryz.sizeOf276
  v36:=Tryz.zeroValue276
  t41:=Tryz.underlying61
  a41:=Tryz.isAgg61
  z41:=Tryz.sizeOf61
  v41:=Tryz.zeroValue61
  t44:=Tryz.underlying101
  a44:=Tryz.isAgg101
  z44:=Tryz.sizeOf101
  v44:=Tryz.zeroValue101
  t46:=Tryz.underlying105
  a46:=Tryz.isAgg105
  z46:=Tryz.sizeOf105
  v46:=Tryz.zeroValue105
  t53:=Tryz.underlying292
  a53:=Tryz.isAgg292
  z53:=Tryz.sizeOf292
  v53:=Tryz.zeroValue292
  t57:=Tryz.underlying288
  a57:=Tryz.isAgg288
  z57:=Tryz.sizeOf288
  v57:=Tryz.zeroValue288
  t63:=Tryz.underlying301
  a63:=Tryz.isAgg301
  z63:=Tryz.sizeOf301
  v63:=Tryz.zeroValue301
  t64:=Tryz.underlying302
  a64:=Tryz.isAgg302
  z64:=Tryz.sizeOf302
  v64:=Tryz.zeroValue302 }
end
end Go.Proofs
namespace Go.Proofs.YtpecobmfabmpkaaGreatDoor
section
open Go.RowKit Go.Sort Go.Shelf
theorem sortsA (m:Nat):AnyZI.SortsIn Tryz.prog Tryz.sortedA_ren Fence.wide m :=
 ⟨fun blk off cap ss W hH hblk hsz=>callsIn_wide.2 (AnyM.slices_Sort_int Tryz.sortA blk off cap ss W hH hblk hsz),
  fun p cap W=>callsIn_wide.2 (AnyM.slices_Sort_int_none Tryz.sortA p cap W)⟩
theorem codKeys (mb:Option Nat)(W:World):
  Calls Tryz.prog 118 #[.map mb] W fun e w'=>e=.returned (.func (.func 161) #[] #[.pointer (some ⟨W.heap.size,0,none⟩)])∧w'=W.alloc (.cells #[.map mb] 120):=
 (callsIn_wide (n:=5)).1 (AnyZI.keys_in Tryz.keysA Fence.wide 5 trivial rfl mb W)
theorem row_isIs {w:World}{base:Nat}{v:Value}{l:Qs}(h:w.ownsRow base 3 1 v l.length ((l.map fun g=>(g.1:Int)).map encZ)):∃a cap,v=.slice a l.length cap∧IsIs w a l.length cap l:=by
 have hx:∀i,i<l.length→((l.map fun g=>(g.1:Int)).map encZ)[i]?=some (.int .i64 ((nthL l i).1:Int)):=fun i hi=>by
  unfold nthL
  simp[hi,encZ]
 rcases h.2 with⟨rfl,h0⟩|⟨g,cap,cur,rfl,hb,hg,hle,hmax,hsz,htk⟩
 ·refine⟨none,0,by rw[h0],⟨rfl,fun hp=>absurd hp (by omega)⟩⟩
 ·refine⟨_,cap,rfl,⟨rfl,fun hp=>⟨g,0,rfl,⟨_,_,hg⟩,fun i hi=>?_⟩⟩⟩
  have hc:=World.ownsRow.cells (w:=w) (base:=base) (e:=3) (size:=1) (v:=.slice (some ⟨g,0,none⟩) l.length cap) (n:=l.length) (xs:=(l.map fun g=>(g.1:Int)).map encZ) ⟨h.1,.inr ⟨g,cap,cur,rfl,hb,hg,hle,hmax,hsz,htk⟩⟩ (g:=g) rfl i _ (hx i hi)
  rw[Addr.add_lit] at hc
  exact hc
theorem codSorted (w:World)(M:Nat)(l:Qs)(h:OwnM w M l)(hs:SortQ l)(h48:l.length≤48):
  Calls Tryz.prog 117 #[.func (.func 161) #[] #[.pointer (some ⟨w.heap.size,0,none⟩)]] (w.alloc (.cells #[.map (some M)] 120)) fun e w'=>∃a cap,e=.returned (.slice a l.length cap)∧IsIs w' a l.length cap l∧Below w.heap.size w w':=by
 have hbl:=h.lt
 have hseq:SeqGives Fence.wide 2 Tryz.prog 161 #[.pointer (some ⟨w.heap.size,0,none⟩)] encZ (fun ss=>ss.Perm (intKeys (mapD l))) (Maps.size (mapD l)) (w.alloc (.cells #[.map (some M)] 120)):=
  AnyZI.keys_gives (ρ:=Tryz.keysA_ren) { Tryz.keysA with } Fence.wide _ trivial rfl (by omega) w.heap.size M l.length (mapD l) _ (by simp) (by simp) (ownM_on h ((Below.refl _ w).alloc (Nat.le_refl _) _))
 have cS:=AnyZI.sorted_in Tryz.sortedA Fence.wide 5 trivial trivial trivial trivial rfl (by omega) (sortsA _) (enters_of Tryz.func160 (by kernel_rfl) rfl) 161 #[.pointer (some ⟨w.heap.size,0,none⟩)] trivial (enters_of Tryz.func161 (by kernel_rfl) rfl) _ _ (by rw[mapD_size];unfold maxLen;omega) (by rw[mapD_size];omega) _ hseq
 change CallsIn _ _ Tryz.prog 117 _ _ _ at cS
 refine((callsIn_wide (n:=5)).1 cS).mono ?_
 rintro e w' ⟨v,ss,rfl,hS,hrow,_,hb⟩
 have hlen:ss.length=l.length:=by
  have:=hS.length_eq
  rw[mapD_keys,List.length_map] at this
  exact this
 have hk:ss.mergeSort (fun x y=>decide (x≤y))=l.map fun g=>(g.1:Int):=sorted_keys l hs ss hS
 rw[hk,hlen] at hrow
 obtain⟨a,cap,rfl,hI⟩:=row_isIs hrow
 exact⟨a,cap,rfl,hI,((Below.refl _ w).alloc (Nat.le_refl _) _).trans (hb.mono (by simp))⟩
end
section
open Go.RowKit
attribute [local go_sem ↓] zv83
def kc256:List Value:=kcOf (32:Nat) s256 193
def IsH (w:World)(G:Nat)(A:List UInt8):Prop :=
 ∃ws buf,ws.length=8∧Blk w G 234 (rc kc256 ws buf A.length)∧Inv mix256L s256.list A A.length ws buf
theorem IsH.on {w w':World}{G:Nat}{A:List UInt8}(h:IsH w G A)(hb:Below w.heap.size w w'):IsH w' G A:=by
 obtain⟨ws,buf,h1,h2,h3⟩:=h
 exact⟨ws,buf,h1,h2.on hb,h3⟩
theorem IsH.lt {w:World}{G:Nat}{A:List UInt8}(h:IsH w G A):G<w.heap.size:=by
 obtain⟨ws,buf,h1,h2,h3⟩:=h
 exact h2.lt
theorem hNew (w:World):Calls Tryz.prog 128 #[] w fun e w'=>∃G,e=.returned (.pointer (some ⟨G,0,none⟩))∧w.heap.size≤G∧IsH w' G []∧Below w.heap.size w w':=by
 have hb:Tryz.prog.built 234 [(0,.agg (rc kc256 s256.list (List.replicate 64 0) 0).toArray)]=some (rc kc256 s256.list (List.replicate 64 0) 0).toArray:=by kernel_rfl
 go_enter Tryz.func128,Tryz.ntmps128
 go_wp2_with fail
 refine(digKind256 w).mono ?_
 rintro e w1 ⟨rfl,b1⟩
 go_wp2_with fail
 refine(digBegin (32:Nat) s256 193 w1).mono ?_
 rintro e w2 ⟨rfl,b2⟩
 have t2:Below w.heap.size w w2:=b1.trans (b2.mono b1.size)
 go_wp2_with (refine list_build rfl 234 _ rfl [(0,.agg (rc kc256 s256.list (List.replicate 64 0) 0).toArray)] (by simp only[List.map_toArray,List.map_cons,List.map_nil];rfl) (rc kc256 s256.list (List.replicate 64 0) 0).toArray hb ?_)
 go_ret
 exact⟨w2.heap.size,rfl,t2.size,⟨s256.list,List.replicate 64 0,rfl,Blk.newAt w2 _ _ _ _ rfl rfl,Inv.start_ _ _ _ _ (List.length_replicate ..)⟩,t2.alloc t2.size _⟩
theorem hAdd (G:Nat)(A l:List UInt8)(a:Option Addr)(len cap:Nat)(w:World)(h:IsH w G A)(hl:IsB w a len cap l)(hG:0<len→∀b off,a=some ⟨b,off,none⟩→b≠G)(hn:A.length+len<9223372036854775808):
  Calls Tryz.prog 129 #[.pointer (some ⟨G,0,none⟩),.slice a len cap] w fun e w'=>e=.returned (.tuple #[])∧IsH w' G (A++l)∧w.grownBy w' (some G):=by
 obtain⟨ws,buf,h8,hb,hi⟩:=h
 have HB:Hid (Blk w G 234 (rc kc256 ws buf A.length)):=hb
 have HI:Hid (Inv mix256L s256.list A A.length ws buf):=hi
 have HL:Hid (IsB w a len cap l):=hl
 have HE:Hid (l.length=len):=hl.len_eq
 have HG:Hid (0<len→∀b off,a=some ⟨b,off,none⟩→b≠G):=hG
 clear hb hi hl hG
 go_enter Tryz.func129,Tryz.ntmps129
 go_wp2_with fail
 refine(digAdd 193 mix256L s256.list mixOK256 kc256 rfl rfl G 234 ws buf A l a len cap w h8 HB.out HI.out HL.out HG.out hn).mono ?_
 rintro e w1 ⟨rfl,ws',buf',h8',hb',hi',hg⟩
 have HN:Hid (IsH w1 G (A++l)):=⟨ws',buf',h8',by rw[List.length_append,HE.out];exact hb',by rw[List.length_append,HE.out];exact hi'⟩
 clear hb' hi'
 go_wp2_with fail
 go_end0
 exact⟨rfl,HN.out,hg⟩
theorem info83':(Tryz.prog.info? 230).map (·.size)=some 83:=by kernel_rfl
theorem hSum (G:Nat)(A:List UInt8)(w:World)(h:IsH w G A)(hn:A.length<4294967296):
  Calls Tryz.prog 131 #[.pointer (some ⟨G,0,none⟩)] w fun e w'=>∃v,e=.returned v∧OwnB w' w.heap.size v (sha256L A)∧Below w.heap.size w w':=by
 obtain⟨ws,buf,h8,hb,hi⟩:=h
 have hsz:(Tryz.prog.info? 230).map (·.size)=some (rc kc256 ws buf A.length).toArray.size:=by rw[info83',List.size_toArray,rc_length kc256 ws buf A.length rfl h8 hi.size]
 have HI:Hid (Inv mix256L s256.list A A.length ws buf):=hi
 clear hi
 go_enter Tryz.func131,Tryz.ntmps131
 go_wp2_with (refine wpList_load_row rfl 230 _ rfl _ rfl _ _ _ _ hb Tryz.underlying230 rfl hsz ?_)
 refine(digSum 193 mix256L s256.list mixOK256 32 (by omega) kc256 rfl rfl rfl ws buf A w h8 HI.out hn).mono ?_
 rintro e w1 ⟨v,rfl,ho,hb1⟩
 have HO:Hid (OwnB w1 w.heap.size v (sha256L A)):=ho
 clear ho
 go_wp2_with fail
 go_ret
 exact⟨_,rfl,HO.out,hb1⟩
end
section
open Go.RowKit
theorem canUintV (v:Value)(l:List UInt8)(n:Nat)(w:World)(h:IsV w v l)(hl:l.length≤140737488351232):
  Calls Tryz.prog 125 #[v,.int .u64 (n:Int)] w fun e w'=>∃v',e=.returned v'∧OwnB w' w.heap.size v' (uintL l n)∧Below w.heap.size w w':=by
 obtain⟨a,cap,rfl,hi⟩:=h
 exact canUint a l.length cap l n w hi hl
theorem canListV (v:Value)(l:List UInt8)(n:Int)(w:World)(h:IsV w v l)(hl:l.length≤140737488351232):
  Calls Tryz.prog 127 #[v,.int .i64 n] w fun e w'=>∃v',e=.returned v'∧OwnB w' w.heap.size v' (listL l n)∧Below w.heap.size w w':=by
 obtain⟨a,cap,rfl,hi⟩:=h
 exact canList a l.length cap l n w hi hl
theorem canBytesV (v v2:Value)(l b:List UInt8)(w:World)(h:IsV w v l)(h2:IsV w v2 b)(hl:l.length≤1099511627776)(hb:b.length≤1099511627776):
  Calls Tryz.prog 130 #[v,v2] w fun e w'=>∃v',e=.returned v'∧OwnB w' w.heap.size v' (bytesL l b)∧Below w.heap.size w w':=by
 obtain⟨a,cap,rfl,hi⟩:=h
 obtain⟨a2,cap2,rfl,hi2⟩:=h2
 exact canBytes a l.length cap l a2 b.length cap2 b w hi hi2 hl hb
theorem hAddV (G:Nat)(A l:List UInt8)(v:Value)(base:Nat)(w:World)(h:IsH w G A)(hl:OwnB w base v l)(hn:A.length+l.length<9223372036854775808):
  Calls Tryz.prog 129 #[.pointer (some ⟨G,0,none⟩),v] w fun e w'=>e=.returned (.tuple #[])∧IsH w' G (A++l)∧w.grownBy w' (some G):=by
 obtain⟨a,cap,rfl,hi⟩:=hl.isB
 refine hAdd G A l a l.length cap w h hi (fun hp b off e hb=>?_) hn
 subst e
 obtain⟨ws,buf,h1,h2,h3⟩:=h
 obtain⟨b2,off2,e2,hc⟩:=hi.cells hp
 rcases own_ne h2 hl (by decide) with h4|h4
 ·cases h4
 ·exact h4 (show some b=some G by rw[hb])
theorem copyS (W:World)(B:Nat)(v:Value)(base:Nat)(k:List UInt8)(hB:Blk W B 5 (bv (List.replicate 512 0)))(hk:OwnB W base v k)(hn:k.length≤512):
  ∃W',(Builtin.copy_ #[33,33] 3 #[.slice (some ⟨B,0,none⟩) 512 512,v]).run Tryz.prog W=.ok (.int .i64 (k.length:Int)) W'∧Blk W' B 5 (bv (k++List.replicate (512-k.length) 0))∧W.grownBy W' (some B):=by
 obtain⟨a,cap,rfl,hi⟩:=hk.isB
 have hcl:(bv (List.replicate 512 0)).length=512:=by rw[bv_length,List.length_replicate]
 have e3:(bv (List.replicate 512 0)).drop k.length=bv (List.replicate (512-k.length) 0):=by
  unfold bv
  rw[←List.map_drop,List.drop_replicate]
 cases a with
 | none =>
  have h0:=hi.nil rfl
  have hle:=hi.le
  have hk0:k=[]:=List.eq_nil_of_length_eq_zero (by omega)
  subst hk0
  subst h0
  refine⟨W,?_,hB,World.grownBy.refl _ _⟩
  simp[Builtin.copy_,run_underlying Tryz.underlying33,Builtin.lenOf,Builtin.firstCells,go_sem]
 | some ad =>
  have hcs:∀j v,(bv k)[j]?=some v→W.cell? (ad.add j)=some v:=by
   intro j v hj
   have hjl:j<k.length:=by have:=(List.getElem?_eq_some_iff.1 hj).1;rwa [bv_length] at this
   obtain⟨b,off,e,hc⟩:=hi.cells (by omega)
   have e:=Option.some.inj e
   rw[bv_at k j hjl] at hj
   rw[e,Addr.add_lit,hc j hjl,←hj]
  have h:=run_copy_row (P:=Tryz.prog) W 33 33 3 5 B 0 512 512 ad k.length cap _ 5 (bv k) Tryz.underlying33 infoU8 hB (by rw[bv_length];show k.length=min k.length 512;omega) hcs (by rw[bv_length,List.size_toArray,hcl];omega) (bv_one k)
  refine⟨_,?_,hB.row (bv (k++List.replicate (512-k.length) 0)),⟨rfl,rfl,rfl,by simp[World.setRow],fun i _ hi=>setRow_other W B i _ (fun e=>hi (by rw[e]))⟩⟩
  rw[h,bv_length,bv_append]
  have e2:(bv (List.replicate 512 0)).toArray.toList.take 0++bv k++(bv (List.replicate 512 0)).toArray.toList.drop (0+k.length)=bv k++bv (List.replicate (512-k.length) 0):=by
   rw[List.take_zero,List.nil_append,Nat.zero_add]
   show bv k++(bv (List.replicate 512 0)).drop k.length=_
   rw[e3]
  rw[e2]
  rfl
def addJ (seq:Nat)(l:Qs)(k:Nat):List UInt8:=(l.take k).foldl (fun b g=>b++g.2) (headJ seq l)
theorem addJ_zero (seq:Nat)(l:Qs):addJ seq l 0=headJ seq l:=rfl
theorem addJ_succ (seq:Nat)(l:Qs)(k:Nat)(h:k<l.length):addJ seq l (k+1)=addJ seq l k++(nthL l k).2:=by
 unfold addJ nthL;rw[takeQs l k h,List.foldl_append];rfl
theorem addJ_all (seq:Nat)(l:Qs):sha256L (addJ seq l l.length)=sumJ seq l:=by unfold addJ sumJ;rw[List.take_length]
theorem addJ_length (seq:Nat)(l:Qs)(h:∀i,i<l.length→(nthL l i).2.length=512)(k:Nat)(hk:k≤l.length):(addJ seq l k).length=24+9 * l.length+512 * k:=by
 induction k with
 | zero=>rw[addJ_zero,headJ_length];omega
 | succ k ih=>rw[addJ_succ _ _ _ (by omega),List.length_append,ih (by omega),h k (by omega)];omega
theorem OwnB.keptH {w w':World}{G base:Nat}{A:List UInt8}{v:Value}{l:List UInt8}(h:OwnB w base v l)(hH:IsH w G A)(hg:w.grownBy w' (some G)):OwnB w' base v l:=by
 obtain⟨ws,buf,h1,h2,h3⟩:=hH
 exact World.ownsRow.kept h hg (own_ne h2 h (by decide))
theorem IsDt.len5 {w:World}{a:Option Addr}{n c:Nat}{l:Qs}(h:IsDt w a n c l):∀i,i<l.length→(nthL l i).2.length=512:=fun i hi=>by
 have hn:=h.len_eq
 obtain⟨B,off,_,_,hc⟩:=h.cells (by omega)
 exact(hc i (by omega)).1
theorem codSeal (seq:Nat)(l:Qs)(pa da:Option Addr)(n pc dc:Nat)(w:World)(h48:n≤48)(hp:IsIs w pa n pc l)(hd:IsDt w da n dc l)(ha:∀g∈l,g.1≤1000000):
  Calls Tryz.prog 91 #[.agg #[.int .u64 (seq:Int),.slice pa n pc,.slice da n dc]] w fun e w'=>∃g,e=.returned (.slice (some ⟨g,0,none⟩) 512 512)∧Blk w' g 5 (bv (sealJ seq l))∧w.heap.size≤g∧Below w.heap.size w w':=by
 have HP:=mkHid hp
 have HD:=mkHid hd
 have HN:=mkHid hp.len_eq
 have HA:=mkHid ha
 have HL5:=mkHid hd.len5
 clear hp hd ha
 have h48':(n:Int)≤48:=by omega
 have HZ:∀W,Calls Tryz.prog 126 #[.slice none 0 0,.string ⟨#[115,116,101,108,101]⟩] W fun e w'=>∃v,e=.returned v∧Hid (OwnB w' W.heap.size v (textL [] steleB))∧Hid (Below W.heap.size W w'):=fun W=>canText none 0 0 [] ⟨#[115,116,101,108,101]⟩ W (isB_none W) (by omega) (by decide)
 have HT0:Hid ((textL [] steleB).length=10):=by unfold Hid textL behL;simp[beL_length,steleB]
 have H0:Hid (headTo seq l 0=listL (uintL (textL [] steleB) seq) (n:Int)):=by unfold Hid;rw[headTo_zero,HN.out]
 have HC:Hid (Blk (w.alloc (.cells #[.int .u64 (seq:Int),.slice pa n pc,.slice da n dc] 113)) w.heap.size 113 [.int .u64 (seq:Int),.slice pa n pc,.slice da n dc]):=Blk.new w _ _
 have HD0:Hid (Below w.heap.size w (w.alloc (.cells #[.int .u64 (seq:Int),.slice pa n pc,.slice da n dc] 113))):=(Below.refl _ w).alloc (Nat.le_refl _) _
 generalize textL [] steleB=t0 at *
 go_enter Tryz.func91,Tryz.ntmps91
 go_upto_region 1 with fail
 obtain⟨C,hC⟩:∃C,C=w.heap.size:=⟨_,rfl⟩
 have HCe:=mkHid hC
 rw[←hC] at HC HD0 ⊢
 clear hC
 generalize w.alloc (.cells #[.int .u64 (seq:Int),.slice pa n pc,.slice da n dc] 113)=w0 at *
 have HKP:∀w',Hid (Below w0.heap.size w0 w')→Hid (Below w0.heap.size w0 w')∧w'.cell? ⟨C,0,none⟩=some (.int .u64 (seq:Int)):=fun w' h=>⟨h,(HC.out.on h.out).cell 0⟩
 have HK0:=mkHid (HKP _ (mkHid ((Below.refl _ w0).drew)))
 go_region_held3 (fun w'=>Hid (Below w0.heap.size w0 w')∧w'.cell? ⟨C,0,none⟩=some (.int .u64 (seq:Int)))
  (first|exact HK0.out|assumption|(have hq0:=‹Hid (Below _ _ _)∧_›;exact HKP _ (mkHid (hq0.1.out.trans (hkx.out.mono hq0.1.out.size)))))
  (first
   | (go_at_call 126;refine(HZ _).mono ?_;rintro e y1 ⟨v1,rfl,hv1,hkx⟩;have hs1:Hid (w0.heap.size≤y1.heap.size):=hkx.out.size)
   | (go_at_call 125;refine(canUintV v1 t0 seq _ hv1.out.isV (by rw[HT0.out];omega)).mono ?_;rintro e y2 ⟨v2,rfl,hv2,hkx2⟩;have HV2:=mkHid hv2;have hkx:=mkHid hkx2;clear hv2 hkx2))
 have hq9:=‹Hid (Below _ _ _)∧_›
 have HB2:Hid (Below w.heap.size w y2):=by rw[←HCe.out];exact HD0.out.trans (hq9.1.out.mono (by rw[HCe.out];exact HD0.out.size))
 have HC2:=mkHid (HC.out.on hq9.1.out)
 have k1:y2.cell? ⟨C,1,none⟩=some (.slice pa n pc):=HC2.out.cell 1
 have HL2:=canListV v2 _ (n:Int) y2 HV2.out.isV (by rw[uintL_length,HT0.out];omega)
 clear hq9 hkx HKP HK0 hs1 HZ HC
 go_wp2_with fail
 refine HL2.mono ?_
 rintro e y3 ⟨v3,rfl,ho3,hb3⟩
 have HB3:Hid (Below w.heap.size w y3):=HB2.out.trans (hb3.mono HB2.out.size)
 have HI3:Hid (OwnB y3 w.heap.size v3 (headTo seq l 0)):=by unfold Hid;rw[H0.out];exact ho3.base HB2.out.size
 have HC3:=mkHid (HC2.out.on hb3)
 have k1:y3.cell? ⟨C,1,none⟩=some (.slice pa n pc):=HC3.out.cell 1
 clear ho3 hb3 HB2 HC2 HV2 HL2
 go_wp2_with fail
 go_loopw [3,22] (fun v i wr=>∃k:Nat,k≤n∧i=.int .i64 (k:Int)∧Hid (OwnB wr w.heap.size v (headTo seq l k))∧Hid (Below w.heap.size w wr)∧Hid (Blk wr C 113 [.int .u64 (seq:Int),.slice pa n pc,.slice da n dc])) (fun _ i _=>n-(Go.RowKit.intOf i).toNat)
 case atStart=>exact⟨0,Nat.zero_le _,rfl,HI3,HB3,HC3⟩
 case round =>
  obtain⟨k,hk,rfl,HO,HB,HCr⟩:=hrel
  clear HI3 HB3 HC3 k1
  by_cases hlt:k<n
  ·obtain⟨B1,o1,rfl,⟨_,_,_⟩,hc1⟩:=(HP.out.on HB.out).cells (by omega)
   have c0:=hc1 k hlt
   have hkl:k<l.length:=by rw[HN.out];exact hlt
   have hlt':(k:Int)<(n:Int):=by omega
   have hk0:(0:Int)≤(k:Int):=by omega
   have HSu:Hid (headTo seq l (k+1)=uintL (headTo seq l k) (nthL l k).1):=headTo_succ seq l k hkl
   have HLe:Hid ((headTo seq l k).length≤140737488351232):=by unfold Hid;rw[headTo_length _ _ _ (by rw[HN.out];exact hk)];omega
   have hat:=HA.out (nthL l k) (by unfold nthL;rw[List.getD_eq_getElem?_getD,List.getElem?_eq_getElem hkl];exact List.getElem_mem hkl)
   have hw:IntKind.u64.wrap ((nthL l k).1:Int)=((nthL l k).1:Int):=wrap64_nat _ (by omega)
   clear hc1 hkl
   generalize (nthL l k).1=ak at *
   have HUi:=canUintV u3 _ ak wr HO.out.isV HLe.out
   generalize headTo seq l k=hk1 at *
   go_wp2_with fail
   refine HUi.mono ?_
   rintro e w4 ⟨v4,rfl,ho4,hb4⟩
   have HB4:Hid (Below w.heap.size w w4):=HB.out.trans (hb4.mono HB.out.size)
   have HI4:Hid (OwnB w4 w.heap.size v4 (headTo seq l (k+1))):=by unfold Hid;rw[HSu.out];exact ho4.base HB.out.size
   have HC4:=mkHid (HCr.out.on hb4)
   clear ho4 hb4 HO HB HUi
   go_wp2_with fail
   go_roundw
   case rel=>exact⟨k+1,by omega,by go_num,HI4,HB4,HC4⟩
   case measure=>simp[Go.RowKit.intOf];omega
  ·have hge:¬(k:Int)<(n:Int):=by omega
   have hkn:k=n:=by omega
   subst hkn
   have HH:Hid (headTo seq l k=headJ seq l):=by unfold Hid headJ;rw[HN.out]
   rw[HH.out] at HO
   have HNw:=hNew wr
   go_wp2_with fail
   refine HNw.mono ?_
   rintro e y5 ⟨G,rfl,hG5,hH5,hb5⟩
   have HB5:Hid (Below w.heap.size w y5):=HB.out.trans (hb5.mono HB.out.size)
   have HO5:Hid (OwnB y5 w.heap.size u3 (headJ seq l)):=own_keep (ts:=[]) (KeepT.of_below hb5) HO.out (by simp)
   have HC5:=mkHid (HCr.out.on hb5)
   have HGl:Hid (w.heap.size≤G):=Nat.le_trans HB.out.size hG5
   have HA5:=hAddV G [] _ u3 w.heap.size y5 hH5 HO5.out (by rw[headJ_length,HN.out];show 0+_<_;omega)
   have HH5:=mkHid hH5
   rw[List.nil_append] at HA5
   have HL0:Hid ((headJ seq l).length=24+9 * k):=by unfold Hid;rw[headJ_length,HN.out]
   clear hH5 hb5 hG5 HNw HB HO HCr
   generalize hHJ:headJ seq l=hj at *
   go_wp2_with fail
   refine HA5.mono ?_
   rintro e y6 ⟨rfl,hH6,hg6⟩
   have HH6:Hid (IsH y6 G (addJ seq l 0)):=by unfold Hid;rw[addJ_zero,hHJ];exact hH6
   have HO6:=mkHid (HO5.out.keptH HH5.out hg6)
   have hGl5:=HH5.out.lt
   have HB6:Hid (Below w.heap.size w y6):=HB5.out.trans (bel_one hg6 HGl.out hGl5)
   have HC6:Hid (Blk y6 C 113 [.int .u64 (seq:Int),.slice pa k pc,.slice da k dc]):=(hg6.block C HC5.out.lt (fun e=>by
    obtain⟨ws,buf,q1,q2,q3⟩:=HH5.out
    exact blk_ne HC5.out q2 (by decide) (Option.some.inj e))).trans HC5.out
   have k2:y6.cell? ⟨C,2,none⟩=some (.slice da k dc):=HC6.out.cell 2
   have HHJ:=mkHid hHJ
   clear hH6 hg6 HH5 HO5 HB5 HC5 HA5 hGl5 hHJ
   go_wp2_with fail
   go_loopw [38] (fun i wr=>∃q:Nat,q≤k∧i=.int .i64 (q:Int)∧Hid (IsH wr G (addJ seq l q))∧Hid (OwnB wr w.heap.size u3 hj)∧Hid (Below w.heap.size w wr)) (fun i _=>k-(Go.RowKit.intOf i).toNat)
   case atStart=>exact⟨0,Nat.zero_le _,rfl,HH6,HO6,HB6⟩
   case round =>
    obtain⟨q,hq,rfl,HHr,HOr,HBr⟩:=hrel
    rename World=>wr2
    clear HH6 HO6 HB6 HC6 k2
    by_cases hlt:q<k
    ·obtain⟨B2,o2,rfl,⟨_,_,_⟩,hc2⟩:=(HD.out.on HBr.out).cells (by omega)
     obtain⟨h512,g,ty,c2,hbk,hty⟩:=hc2 q hlt
     have hlt':(q:Int)<(k:Int):=by omega
     have hq0:(0:Int)≤(q:Int):=by omega
     have hql:q<l.length:=by rw[HN.out];exact hlt
     have HSu:Hid (addJ seq l (q+1)=addJ seq l q++(nthL l q).2):=addJ_succ seq l q hql
     have HAd:=hAdd G (addJ seq l q) (nthL l q).2 (some ⟨g,0,none⟩) 512 512 wr2 HHr.out (blk_isB hbk h512) (fun _ b off e hb=>by
      obtain⟨ws,buf,q1,q2,q3⟩:=HHr.out
      have e:=Option.some.inj e
      injection e with e1
      subst e1 hb
      refine blk_ne hbk q2 ?_ rfl
      rcases List.mem_cons.1 hty with rfl|h9
      ·decide
      ·rw[List.mem_singleton.1 h9];decide) (by rw[addJ_length _ _ HL5.out _ (by omega),HN.out];omega)
     rw[←HSu.out] at HAd
     clear hc2 hbk hty h512 hql
     obtain⟨aq,haq⟩:∃aq,aq=addJ seq l (q+1):=⟨_,rfl⟩
     rw[←haq] at HAd
     have HAq:=mkHid haq
     clear haq
     go_wp2_with fail
     refine HAd.mono ?_
     rintro e y7 ⟨rfl,hH7,hg7⟩
     have HH7:=mkHid hH7
     have HO7:=mkHid (HOr.out.keptH HHr.out hg7)
     have HB7:Hid (Below w.heap.size w y7):=HBr.out.trans (bel_one hg7 HGl.out HHr.out.lt)
     clear hH7 hg7 HAd HHr HOr HBr
     go_wp2_with fail
     go_roundw
     case rel=>exact⟨q+1,by omega,by go_num,by rw[←HAq.out];exact HH7,HO7,HB7⟩
     case measure=>simp[Go.RowKit.intOf];omega
    ·have hge:¬(q:Int)<(k:Int):=by omega
     have hqk:q=k:=by omega
     subst hqk
     have HE:Hid (sha256L (addJ seq l q)=sumJ seq l):=by
      have:=addJ_all seq l
      rw[HN.out] at this
      exact this
     have HLq:Hid ((addJ seq l q).length<4294967296):=by unfold Hid;rw[addJ_length _ _ HL5.out _ (by rw[HN.out];exact Nat.le_refl _),HN.out];omega
     obtain⟨Z,hZ⟩:∃Z,Z=wr2.heap.size:=⟨_,rfl⟩
     have HZl:Hid (w.heap.size≤Z):=by unfold Hid;rw[hZ];exact HBr.out.size
     go_upto_region 16 with(at_make;refine make_full8 wr2 rfl _ _ rfl wr2.heap.size .i64 .i64 _ _ 512 rfl rfl rfl rfl (by omega) (Nat.le_refl _) ?_;intro y8 ho8 hg8;have HO8:=mkHid ho8;have HG8:=mkHid (gr_below hg8);clear ho8 hg8)
     rw[←hZ] at HO8 ⊢
     clear hZ
     have HBZ:Hid (Blk y8 Z 5 (bv (List.replicate 512 0))):=by
      rcases HO8.out.2 with⟨h,_⟩|⟨g,cap,cur,e,_,hgb,_,_,hsz,ht⟩
      ·cases h
      ·injection e with e1 _ e3
       have e4:Z=g:=by injection e1 with e1;injection e1 with e1
       subst e4
       unfold Hid Blk
       rw[hgb,←ht,List.take_of_length_le (by rw[Array.length_toList,hsz,←e3,List.length_replicate];exact Nat.le_refl _)]
     have HH8:=mkHid (HHr.out.on HG8.out)
     have HOp:Hid (OwnB y8 w.heap.size u3 hj):=own_keep (ts:=[]) (KeepT.of_below HG8.out) HOr.out (by simp)
     have HB8:Hid (Below w.heap.size w y8):=HBr.out.trans (HG8.out.mono HBr.out.size)
     have HSm:=hSum G _ y8 HH8.out HLq.out
     rw[HE.out] at HSm
     clear HHr HOr HBr HO8 HG8
     go_wp2_with fail
     refine HSm.mono ?_
     rintro e y9 ⟨v9,rfl,hv9,hb9⟩
     have HBZ9:=mkHid (HBZ.out.on hb9)
     have HOp9:Hid (OwnB y9 w.heap.size u3 hj):=own_keep (ts:=[]) (KeepT.of_below hb9) HOp.out (by simp)
     have HB9:Hid (Below w.heap.size w y9):=HB8.out.trans (hb9.mono HB8.out.size)
     have HBy:=canBytesV u3 v9 hj (sumJ seq l) y9 HOp9.out.isV hv9.isV (by rw[HL0.out];omega) (by unfold sumJ;rw[sha256L_length];omega)
     have HPe:Hid (bytesL hj (sumJ seq l)=preJ seq l):=by unfold Hid preJ;rw[HHJ.out]
     rw[HPe.out] at HBy
     clear hv9 hb9 HBZ HOp HB8 HSm
     go_wp2_with fail
     refine HBy.mono ?_
     rintro e ya ⟨va,rfl,hva,hba⟩
     have HPl:Hid ((preJ seq l).length≤512):=by unfold Hid;rw[preJ_length,HN.out];omega
     obtain⟨yb,hcp,hBb,hgb⟩:=copyS ya Z va y9.heap.size (preJ seq l) (HBZ9.out.on hba) hva HPl.out
     have HBb:Hid (Blk yb Z 5 (bv (sealJ seq l))):=hBb
     have HBa:Hid (Below w.heap.size w ya):=HB9.out.trans (hba.mono HB9.out.size)
     have HByb:Hid (Below w.heap.size w yb):=HBa.out.trans (bel_one hgb HZl.out (HBZ9.out.on hba).lt)
     clear hBb hgb hva hba HBy HBZ9 HOp9 HB9
     generalize (preJ seq l).length=pl at *
     go_wp2_with fail
     go_ret
     exact⟨Z,rfl,HBb.out,HZl.out,HByb.out⟩
end
section
open Go.RowKit Go.Sort
def OwnI (w:World)(base:Nat)(v:Value)(l:Qs):Prop:=w.ownsRow base 3 1 v l.length ((l.map fun g=>(g.1:Int)).map encZ)
theorem OwnI.nil (w:World)(base:Nat):OwnI w base (.slice none 0 0) []:=World.ownsRow_nil _ _ _ _
theorem list_appI {ops:Array Oper}{rest:List Oper}{o:Oper}{a:Act}{Q:Exit→Act→World→Prop}(w:World)(hgd:o.guard=none)(s x:Operand)
  (ho:o.op=.call { callee:=.builtin .append,args:=#[s,x],argTypes:=#[58,58] }) (base:Nat)
  (v:Value) (l:Qs) (hs:a.eval s=v) (hown:OwnI w base v l) (B i:Nat) (b:List UInt8) (hx:a.eval x=.slice (some ⟨B,0,none⟩) 1 1)
  (hb:w.heap[B]?=some (.cells #[.int .i64 (i:Int)] 3 (0,0))) (hle:l.length≤4096) (hbase:base≤w.heap.size)
  (h:∀v' w',OwnI w' base v' (l++[(i,b)])→w.grownBy w' v.ownBlock→wpList Tryz.prog ops Q rest (a.put o.dst v') w'):
  wpList Tryz.prog ops Q (o::rest) a w:=by
 obtain⟨i0,hi,hz0,hz1,hz2⟩:=info_parts infoI3
 refine wpList_append_own w hgd s x 58 ho base 3 i0 (.int .i64 0) 1 8 Tryz.underlying58 hi hz0 hz1 hz2 rfl (by omega) v l.length _ hs hown ⟨B,0,none⟩ 1 1 [.int .i64 (i:Int)] hx (by simp) (fun j u hu=>World.news_of_block hb j u (by simpa using hu)) (fun u hu=>by rw[List.mem_singleton.1 hu];rfl) (by unfold maxLen;omega) (by omega) hbase ?_
 intro v' w' h1 h2 _
 refine h v' w' ?_ h2
 unfold OwnI
 rw[List.length_append,List.map_append,List.map_append]
 exact h1
theorem IsR.newer {w w':World}{B X:Nat}{l:List UInt8}{br:Bool}(h:IsR w B l br)(hg:w.grownBy w' (some X))(hX:B<X):IsR w' B l br:=by
 obtain⟨a,cap,hb,hi,hne⟩:=h
 refine⟨a,cap,(hg.block B hb.lt (fun e=>by have:=Option.some.inj e;omega)).trans hb,⟨hi.len_eq,hi.le,hi.max,hi.nil,fun hp=>?_⟩,hne⟩
 obtain⟨b,off,e,hc⟩:=hi.cells hp
 refine⟨b,off,e,fun i hi2=>?_⟩
 have hbl:=hne _ e
 have h0:=hc i hi2
 have e2:=hg.block b (cell_lt h0) (fun e3=>by have:=Option.some.inj e3;have:b<B:=hbl;omega)
 exact(World.cell?_of_block (a:=⟨b,off+i,none⟩) e2).trans h0
theorem IsR.row {w w':World}{B base:Nat}{l:List UInt8}{br:Bool}{v:Value}(h:IsR w B l br)(hg:w.grownBy w' v.ownBlock)(hv:∀k,v.ownBlock=some k→base≤k)(hb:B<base):IsR w' B l br:=by
 cases hq:v.ownBlock with
 | none =>
  rw[hq] at hg
  exact h.on (gr_below hg)
 | some k =>
  rw[hq] at hg
  exact h.newer hg (Nat.lt_of_lt_of_le hb (hv k hq))
end
section
open Go.RowKit
theorem eqBA (l m:List UInt8):((⟨l.toArray⟩:ByteArray).toList==(⟨m.toArray⟩:ByteArray).toList)=decide (l=m):=by
 rw[ByteArray.toList_mk,ByteArray.toList_mk]
 cases h:(l==m) with
 | true=>exact(decide_eq_true (by simpa using h)).symm
 | false=>exact(decide_eq_false (by simpa using h)).symm
theorem codEqual (a1 a2:Option Addr)(n1 n2 c1 c2:Nat)(l m:List UInt8)(w:World)(h1:IsB w a1 n1 c1 l)(h2:IsB w a2 n2 c2 m):
  Calls Tryz.prog 90 #[.slice a1 n1 c1,.slice a2 n2 c2] w fun e w'=>e=.returned (.bool (decide (l=m)))∧w'=w:=by
 have e1:=conv_isB w a1 n1 c1 l h1
 have e2:=conv_isB w a2 n2 c2 m h2
 have HE:Hid (((⟨l.toArray⟩:ByteArray).toList==(⟨m.toArray⟩:ByteArray).toList)=decide (l=m)):=eqBA l m
 clear h1 h2
 generalize (⟨l.toArray⟩:ByteArray)=s at *
 generalize (⟨m.toArray⟩:ByteArray)=t at *
 go_enter Tryz.func90,Tryz.ntmps90
 go_wp2_with fail
 go_ret
 exact⟨by rw[←HE.out];rfl,rfl⟩
theorem infoQ:(Tryz.prog.info? 33).map (fun i=>(i.zero,i.size,i.bytes))=some (some (.slice none 0 0),1,24):=by kernel_rfl
theorem slQ1 (F n:Nat)(hn:1<n)(w:World):(Instr.slice 59 (.slice (some ⟨F,0,none⟩) n n) (some (.int .i64 1)) none none).run Tryz.prog w=.ok (.slice (some ⟨F,1,none⟩) (n-1) (n-1)) w:=by
 have he:Tryz.prog.elem 59=33:=by kernel_rfl
 have hz:(sizeOf 33).run Tryz.prog w=.ok 1 w:=by
  obtain⟨i0,hi,hz0,hz1,hz2⟩:=info_parts infoQ
  simp[sizeOf,typeInfo,hi,hz1]
 rw[run_slice_l w 59 _ n n (by rw[he];exact Tryz.underlying59) .i64 1 (by omega) (by omega),he,hz]
 have e1:(1:Int).toNat=1:=rfl
 simp only[Result.andThen,sliced,e1,Nat.mul_one,Option.map_some,Addr.add_lit,Nat.zero_add]
 rw[if_neg (by omega)]
theorem slQh (F o n c k:Nat)(hk:k≤c)(w:World):(Instr.slice 59 (.slice (some ⟨F,o,none⟩) n c) none (some (.int .i64 (k:Int))) none).run Tryz.prog w=.ok (.slice (some ⟨F,o,none⟩) k c) w:=by
 have he:Tryz.prog.elem 59=33:=by kernel_rfl
 have hz:(sizeOf 33).run Tryz.prog w=.ok 1 w:=by
  obtain⟨i0,hi,hz0,hz1,hz2⟩:=info_parts infoQ
  simp[sizeOf,typeInfo,hi,hz1]
 rw[run_slice_h w 59 _ n c (by rw[he];exact Tryz.underlying59) .i64 (k:Int) (by omega) (by omega),he,hz]
 simp only[Result.andThen,sliced,Int.toNat_natCast,Nat.zero_mul,Nat.sub_zero,Option.map_some,Addr.add_lit,Nat.add_zero]
 split<;>rfl
end
end Go.Proofs.YtpecobmfabmpkaaGreatDoor
