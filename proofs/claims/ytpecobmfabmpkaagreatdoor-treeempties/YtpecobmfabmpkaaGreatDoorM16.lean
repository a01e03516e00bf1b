/- Pj7 PjM PjE -/
import Derived.Test.YtpecobmfabmpkaaGreatDoorM15
set_option maxRecDepth 20000
set_option maxHeartbeats 4000000
namespace Go.Proofs.YtpecobmfabmpkaaGreatDoor
open Go.RowKit
theorem canUintV (v:Value)(l:List UInt8)(n:Nat)(w:World)(h:IsV w v l)(hl:l.length≤140737488351232):
  Calls Tryz.prog 125 #[v,.int .u64 (n:Int)] w fun e w'=>∃v',e=.returned v'∧OwnB w' w.heap.size v' (uintL l n)∧Below w.heap.size w w':=by
 obtain⟨a,cap,rfl,hi⟩:=h
 exact canUint a l.length cap l n w hi hl
theorem canListV (v:Value)(l:List UInt8)(n:Int)(w:World)(h:IsV w v l)(hl:l.length≤140737488351232):
  Calls Tryz.prog 127 #[v,.int .i64 n] w fun e w'=>∃v',e=.returned v'∧OwnB w' w.heap.size v' (listL l n)∧Below w.heap.size w w':=by
 obtain⟨a,cap,rfl,hi⟩:=h
 exact canList a l.length cap l n w hi hl
theorem canBytesV (v v2:Value)(l b:List UInt8)(w:World)(h:IsV w v l)(h2:IsV w v2 b)(hl:l.length≤1099511627776)(hb:b.length≤1099511627776):
  Calls Tryz.prog 130 #[v,v2] w fun e w'=>∃v',e=.returned v'∧OwnB w' w.heap.size v' (bytesL l b)∧Below w.heap.size w w':=by
 obtain⟨a,cap,rfl,hi⟩:=h
 obtain⟨a2,cap2,rfl,hi2⟩:=h2
 exact canBytes a l.length cap l a2 b.length cap2 b w hi hi2 hl hb
theorem hAddV (G:Nat)(A l:List UInt8)(v:Value)(base:Nat)(w:World)(h:IsH w G A)(hl:OwnB w base v l)(hn:A.length+l.length<9223372036854775808):
  Calls Tryz.prog 129 #[.pointer (some ⟨G,0,none⟩),v] w fun e w'=>e=.returned (.tuple #[])∧IsH w' G (A++l)∧w.grownBy w' (some G):=by
 obtain⟨a,cap,rfl,hi⟩:=hl.isB
 refine hAdd G A l a l.length cap w h hi (fun hp b off e hb=>?_) hn
 subst e
 obtain⟨ws,buf,h1,h2,h3⟩:=h
 obtain⟨b2,off2,e2,hc⟩:=hi.cells hp
 rcases own_ne h2 hl (by decide) with h4|h4
 ·cases h4
 ·exact h4 (show some b=some G by rw[hb])
theorem copyS (W:World)(B:Nat)(v:Value)(base:Nat)(k:List UInt8)(hB:Blk W B 5 (bv (List.replicate 512 0)))(hk:OwnB W base v k)(hn:k.length≤512):
  ∃W',(Builtin.copy_ #[33,33] 3 #[.slice (some ⟨B,0,none⟩) 512 512,v]).run Tryz.prog W=.ok (.int .i64 (k.length:Int)) W'∧Blk W' B 5 (bv (k++List.replicate (512-k.length) 0))∧W.grownBy W' (some B):=by
 obtain⟨a,cap,rfl,hi⟩:=hk.isB
 have hcl:(bv (List.replicate 512 0)).length=512:=by rw[bv_length,List.length_replicate]
 have e3:(bv (List.replicate 512 0)).drop k.length=bv (List.replicate (512-k.length) 0):=by
  unfold bv
  rw[←List.map_drop,List.drop_replicate]
 cases a with
 | none =>
  have h0:=hi.nil rfl
  have hle:=hi.le
  have hk0:k=[]:=List.eq_nil_of_length_eq_zero (by omega)
  subst hk0
  subst h0
  refine⟨W,?_,hB,World.grownBy.refl _ _⟩
  simp[Builtin.copy_,run_underlying Tryz.underlying33,Builtin.lenOf,Builtin.firstCells,go_sem]
 | some ad =>
  have hcs:∀j v,(bv k)[j]?=some v→W.cell? (ad.add j)=some v:=by
   intro j v hj
   have hjl:j<k.length:=by have:=(List.getElem?_eq_some_iff.1 hj).1;rwa [bv_length] at this
   obtain⟨b,off,e,hc⟩:=hi.cells (by omega)
   have e:=Option.some.inj e
   rw[bv_at k j hjl] at hj
   rw[e,Addr.add_lit,hc j hjl,←hj]
  have h:=run_copy_row (P:=Tryz.prog) W 33 33 3 5 B 0 512 512 ad k.length cap _ 5 (bv k) Tryz.underlying33 infoU8 hB (by rw[bv_length];show k.length=min k.length 512;omega) hcs (by rw[bv_length,List.size_toArray,hcl];omega) (bv_one k)
  refine⟨_,?_,hB.row (bv (k++List.replicate (512-k.length) 0)),⟨rfl,rfl,rfl,by simp[World.setRow],fun i _ hi=>setRow_other W B i _ (fun e=>hi (by rw[e]))⟩⟩
  rw[h,bv_length,bv_append]
  have e2:(bv (List.replicate 512 0)).toArray.toList.take 0++bv k++(bv (List.replicate 512 0)).toArray.toList.drop (0+k.length)=bv k++bv (List.replicate (512-k.length) 0):=by
   rw[List.take_zero,List.nil_append,Nat.zero_add]
   show bv k++(bv (List.replicate 512 0)).drop k.length=_
   rw[e3]
  rw[e2]
  rfl
def addJ (seq:Nat)(l:Qs)(k:Nat):List UInt8:=(l.take k).foldl (fun b g=>b++g.2) (headJ seq l)
theorem addJ_zero (seq:Nat)(l:Qs):addJ seq l 0=headJ seq l:=rfl
theorem addJ_succ (seq:Nat)(l:Qs)(k:Nat)(h:k<l.length):addJ seq l (k+1)=addJ seq l k++(nthL l k).2:=by
 unfold addJ nthL;rw[takeQs l k h,List.foldl_append];rfl
theorem addJ_all (seq:Nat)(l:Qs):sha256L (addJ seq l l.length)=sumJ seq l:=by unfold addJ sumJ;rw[List.take_length]
theorem addJ_length (seq:Nat)(l:Qs)(h:∀i,i<l.length→(nthL l i).2.length=512)(k:Nat)(hk:k≤l.length):(addJ seq l k).length=24+9 * l.length+512 * k:=by
 induction k with
 | zero=>rw[addJ_zero,headJ_length];omega
 | succ k ih=>rw[addJ_succ _ _ _ (by omega),List.length_append,ih (by omega),h k (by omega)];omega
theorem OwnB.keptH {w w':World}{G base:Nat}{A:List UInt8}{v:Value}{l:List UInt8}(h:OwnB w base v l)(hH:IsH w G A)(hg:w.grownBy w' (some G)):OwnB w' base v l:=by
 obtain⟨ws,buf,h1,h2,h3⟩:=hH
 exact World.ownsRow.kept h hg (own_ne h2 h (by decide))
theorem IsDt.len5 {w:World}{a:Option Addr}{n c:Nat}{l:Qs}(h:IsDt w a n c l):∀i,i<l.length→(nthL l i).2.length=512:=fun i hi=>by
 have hn:=h.len_eq
 obtain⟨B,off,_,_,hc⟩:=h.cells (by omega)
 exact(hc i (by omega)).1
theorem codSeal (seq:Nat)(l:Qs)(pa da:Option Addr)(n pc dc:Nat)(w:World)(h48:n≤48)(hp:IsIs w pa n pc l)(hd:IsDt w da n dc l)(ha:∀g∈l,g.1≤1000000):
  Calls Tryz.prog 91 #[.agg #[.int .u64 (seq:Int),.slice pa n pc,.slice da n dc]] w fun e w'=>∃g,e=.returned (.slice (some ⟨g,0,none⟩) 512 512)∧Blk w' g 5 (bv (sealJ seq l))∧w.heap.size≤g∧Below w.heap.size w w':=by
 have HP:=mkHid hp
 have HD:=mkHid hd
 have HN:=mkHid hp.len_eq
 have HA:=mkHid ha
 have HL5:=mkHid hd.len5
 clear hp hd ha
 have h48':(n:Int)≤48:=by omega
 have HZ:∀W,Calls Tryz.prog 126 #[.slice none 0 0,.string ⟨#[115,116,101,108,101]⟩] W fun e w'=>∃v,e=.returned v∧Hid (OwnB w' W.heap.size v (textL [] steleB))∧Hid (Below W.heap.size W w'):=fun W=>canText none 0 0 [] ⟨#[115,116,101,108,101]⟩ W (isB_none W) (by omega) (by decide)
 have HT0:Hid ((textL [] steleB).length=10):=by unfold Hid textL behL;simp[beL_length,steleB]
 have H0:Hid (headTo seq l 0=listL (uintL (textL [] steleB) seq) (n:Int)):=by unfold Hid;rw[headTo_zero,HN.out]
 have HC:Hid (Blk (w.alloc (.cells #[.int .u64 (seq:Int),.slice pa n pc,.slice da n dc] 113)) w.heap.size 113 [.int .u64 (seq:Int),.slice pa n pc,.slice da n dc]):=Blk.new w _ _
 have HD0:Hid (Below w.heap.size w (w.alloc (.cells #[.int .u64 (seq:Int),.slice pa n pc,.slice da n dc] 113))):=(Below.refl _ w).alloc (Nat.le_refl _) _
 generalize textL [] steleB=t0 at *
 go_enter Tryz.func91,Tryz.ntmps91
 go_upto_region 1 with fail
 obtain⟨C,hC⟩:∃C,C=w.heap.size:=⟨_,rfl⟩
 have HCe:=mkHid hC
 rw[←hC] at HC HD0 ⊢
 clear hC
 generalize w.alloc (.cells #[.int .u64 (seq:Int),.slice pa n pc,.slice da n dc] 113)=w0 at *
 have HKP:∀w',Hid (Below w0.heap.size w0 w')→Hid (Below w0.heap.size w0 w')∧w'.cell? ⟨C,0,none⟩=some (.int .u64 (seq:Int)):=fun w' h=>⟨h,(HC.out.on h.out).cell 0⟩
 have HK0:=mkHid (HKP _ (mkHid ((Below.refl _ w0).drew)))
 go_region_held3 (fun w'=>Hid (Below w0.heap.size w0 w')∧w'.cell? ⟨C,0,none⟩=some (.int .u64 (seq:Int)))
  (first|exact HK0.out|assumption|(have hq0:=‹Hid (Below _ _ _)∧_›;exact HKP _ (mkHid (hq0.1.out.trans (hkx.out.mono hq0.1.out.size)))))
  (first
   | (go_at_call 126;refine(HZ _).mono ?_;rintro e y1 ⟨v1,rfl,hv1,hkx⟩;have hs1:Hid (w0.heap.size≤y1.heap.size):=hkx.out.size)
   | (go_at_call 125;refine(canUintV v1 t0 seq _ hv1.out.isV (by rw[HT0.out];omega)).mono ?_;rintro e y2 ⟨v2,rfl,hv2,hkx2⟩;have HV2:=mkHid hv2;have hkx:=mkHid hkx2;clear hv2 hkx2))
 have hq9:=‹Hid (Below _ _ _)∧_›
 have HB2:Hid (Below w.heap.size w y2):=by rw[←HCe.out];exact HD0.out.trans (hq9.1.out.mono (by rw[HCe.out];exact HD0.out.size))
 have HC2:=mkHid (HC.out.on hq9.1.out)
 have k1:y2.cell? ⟨C,1,none⟩=some (.slice pa n pc):=HC2.out.cell 1
 have HL2:=canListV v2 _ (n:Int) y2 HV2.out.isV (by rw[uintL_length,HT0.out];omega)
 clear hq9 hkx HKP HK0 hs1 HZ HC
 go_wp2_with fail
 refine HL2.mono ?_
 rintro e y3 ⟨v3,rfl,ho3,hb3⟩
 have HB3:Hid (Below w.heap.size w y3):=HB2.out.trans (hb3.mono HB2.out.size)
 have HI3:Hid (OwnB y3 w.heap.size v3 (headTo seq l 0)):=by unfold Hid;rw[H0.out];exact ho3.base HB2.out.size
 have HC3:=mkHid (HC2.out.on hb3)
 have k1:y3.cell? ⟨C,1,none⟩=some (.slice pa n pc):=HC3.out.cell 1
 clear ho3 hb3 HB2 HC2 HV2 HL2
 go_wp2_with fail
 go_loopw [3,22] (fun v i wr=>∃k:Nat,k≤n∧i=.int .i64 (k:Int)∧Hid (OwnB wr w.heap.size v (headTo seq l k))∧Hid (Below w.heap.size w wr)∧Hid (Blk wr C 113 [.int .u64 (seq:Int),.slice pa n pc,.slice da n dc])) (fun _ i _=>n-(Go.RowKit.intOf i).toNat)
 case atStart=>exact⟨0,Nat.zero_le _,rfl,HI3,HB3,HC3⟩
 case round =>
  obtain⟨k,hk,rfl,HO,HB,HCr⟩:=hrel
  clear HI3 HB3 HC3 k1
  by_cases hlt:k<n
  ·obtain⟨B1,o1,rfl,⟨_,_,_⟩,hc1⟩:=(HP.out.on HB.out).cells (by omega)
   have c0:=hc1 k hlt
   have hkl:k<l.length:=by rw[HN.out];exact hlt
   have hlt':(k:Int)<(n:Int):=by omega
   have hk0:(0:Int)≤(k:Int):=by omega
   have HSu:Hid (headTo seq l (k+1)=uintL (headTo seq l k) (nthL l k).1):=headTo_succ seq l k hkl
   have HLe:Hid ((headTo seq l k).length≤140737488351232):=by unfold Hid;rw[headTo_length _ _ _ (by rw[HN.out];exact hk)];omega
   have hat:=HA.out (nthL l k) (by unfold nthL;rw[List.getD_eq_getElem?_getD,List.getElem?_eq_getElem hkl];exact List.getElem_mem hkl)
   have hw:IntKind.u64.wrap ((nthL l k).1:Int)=((nthL l k).1:Int):=wrap64_nat _ (by omega)
   clear hc1 hkl
   generalize (nthL l k).1=ak at *
   have HUi:=canUintV u3 _ ak wr HO.out.isV HLe.out
   generalize headTo seq l k=hk1 at *
   go_wp2_with fail
   refine HUi.mono ?_
   rintro e w4 ⟨v4,rfl,ho4,hb4⟩
   have HB4:Hid (Below w.heap.size w w4):=HB.out.trans (hb4.mono HB.out.size)
   have HI4:Hid (OwnB w4 w.heap.size v4 (headTo seq l (k+1))):=by unfold Hid;rw[HSu.out];exact ho4.base HB.out.size
   have HC4:=mkHid (HCr.out.on hb4)
   clear ho4 hb4 HO HB HUi
   go_wp2_with fail
   go_roundw
   case rel=>exact⟨k+1,by omega,by go_num,HI4,HB4,HC4⟩
   case measure=>simp[Go.RowKit.intOf];omega
  ·have hge:¬(k:Int)<(n:Int):=by omega
   have hkn:k=n:=by omega
   subst hkn
   have HH:Hid (headTo seq l k=headJ seq l):=by unfold Hid headJ;rw[HN.out]
   rw[HH.out] at HO
   have HNw:=hNew wr
   go_wp2_with fail
   refine HNw.mono ?_
   rintro e y5 ⟨G,rfl,hG5,hH5,hb5⟩
   have HB5:Hid (Below w.heap.size w y5):=HB.out.trans (hb5.mono HB.out.size)
   have HO5:Hid (OwnB y5 w.heap.size u3 (headJ seq l)):=own_keep (ts:=[]) (KeepT.of_below hb5) HO.out (by simp)
   have HC5:=mkHid (HCr.out.on hb5)
   have HGl:Hid (w.heap.size≤G):=Nat.le_trans HB.out.size hG5
   have HA5:=hAddV G [] _ u3 w.heap.size y5 hH5 HO5.out (by rw[headJ_length,HN.out];show 0+_<_;omega)
   have HH5:=mkHid hH5
   rw[List.nil_append] at HA5
   have HL0:Hid ((headJ seq l).length=24+9 * k):=by unfold Hid;rw[headJ_length,HN.out]
   clear hH5 hb5 hG5 HNw HB HO HCr
   generalize hHJ:headJ seq l=hj at *
   go_wp2_with fail
   refine HA5.mono ?_
   rintro e y6 ⟨rfl,hH6,hg6⟩
   have HH6:Hid (IsH y6 G (addJ seq l 0)):=by unfold Hid;rw[addJ_zero,hHJ];exact hH6
   have HO6:=mkHid (HO5.out.keptH HH5.out hg6)
   have hGl5:=HH5.out.lt
   have HB6:Hid (Below w.heap.size w y6):=HB5.out.trans (bel_one hg6 HGl.out hGl5)
   have HC6:Hid (Blk y6 C 113 [.int .u64 (seq:Int),.slice pa k pc,.slice da k dc]):=(hg6.block C HC5.out.lt (fun e=>by
    obtain⟨ws,buf,q1,q2,q3⟩:=HH5.out
    exact blk_ne HC5.out q2 (by decide) (Option.some.inj e))).trans HC5.out
   have k2:y6.cell? ⟨C,2,none⟩=some (.slice da k dc):=HC6.out.cell 2
   have HHJ:=mkHid hHJ
   clear hH6 hg6 HH5 HO5 HB5 HC5 HA5 hGl5 hHJ
   go_wp2_with fail
   go_loopw [38] (fun i wr=>∃q:Nat,q≤k∧i=.int .i64 (q:Int)∧Hid (IsH wr G (addJ seq l q))∧Hid (OwnB wr w.heap.size u3 hj)∧Hid (Below w.heap.size w wr)) (fun i _=>k-(Go.RowKit.intOf i).toNat)
   case atStart=>exact⟨0,Nat.zero_le _,rfl,HH6,HO6,HB6⟩
   case round =>
    obtain⟨q,hq,rfl,HHr,HOr,HBr⟩:=hrel
    rename World=>wr2
    clear HH6 HO6 HB6 HC6 k2
    by_cases hlt:q<k
    ·obtain⟨B2,o2,rfl,⟨_,_,_⟩,hc2⟩:=(HD.out.on HBr.out).cells (by omega)
     obtain⟨h512,g,ty,c2,hbk,hty⟩:=hc2 q hlt
     have hlt':(q:Int)<(k:Int):=by omega
     have hq0:(0:Int)≤(q:Int):=by omega
     have hql:q<l.length:=by rw[HN.out];exact hlt
     have HSu:Hid (addJ seq l (q+1)=addJ seq l q++(nthL l q).2):=addJ_succ seq l q hql
     have HAd:=hAdd G (addJ seq l q) (nthL l q).2 (some ⟨g,0,none⟩) 512 512 wr2 HHr.out (blk_isB hbk h512) (fun _ b off e hb=>by
      obtain⟨ws,buf,q1,q2,q3⟩:=HHr.out
      have e:=Option.some.inj e
      injection e with e1
      subst e1 hb
      refine blk_ne hbk q2 ?_ rfl
      rcases List.mem_cons.1 hty with rfl|h9
      ·decide
      ·rw[List.mem_singleton.1 h9];decide) (by rw[addJ_length _ _ HL5.out _ (by omega),HN.out];omega)
     rw[←HSu.out] at HAd
     clear hc2 hbk hty h512 hql
     obtain⟨aq,haq⟩:∃aq,aq=addJ seq l (q+1):=⟨_,rfl⟩
     rw[←haq] at HAd
     have HAq:=mkHid haq
     clear haq
     go_wp2_with fail
     refine HAd.mono ?_
     rintro e y7 ⟨rfl,hH7,hg7⟩
     have HH7:=mkHid hH7
     have HO7:=mkHid (HOr.out.keptH HHr.out hg7)
     have HB7:Hid (Below w.heap.size w y7):=HBr.out.trans (bel_one hg7 HGl.out HHr.out.lt)
     clear hH7 hg7 HAd HHr HOr HBr
     go_wp2_with fail
     go_roundw
     case rel=>exact⟨q+1,by omega,by go_num,by rw[←HAq.out];exact HH7,HO7,HB7⟩
     case measure=>simp[Go.RowKit.intOf];omega
    ·have hge:¬(q:Int)<(k:Int):=by omega
     have hqk:q=k:=by omega
     subst hqk
     have HE:Hid (sha256L (addJ seq l q)=sumJ seq l):=by
      have:=addJ_all seq l
      rw[HN.out] at this
      exact this
     have HLq:Hid ((addJ seq l q).length<4294967296):=by unfold Hid;rw[addJ_length _ _ HL5.out _ (by rw[HN.out];exact Nat.le_refl _),HN.out];omega
     obtain⟨Z,hZ⟩:∃Z,Z=wr2.heap.size:=⟨_,rfl⟩
     have HZl:Hid (w.heap.size≤Z):=by unfold Hid;rw[hZ];exact HBr.out.size
     go_upto_region 16 with(at_make;refine make_full8 wr2 rfl _ _ rfl wr2.heap.size .i64 .i64 _ _ 512 rfl rfl rfl rfl (by omega) (Nat.le_refl _) ?_;intro y8 ho8 hg8;have HO8:=mkHid ho8;have HG8:=mkHid (gr_below hg8);clear ho8 hg8)
     rw[←hZ] at HO8 ⊢
     clear hZ
     have HBZ:Hid (Blk y8 Z 5 (bv (List.replicate 512 0))):=by
      rcases HO8.out.2 with⟨h,_⟩|⟨g,cap,cur,e,_,hgb,_,_,hsz,ht⟩
      ·cases h
      ·injection e with e1 _ e3
       have e4:Z=g:=by injection e1 with e1;injection e1 with e1
       subst e4
       unfold Hid Blk
       rw[hgb,←ht,List.take_of_length_le (by rw[Array.length_toList,hsz,←e3,List.length_replicate];exact Nat.le_refl _)]
     have HH8:=mkHid (HHr.out.on HG8.out)
     have HOp:Hid (OwnB y8 w.heap.size u3 hj):=own_keep (ts:=[]) (KeepT.of_below HG8.out) HOr.out (by simp)
     have HB8:Hid (Below w.heap.size w y8):=HBr.out.trans (HG8.out.mono HBr.out.size)
     have HSm:=hSum G _ y8 HH8.out HLq.out
     rw[HE.out] at HSm
     clear HHr HOr HBr HO8 HG8
     go_wp2_with fail
     refine HSm.mono ?_
     rintro e y9 ⟨v9,rfl,hv9,hb9⟩
     have HBZ9:=mkHid (HBZ.out.on hb9)
     have HOp9:Hid (OwnB y9 w.heap.size u3 hj):=own_keep (ts:=[]) (KeepT.of_below hb9) HOp.out (by simp)
     have HB9:Hid (Below w.heap.size w y9):=HB8.out.trans (hb9.mono HB8.out.size)
     have HBy:=canBytesV u3 v9 hj (sumJ seq l) y9 HOp9.out.isV hv9.isV (by rw[HL0.out];omega) (by unfold sumJ;rw[sha256L_length];omega)
     have HPe:Hid (bytesL hj (sumJ seq l)=preJ seq l):=by unfold Hid preJ;rw[HHJ.out]
     rw[HPe.out] at HBy
     clear hv9 hb9 HBZ HOp HB8 HSm
     go_wp2_with fail
     refine HBy.mono ?_
     rintro e ya ⟨va,rfl,hva,hba⟩
     have HPl:Hid ((preJ seq l).length≤512):=by unfold Hid;rw[preJ_length,HN.out];omega
     obtain⟨yb,hcp,hBb,hgb⟩:=copyS ya Z va y9.heap.size (preJ seq l) (HBZ9.out.on hba) hva HPl.out
     have HBb:Hid (Blk yb Z 5 (bv (sealJ seq l))):=hBb
     have HBa:Hid (Below w.heap.size w ya):=HB9.out.trans (hba.mono HB9.out.size)
     have HByb:Hid (Below w.heap.size w yb):=HBa.out.trans (bel_one hgb HZl.out (HBZ9.out.on hba).lt)
     clear hBb hgb hva hba HBy HBZ9 HOp9 HB9
     generalize (preJ seq l).length=pl at *
     go_wp2_with fail
     go_ret
     exact⟨Z,rfl,HBb.out,HZl.out,HByb.out⟩
end Go.Proofs.YtpecobmfabmpkaaGreatDoor
namespace Go.Proofs.YtpecobmfabmpkaaGreatDoor
open Go.RowKit Go.Sort
def OwnI (w:World)(base:Nat)(v:Value)(l:Qs):Prop:=w.ownsRow base 3 1 v l.length ((l.map fun g=>(g.1:Int)).map encZ)
theorem OwnI.nil (w:World)(base:Nat):OwnI w base (.slice none 0 0) []:=World.ownsRow_nil _ _ _ _
theorem list_appI {ops:Array Oper}{rest:List Oper}{o:Oper}{a:Act}{Q:Exit→Act→World→Prop}(w:World)(hgd:o.guard=none)(s x:Operand)
  (ho:o.op=.call { callee:=.builtin .append,args:=#[s,x],argTypes:=#[58,58] }) (base:Nat)
  (v:Value) (l:Qs) (hs:a.eval s=v) (hown:OwnI w base v l) (B i:Nat) (b:List UInt8) (hx:a.eval x=.slice (some ⟨B,0,none⟩) 1 1)
  (hb:w.heap[B]?=some (.cells #[.int .i64 (i:Int)] 3 (0,0))) (hle:l.length≤4096) (hbase:base≤w.heap.size)
  (h:∀v' w',OwnI w' base v' (l++[(i,b)])→w.grownBy w' v.ownBlock→wpList Tryz.prog ops Q rest (a.put o.dst v') w'):
  wpList Tryz.prog ops Q (o::rest) a w:=by
 obtain⟨i0,hi,hz0,hz1,hz2⟩:=info_parts infoI3
 refine wpList_append_own w hgd s x 58 ho base 3 i0 (.int .i64 0) 1 8 Tryz.underlying58 hi hz0 hz1 hz2 rfl (by omega) v l.length _ hs hown ⟨B,0,none⟩ 1 1 [.int .i64 (i:Int)] hx (by simp) (fun j u hu=>World.news_of_block hb j u (by simpa using hu)) (fun u hu=>by rw[List.mem_singleton.1 hu];rfl) (by unfold maxLen;omega) (by omega) hbase ?_
 intro v' w' h1 h2 _
 refine h v' w' ?_ h2
 unfold OwnI
 rw[List.length_append,List.map_append,List.map_append]
 exact h1
theorem IsR.newer {w w':World}{B X:Nat}{l:List UInt8}{br:Bool}(h:IsR w B l br)(hg:w.grownBy w' (some X))(hX:B<X):IsR w' B l br:=by
 obtain⟨a,cap,hb,hi,hne⟩:=h
 refine⟨a,cap,(hg.block B hb.lt (fun e=>by have:=Option.some.inj e;omega)).trans hb,⟨hi.len_eq,hi.le,hi.max,hi.nil,fun hp=>?_⟩,hne⟩
 obtain⟨b,off,e,hc⟩:=hi.cells hp
 refine⟨b,off,e,fun i hi2=>?_⟩
 have hbl:=hne _ e
 have h0:=hc i hi2
 have e2:=hg.block b (cell_lt h0) (fun e3=>by have:=Option.some.inj e3;have:b<B:=hbl;omega)
 exact(World.cell?_of_block (a:=⟨b,off+i,none⟩) e2).trans h0
theorem IsR.row {w w':World}{B base:Nat}{l:List UInt8}{br:Bool}{v:Value}(h:IsR w B l br)(hg:w.grownBy w' v.ownBlock)(hv:∀k,v.ownBlock=some k→base≤k)(hb:B<base):IsR w' B l br:=by
 cases hq:v.ownBlock with
 | none =>
  rw[hq] at hg
  exact h.on (gr_below hg)
 | some k =>
  rw[hq] at hg
  exact h.newer hg (Nat.lt_of_lt_of_le hb (hv k hq))
end Go.Proofs.YtpecobmfabmpkaaGreatDoor
namespace Go.Proofs.YtpecobmfabmpkaaGreatDoor
open Go.RowKit
theorem eqBA (l m:List UInt8):((⟨l.toArray⟩:ByteArray).toList==(⟨m.toArray⟩:ByteArray).toList)=decide (l=m):=by
 rw[ByteArray.toList_mk,ByteArray.toList_mk]
 cases h:(l==m) with
 | true=>exact(decide_eq_true (by simpa using h)).symm
 | false=>exact(decide_eq_false (by simpa using h)).symm
theorem codEqual (a1 a2:Option Addr)(n1 n2 c1 c2:Nat)(l m:List UInt8)(w:World)(h1:IsB w a1 n1 c1 l)(h2:IsB w a2 n2 c2 m):
  Calls Tryz.prog 90 #[.slice a1 n1 c1,.slice a2 n2 c2] w fun e w'=>e=.returned (.bool (decide (l=m)))∧w'=w:=by
 have e1:=conv_isB w a1 n1 c1 l h1
 have e2:=conv_isB w a2 n2 c2 m h2
 have HE:Hid (((⟨l.toArray⟩:ByteArray).toList==(⟨m.toArray⟩:ByteArray).toList)=decide (l=m)):=eqBA l m
 clear h1 h2
 generalize (⟨l.toArray⟩:ByteArray)=s at *
 generalize (⟨m.toArray⟩:ByteArray)=t at *
 go_enter Tryz.func90,Tryz.ntmps90
 go_wp2_with fail
 go_ret
 exact⟨by rw[←HE.out];rfl,rfl⟩
theorem infoQ:(Tryz.prog.info? 33).map (fun i=>(i.zero,i.size,i.bytes))=some (some (.slice none 0 0),1,24):=by kernel_rfl
theorem slQ1 (F n:Nat)(hn:1<n)(w:World):(Instr.slice 59 (.slice (some ⟨F,0,none⟩) n n) (some (.int .i64 1)) none none).run Tryz.prog w=.ok (.slice (some ⟨F,1,none⟩) (n-1) (n-1)) w:=by
 have he:Tryz.prog.elem 59=33:=by kernel_rfl
 have hz:(sizeOf 33).run Tryz.prog w=.ok 1 w:=by
  obtain⟨i0,hi,hz0,hz1,hz2⟩:=info_parts infoQ
  simp[sizeOf,typeInfo,hi,hz1]
 rw[run_slice_l w 59 _ n n (by rw[he];exact Tryz.underlying59) .i64 1 (by omega) (by omega),he,hz]
 have e1:(1:Int).toNat=1:=rfl
 simp only[Result.andThen,sliced,e1,Nat.mul_one,Option.map_some,Addr.add_lit,Nat.zero_add]
 rw[if_neg (by omega)]
theorem slQh (F o n c k:Nat)(hk:k≤c)(w:World):(Instr.slice 59 (.slice (some ⟨F,o,none⟩) n c) none (some (.int .i64 (k:Int))) none).run Tryz.prog w=.ok (.slice (some ⟨F,o,none⟩) k c) w:=by
 have he:Tryz.prog.elem 59=33:=by kernel_rfl
 have hz:(sizeOf 33).run Tryz.prog w=.ok 1 w:=by
  obtain⟨i0,hi,hz0,hz1,hz2⟩:=info_parts infoQ
  simp[sizeOf,typeInfo,hi,hz1]
 rw[run_slice_h w 59 _ n c (by rw[he];exact Tryz.underlying59) .i64 (k:Int) (by omega) (by omega),he,hz]
 simp only[Result.andThen,sliced,Int.toNat_natCast,Nat.zero_mul,Nat.sub_zero,Option.map_some,Addr.add_lit,Nat.add_zero]
 split<;>rfl
end Go.Proofs.YtpecobmfabmpkaaGreatDoor
