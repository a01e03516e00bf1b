/- TsA Bl7 Tr8 Tr9 TrA TrB MarkB TsB TrC TsC RLaid Env13 -/
import Derived.Test.YtpecobmfabmpkaaGreatDoorM21
import Derived.Test.YtpecobmfabmpkaaGreatDoorM22
import Derived.Lib.SlBytesConst
import Derived.Stop.LaidErr
import Derived.Shelf.Vars
import Derived.Lib.LaidTab
import Derived.MakeChecks
import Derived.SizedLaws
import Derived.Test.YtpecobmfabmpkaaGreatDoorRows
set_option maxRecDepth 20000
set_option maxHeartbeats 4000000
namespace Go.Proofs.YtpecobmfabmpkaaGreatDoor
section
open Go.RowKit
abbrev t0:Tl:=⟨[],false⟩
structure TJ (w:World)(J P base m n:Nat)(j:Jl)(root:Nat)(l:List Et)(SS:List Int):Prop where
 ja:JAt w J P base j
 tk:Tk t0 j m SS
 tr:TR t0 j root l SS
 n:j.p.n=n
theorem lawFreshN (n:Nat)(h0:64≤n)(h1:n≤4096)(w:World)(base:Nat)(hbase:base≤w.heap.size):
  Calls Tryz.prog 9 #[.int .i64 (n:Int)] w fun e w'=>(∃J S P,e=.returned (.tuple #[.pointer (some ⟨J,0,none⟩),.pointer (some ⟨S,0,none⟩)])∧Hid (SpAx w' S J P base t0 ⟨Pl.new n,0,false⟩))∧Hid (KS base w w'):=by
 have HN:Calls Tryz.prog 34 #[.int .i64 (n:Int)] w fun e w'=>(∃P,e=.returned (.tuple #[.pointer (some ⟨P,0,none⟩),.int .i64 0])∧IsD0 w' P base (Pl.new n))∧Below w.heap.size w w':=by
  refine(codNew (fun _=>False) (n:Int) w base hbase (fun _ h=>h.elim)).mono ?_
  rintro e w' ⟨h1,h2⟩
  simp only[if_pos (show (64:Int)≤(n:Int)∧(n:Int)≤4096 by omega)] at h1
  rw[show (n:Int).toNat=n by omega] at h1
  exact⟨h1,h2⟩
 have HBs:=mkHid hbase
 have hmn:=mountN n h0 h1
 have hfw:=few_mnew n h0 h1
 have hft:=newFit n h0 h1
 go_enter Tryz.func9,Tryz.ntmps9
 go_wp2_with fail
 refine HN.mono ?_
 rintro e x1 ⟨⟨P,rfl,hI1⟩,hb1⟩
 have HK1:=mkHid (KS.of_below hb1 HBs.out)
 have HM:=jMount jrnOK hI1 hfw (by omega) hmn.1
 rw[hmn.2.1,hmn.2.2] at HM
 clear HN hI1 hb1
 go_wp2_with fail
 refine HM.mono ?_
 rintro e x2 ⟨⟨J,rfl,hJ2⟩,hk2⟩
 have HK2:=mkHid (HK1.out.trans (KS.ofP hk2))
 have HO:=spcOK.open_ x2 J P base 50 ⟨Pl.new n,0,false⟩ hJ2 hft
 clear HM hJ2 hk2
 go_wp2_with fail
 refine HO.mono ?_
 rintro e x3 ⟨⟨S,rfl,hS3⟩,hk3⟩
 have HK3:=mkHid (HK2.out.trans hk3)
 clear HO hk3
 go_wp2_with fail
 go_ret2
 exact⟨⟨J,S,P,rfl,hS3⟩,HK3⟩
theorem tr_new (n:Nat):TR t0 ⟨Pl.new n,0,false⟩ 0 [] []:=⟨List.Pairwise.nil,.inl ⟨rfl,rfl,rfl⟩⟩
theorem tj_new {w:World}{S J P base n:Nat}(h0:64≤n)(h1:n≤4096)(h:SpAx w S J P base t0 ⟨Pl.new n,0,false⟩):TJ w J P base 50 n ⟨Pl.new n,0,false⟩ 0 [] []:=⟨spcOK.toJ h,tk_new n h0 h1,tr_new n,rfl⟩
theorem treeOpen {w:World}{J P base m n:Nat}{j:Jl}{root:Nat}{l:List Et}{SS:List Int}(h:TJ w J P base m n j root l SS):
  Calls Tryz.prog 10 #[.pointer (some ⟨J,0,none⟩)] w fun e w'=>(∃S,e=.returned (.tuple #[.pointer (some ⟨S,0,none⟩),.int .i64 0])∧SpAx w' S J P base t0 j)∧KS base w w':=spcOK.open_ w J P base m j h.ja h.tk.fit
theorem treeCommit {w:World}{S J P base m n:Nat}{t:Tl}{j:Jl}{root:Nat}{l:List Et}{SS:List Int}(h:SpAx w S J P base t j)(hk:Tk t j m SS)(ht:TR t j root l SS)(hn:j.p.n=n)(hm:m+150≤80000):
  Calls Tryz.prog 26 #[.pointer (some ⟨S,0,none⟩)] w fun e w'=>e=.returned (.int .i64 0)∧TJ w' J P base (m+150) n (cmJ t j) root l SS∧KS base w w':=by
 obtain⟨e1,e2,e3⟩:=hk.commit hm
 have H:=spcOK.commit w S J P base m t j h hk.fit
 rw[e1] at H
 refine H.mono ?_
 rintro e w' ⟨he,hj,hks⟩
 refine⟨he,⟨hj,e2,ht.same fun k hkS=>?_,e3.trans hn⟩,hks⟩
 have hr:=hk.rng _ hkS
 exact cm_spRd hk.fit hk.sort k (by omega) (by omega)
theorem IsB.bsp {fl:Nat}{w:World}{a:Option Addr}{n c:Nat}{l:List UInt8}(h:∀W,KeepU fl [5] w W→IsB W a n c l):BsP fl w a n c l:=fun W hW=>h W (hW.less (by decide))
theorem EtQ.of {fl:Nat}{w:World}{k v:List UInt8}{ka va:Option Addr}{kc vc:Nat}(h1:BsP fl w ka k.length kc k)(h2:BsP fl w va v.length vc v):EtQ fl w ⟨k,v⟩ ⟨ka,kc,va,vc⟩:=fun W hW=>⟨h1 W hW,h2 W hW⟩
variable {fl:Nat}
def vByte (m:Int)(i:Nat):UInt8:=UInt8.ofNat ((m+(i:Int))%256).toNat
def vTo (r k:Nat)(m:Int):List UInt8:=(List.range r).map fun i=>if i<k then vByte m i else 0
def mkVal (m:Int)(r:Nat):List UInt8:=(List.range r).map fun i=>vByte m i
def valP (p:Kp):List UInt8:=if p.value=[] then mkVal p.m (nK p.m 170) else p.value
theorem vTo_len (r k:Nat)(m:Int):(vTo r k m).length=r:=by unfold vTo;simp
theorem vTo_zero (r:Nat)(m:Int):vTo r 0 m=List.replicate r 0:=by
 unfold vTo
 apply List.ext_getElem
 ·simp
 ·intro i h1 h2;simp
theorem vTo_all (r:Nat)(m:Int):vTo r r m=mkVal m r:=by
 unfold vTo mkVal
 apply List.map_congr_left
 intro i hi
 rw[if_pos (List.mem_range.1 hi)]
theorem vTo_set (r k:Nat)(m:Int):(vTo r k m).set k (vByte m k)=vTo r (k+1) m:=by
 unfold vTo
 apply List.ext_getElem
 ·simp
 ·intro i h1 h2
  simp only[List.getElem_set,List.getElem_map,List.getElem_range]
  by_cases e:k=i
  ·subst e;rw[if_pos rfl,if_pos (by omega)]
  ·rw[if_neg e]
   by_cases h:i<k
   ·rw[if_pos h,if_pos (by omega)]
   ·rw[if_neg h,if_neg (by omega)]
theorem wrap_mod (x:Int):wrap64 x%256=x%256:=by unfold wrap64;omega
theorem vByte_nat (m:Int)(i:Nat):((vByte m i).toNat:Int)=(m+(i:Int))%256:=by
 unfold vByte
 rw[UInt8.toNat_ofNat']
 have:0≤(m+(i:Int))%256:=Int.emod_nonneg _ (by omega)
 have:(m+(i:Int))%256<256:=Int.emod_lt_of_pos _ (by omega)
 omega
theorem lawValue13 (p:Kp)(q:KpA)(w:World)(h:KpK fl w p q)(h0 : -9223372036854775808≤p.m)(h1:p.m≤9223372036854775807)(hl:p.value.length≤9223372036854775807):
  Calls Tryz.prog 12 #[.agg (kpc p q).toArray] w fun e w'=>KeyPost fl (valP p) e w'∧Below w.heap.size w w':=by
 have hY:Below w.heap.size w (w.alloc (.cells (kpc p q).toArray 35)):=(Below.refl _ w).alloc (Nat.le_refl _) _
 have kb:=Blk.new w 35 (kpc p q)
 have HK:=mkHid h
 clear h
 obtain⟨kind,key,n,m,value⟩:=p
 obtain⟨qa,qc,qb,qd⟩:=q
 simp only[kpc] at *
 have HY:=mkHid hY
 have c4:(w.alloc (.cells #[.int .i64 kind,.slice qa key.length qc,.int .i64 n,.int .i64 m,.slice qb value.length qd] 35)).cell? ⟨w.heap.size,4,none⟩=some (.slice qb value.length qd):=kb.cell 4
 have c3:(w.alloc (.cells #[.int .i64 kind,.slice qa key.length qc,.int .i64 n,.int .i64 m,.slice qb value.length qd] 35)).cell? ⟨w.heap.size,3,none⟩=some (.int .i64 m):=kb.cell 3
 have HKb:=mkHid kb
 clear hY kb
 by_cases hk:value=[]
 ·subst hk
  have HV:Hid (valP ⟨kind,key,n,m,[]⟩=mkVal m (nK m 170)):=rfl
  have hr:=nK_lt m 170 (by omega)
  have e1:m.tmod 170=(nK m 170:Int)∨(m.tmod 170 = -(nK m 170:Int)∧0<nK m 170):=by unfold nK;omega
  change nK m 170<170 at hr
  generalize nK m 170=r at *
  simp only[List.length_nil] at c4 c3 HK HY HKb ⊢
  have HL0:Hid (w.heap.size<(w.alloc (Obj.cells #[Value.int IntKind.i64 kind,Value.slice qa key.length qc,Value.int IntKind.i64 n,Value.int IntKind.i64 m,Value.slice qb 0 qd] 35)).heap.size):=by unfold Hid;simp
  generalize hX:(w.alloc (Obj.cells #[Value.int IntKind.i64 kind,Value.slice qa key.length qc,Value.int IntKind.i64 n,Value.int IntKind.i64 m,Value.slice qb 0 qd] 35))=X at *
  have HC:=mkHid c3
  rcases e1 with e1|⟨e1,hr0⟩
  ·have hn0:¬(r:Int)<0:=by omega
   go_enter Tryz.func12,Tryz.ntmps12
   go_wp2_with (at_make;refine make_full8 X rfl _ _ rfl X.heap.size .i64 .i64 _ _ r rfl rfl rfl rfl (by omega) (Nat.le_refl _) ?_;intro w1 ho1 hg1;have HB1:Hid (Below X.heap.size X w1):=(Below.refl _ X).grown hg1 (Nat.le_refl _) (fun k e=>by cases e);have HO1:=mkHid ho1;clear ho1 hg1)
   generalize hH:X.heap.size=H at *
   have HH:=mkHid hH
   clear hH
   rw[←vTo_zero r m] at HO1
   go_loopw [5] (fun i wr=>∃k:Nat,k≤r∧i=.int .i64 (k:Int)∧Hid (OwnB wr H (.slice (some ⟨H,0,none⟩) r r) (vTo r k m))∧Hid (Below H X wr)) (fun i _=>r-(Go.RowKit.intOf i).toNat)
   case atStart=>exact⟨0,Nat.zero_le _,rfl,HO1,HB1⟩
   case round =>
    obtain⟨k,hk,rfl,HO,HB⟩:=hrel
    by_cases hlt:k<r
    ·have hlt':(k:Int)<(r:Int):=by omega
     have c0:=HO.out.cellAt (vTo_len r k m) k hlt
     have f0:=HO.out.frozenAt (vTo_len r k m) k
     have HO2:=mkHid (HO.out.set (vTo_len r k m) k (vByte m k))
     rw[vTo_set r k m] at HO2
     have HB2:Hid (Below H X (wr.setCell ⟨H,k,none⟩ (.int .u8 ((vByte m k).toNat:Int)))):=HB.out.setCell (p:=⟨H,k,none⟩) (Nat.le_refl _) _
     have c5:wr.cell? ⟨w.heap.size,3,none⟩=some (.int .i64 m):=(HB.out.cell (p:=⟨w.heap.size,3,none⟩) (HL0.out)).trans HC.out
     rw[vByte_nat,←wrap_mod] at HO2 HB2
     clear HO
     go_wp2_with fail
     go_roundw
     case rel=>exact⟨k+1,by omega,by go_num,HO2,HB2⟩
     case measure=>simp[Go.RowKit.intOf];omega
    ·have hlt':¬(k:Int)<(r:Int):=by omega
     obtain rfl:k=r:=by omega
     rw[vTo_all] at HO
     go_wp2_with fail
     go_ret
     rw[HV.out]
     have hlen:(mkVal m k).length=k:=by unfold mkVal;simp
     have hO:OwnB wr H (.slice (some ⟨H,0,none⟩) (mkVal m k).length k) (mkVal m k):=by rw[hlen];exact HO.out
     exact⟨⟨some ⟨H,0,none⟩,k,by rw[hlen];rfl,fun W hW=>own_isB (own_keepO hW.o hO (by decide))⟩,HY.out.trans (HB.out.mono (by rw[←HH.out];exact HY.out.size))⟩
  ·have hn0:(-(r:Int))<0:=by omega
   have hn1 : -(-(r:Int))=(r:Int):=by omega
   go_enter Tryz.func12,Tryz.ntmps12
   go_wp2_with (at_make;refine make_full8 X rfl _ _ rfl X.heap.size .i64 .i64 _ _ r rfl rfl rfl rfl (by omega) (Nat.le_refl _) ?_;intro w1 ho1 hg1;have HB1:Hid (Below X.heap.size X w1):=(Below.refl _ X).grown hg1 (Nat.le_refl _) (fun k e=>by cases e);have HO1:=mkHid ho1;clear ho1 hg1)
   generalize hH:X.heap.size=H at *
   have HH:=mkHid hH
   clear hH
   rw[←vTo_zero r m] at HO1
   go_loopw [5] (fun i wr=>∃k:Nat,k≤r∧i=.int .i64 (k:Int)∧Hid (OwnB wr H (.slice (some ⟨H,0,none⟩) r r) (vTo r k m))∧Hid (Below H X wr)) (fun i _=>r-(Go.RowKit.intOf i).toNat)
   case atStart=>exact⟨0,Nat.zero_le _,rfl,HO1,HB1⟩
   case round =>
    obtain⟨k,hk,rfl,HO,HB⟩:=hrel
    by_cases hlt:k<r
    ·have hlt':(k:Int)<(r:Int):=by omega
     have c0:=HO.out.cellAt (vTo_len r k m) k hlt
     have f0:=HO.out.frozenAt (vTo_len r k m) k
     have HO2:=mkHid (HO.out.set (vTo_len r k m) k (vByte m k))
     rw[vTo_set r k m] at HO2
     have HB2:Hid (Below H X (wr.setCell ⟨H,k,none⟩ (.int .u8 ((vByte m k).toNat:Int)))):=HB.out.setCell (p:=⟨H,k,none⟩) (Nat.le_refl _) _
     have c5:wr.cell? ⟨w.heap.size,3,none⟩=some (.int .i64 m):=(HB.out.cell (p:=⟨w.heap.size,3,none⟩) (HL0.out)).trans HC.out
     rw[vByte_nat,←wrap_mod] at HO2 HB2
     clear HO
     go_wp2_with fail
     go_roundw
     case rel=>exact⟨k+1,by omega,by go_num,HO2,HB2⟩
     case measure=>simp[Go.RowKit.intOf];omega
    ·have hlt':¬(k:Int)<(r:Int):=by omega
     obtain rfl:k=r:=by omega
     rw[vTo_all] at HO
     go_wp2_with fail
     go_ret
     rw[HV.out]
     have hlen:(mkVal m k).length=k:=by unfold mkVal;simp
     have hO:OwnB wr H (.slice (some ⟨H,0,none⟩) (mkVal m k).length k) (mkVal m k):=by rw[hlen];exact HO.out
     exact⟨⟨some ⟨H,0,none⟩,k,by rw[hlen];rfl,fun W hW=>own_isB (own_keepO hW.o hO (by decide))⟩,HY.out.trans (HB.out.mono (by rw[←HH.out];exact HY.out.size))⟩
 ·have HV:Hid (valP ⟨kind,key,n,m,value⟩=value):=by unfold Hid valP;rw[if_neg hk]
  have hp:(0:Int)<(value.length:Int):=by have:=List.length_pos_iff.2 hk;omega
  go_enter Tryz.func12,Tryz.ntmps12
  go_wp2_with fail
  go_ret
  rw[HV.out]
  exact⟨⟨_,_,rfl,fun W hW=>HK.out.v W ((KeepU.of_below HY.out).trans hW)⟩,HY.out⟩
end
section
open Go.RowKit
structure IsEs (w:World)(a:Option Addr)(n:Nat)(l:List Eq3):Prop where
 len:l.length=n
 cells:0<n→∃g off,a=some ⟨g,off,none⟩∧∀(k:Nat) (x:Eq3),l[k]?=some x→w.cell? ⟨g,off+k * 2,none⟩=some (.slice x.2.a x.1.k.length x.2.c)∧w.cell? ⟨g,off+k * 2+1,none⟩=some (.slice x.2.b x.1.v.length x.2.d)∧IsE w x.1 x.2
theorem same_step {la lb:List Eq3}{k:Nat}{x y:Eq3}(h:(plE la).take k=(plE lb).take k)(hx:la[k]?=some x)(hy:lb[k]?=some y)(e1:x.1.k=y.1.k)(e2:x.1.v=y.1.v):(plE la).take (k+1)=(plE lb).take (k+1):=by
 have e:x.1=y.1:=by
  obtain⟨⟨_,_⟩,_⟩:=x
  obtain⟨⟨_,_⟩,_⟩:=y
  simp only at e1 e2
  rw[e1,e2]
 rw[List.take_add_one,List.take_add_one,h]
 unfold plE
 rw[List.getElem?_map,List.getElem?_map,hx,hy]
 simp only[Option.map_some,e]
theorem same_no {la lb:List Eq3}{k:Nat}{x y:Eq3}(hx:la[k]?=some x)(hy:lb[k]?=some y)(h:x.1.k≠y.1.k∨x.1.v≠y.1.v):plE la≠plE lb:=fun e=>by
 have h1:(plE la)[k]?=(plE lb)[k]?:=by rw[e]
 unfold plE at h1
 rw[List.getElem?_map,List.getElem?_map,hx,hy] at h1
 have h2:x.1=y.1:=by simpa using h1
 rcases h with h|h
 ·exact h (by rw[h2])
 ·exact h (by rw[h2])
theorem refSameQ {a0:Option Addr}{len0 cap0:Nat}{l:List UInt8}{a1:Option Addr}{len1 cap1:Nat}{m:List UInt8}{w:World}(w0:IsB w a0 len0 cap0 l)(w1:IsB w a1 len1 cap1 m)(b:Bool)(hb:eqB l m=b)(n:Nat):
  Calls Tryz.prog 21 #[.slice a0 len0 cap0,.slice a1 len1 cap1] (w.drewN n) fun e w'=>e=.returned (.bool b)∧∃k,w'=w.drewN k:=by
 refine(refSame a0 len0 cap0 l a1 len1 cap1 m (w.drewN n) (w0.below (bel_drewN (Below.refl _ _) n) rfl) (w1.below (bel_drewN (Below.refl _ _) n) rfl)).mono ?_
 rintro e w' ⟨rfl,k,rfl⟩
 rw[hb]
 exact⟨rfl,n+k,World.drewN_drewN ..⟩
theorem lawSame13 (la lb:List Eq3)(a b:Option Addr)(n ca m cb base:Nat)(w:World)(ha:IsEs w a n la)(hb:RowE w base (.slice b m cb) lb)(hn:n≤100000)(hm:m≤100000):
  Calls Tryz.prog 23 #[.slice a n ca,.slice b m cb] w fun e w'=>e=.returned (.bool (decide (plE la=plE lb)))∧Below w.heap.size w w':=by
 have hl:=ha.len
 have hl2:=hb.len
 by_cases hnm:n=m
 ·subst hnm
  have HL:=mkHid hl
  have HL2:=mkHid hl2
  have HA:=mkHid ha
  have HB:=mkHid hb
  clear ha hb hl hl2
  go_enter Tryz.func23,Tryz.ntmps23
  go_wp2_with fail
  go_loopw [5] (fun i wr=>∃k q:Nat,wr=w.drewN q∧k≤n∧i=.int .i64 (k:Int)∧Hid ((plE la).take k=(plE lb).take k)) (fun i _=>n-(Go.RowKit.intOf i).toNat)
  case atStart=>exact⟨0,0,rfl,Nat.zero_le _,rfl,rfl⟩
  case round =>
   obtain⟨k,q,rfl,hk,rfl,HE⟩:=hrel
   by_cases hlt:k<n
   ·have hlt':(k:Int)<(n:Int):=by omega
    have hk0:(0:Int)≤(k:Int):=by omega
    obtain⟨g,off,rfl,hc⟩:=HA.out.cells (by omega)
    obtain⟨x,hx⟩:∃x,la[k]?=some x:=⟨la[k]'(by rw[HL.out];exact hlt),List.getElem?_eq_getElem _⟩
    obtain⟨c0,c1,hxi⟩:=hc k x hx
    obtain⟨g2,y,rfl,_,hy,hyi,d0,d1⟩:=HB.out.at_ k hlt
    have C0:∀z,((w.drewN q).drewN z).cell? ⟨g,off+k * 2,none⟩=some (.slice x.2.a x.1.k.length x.2.c):=fun z=>c0
    have C1:∀z,((w.drewN q).drewN z).cell? ⟨g,off+k * 2+1,none⟩=some (.slice x.2.b x.1.v.length x.2.d):=fun z=>c1
    have D0:∀z,((w.drewN q).drewN z).cell? ⟨g2,k * 2,none⟩=some (.slice y.2.a y.1.k.length y.2.c):=fun z=>d0
    have D1:∀z,((w.drewN q).drewN z).cell? ⟨g2,k * 2+1,none⟩=some (.slice y.2.b y.1.v.length y.2.d):=fun z=>d1
    have hxw:IsE (w.drewN q) x.1 x.2:=hxi.below (bel_drewN (Below.refl _ _) q)
    have hyw:IsE (w.drewN q) y.1 y.2:=hyi.below (bel_drewN (Below.refl _ _) q)
    have HBq:Hid (∀z,Below w.heap.size w ((w.drewN q).drewN z)):=fun z=>bel_drewN (bel_drewN (Below.refl _ _) q) z
    have HQq:Hid (∀z,∃y,(w.drewN q).drewN z=w.drewN y):=fun z=>⟨_,World.drewN_drewN ..⟩
    clear c0 c1 d0 d1 hc hxi hyi
    generalize w.drewN q=W at *
    cases e1:eqB x.1.k y.1.k with
    | false =>
     have HV:Hid (false=decide (plE la=plE lb)):=(decide_eq_false (same_no hx hy (.inl (fun h=>by rw[h,eqB_self] at e1;cases e1)))).symm
     have S1:=fun (z:Nat)=>refSameQ hxw.k hyw.k false e1 z
     clear hx hy hxw hyw e1 HE
     generalize x.1.k.length=xk at *
     generalize y.1.k.length=yk at *
     generalize x.1.v.length=xv at *
     generalize y.1.v.length=yv at *
     go_wp2_with fail
     go_quiet (first|(go_at_call 21;exact S1 _))
     go_wp2_with fail
     go_ret
     exact⟨ret_b HV.out,HBq.out _⟩
    | true =>
     have k1:x.1.k=y.1.k:=by simpa [eqB] using e1
     cases e2:eqB x.1.v y.1.v with
     | false =>
      have HV:Hid (false=decide (plE la=plE lb)):=(decide_eq_false (same_no hx hy (.inr (fun h=>by rw[h,eqB_self] at e2;cases e2)))).symm
      have S1:=fun (z:Nat)=>refSameQ hxw.k hyw.k true e1 z
      have S2:=fun (z:Nat)=>refSameQ hxw.v hyw.v false e2 z
      clear hx hy hxw hyw e1 e2 HE k1
      generalize x.1.k.length=xk at *
      generalize y.1.k.length=yk at *
      generalize x.1.v.length=xv at *
      generalize y.1.v.length=yv at *
      go_wp2_with fail
      go_quiet (first|(go_at_call 21;first|with_reducible exact S1 _|with_reducible exact S2 _))
      go_wp2_with fail
      go_ret
      exact⟨ret_b HV.out,HBq.out _⟩
     | true =>
      have k2:x.1.v=y.1.v:=by simpa [eqB] using e2
      have HE2:=mkHid (same_step HE.out hx hy k1 k2)
      have S1:=fun (z:Nat)=>refSameQ hxw.k hyw.k true e1 z
      have S2:=fun (z:Nat)=>refSameQ hxw.v hyw.v true e2 z
      clear hx hy hxw hyw e1 e2 HE k1 k2
      generalize x.1.k.length=xk at *
      generalize y.1.k.length=yk at *
      generalize x.1.v.length=xv at *
      generalize y.1.v.length=yv at *
      go_wp2_with fail
      go_quiet (first|(go_at_call 21;first|with_reducible exact S1 _|with_reducible exact S2 _))
      go_wp2_with fail
      go_roundw
      case rel =>
       obtain⟨y2,hy2⟩:=HQq.out nq
       exact⟨k+1,y2,hy2,by omega,by go_num,HE2⟩
      case measure=>simp[Go.RowKit.intOf];omega
   ·have hlt':¬(k:Int)<(n:Int):=by omega
    have HV:Hid (true=decide (plE la=plE lb)):=by
     have h:=HE.out
     rw[List.take_of_length_le (by rw[plE_len,HL.out];omega),List.take_of_length_le (by rw[plE_len,HL2.out];omega)] at h
     exact(decide_eq_true h).symm
    have HBq:Hid (∀z,Below w.heap.size w (w.drewN z)):=fun z=>bel_drewN (Below.refl _ _) z
    go_wp2_with fail
    go_ret
    exact⟨ret_b HV.out,HBq.out _⟩
 ·have hne:¬(n:Int)=(m:Int):=by omega
  have HV:Hid (true = !decide (plE la=plE lb)):=by
   have:plE la≠plE lb:=fun e=>hnm (by rw[←hl,←hl2,←plE_len la,e,plE_len])
   unfold Hid;rw[decide_eq_false this];rfl
  have HV2:Hid (false=decide (plE la=plE lb)):=by
   have:plE la≠plE lb:=fun e=>hnm (by rw[←hl,←hl2,←plE_len la,e,plE_len])
   exact(decide_eq_false this).symm
  have bD:((n:Int) != (m:Int))=true:=by simp[hne]
  go_enter Tryz.func23,Tryz.ntmps23
  go_wp2_with fail
  go_ret
  exact⟨ret_b HV2.out,Below.refl _ _⟩
abbrev Kq:=Kp × KpA
structure IsK13 (fl:Nat)(w:World)(a:Option Addr)(n:Nat)(l:List Kq):Prop where
 len:l.length=n
 cells:0<n→∃g off,a=some ⟨g,off,none⟩∧∀(k:Nat) (x:Kq),l[k]?=some x→∀j,j<5→w.cell? ⟨g,off+k * 5+j,none⟩=(kpc x.1 x.2)[j]?
 ok:∀x∈l,KpK fl w x.1 x.2
 max:∀x∈l,x.1.key.length≤4611686018427387903∧x.1.value.length≤4611686018427387903
def lightK (l:List Kq):Bool:=decide (∀x∈l,x.1.key.length+x.1.value.length≤1000)&&decide (l.length≤150)
theorem light_no {l:List Kq}{k:Nat}{x:Kq}(hx:l[k]?=some x)(h:1000<x.1.key.length+x.1.value.length):lightK l=false:=by
 unfold lightK
 rw[decide_eq_false (fun hh=>by have:=hh x (List.mem_of_getElem? hx);omega)]
 rfl
theorem light_yes {l:List Kq}(h:∀(k:Nat) (x:Kq),l[k]?=some x→x.1.key.length+x.1.value.length≤1000):lightK l=decide (l.length≤150):=by
 unfold lightK
 rw[decide_eq_true (fun x hx=>by obtain⟨k,hk⟩:=List.mem_iff_getElem?.1 hx;exact h k x hk)]
 rfl
variable {fl:Nat}
theorem lawLight13 (l:List Kq)(a:Option Addr)(n cap:Nat)(w:World)(h:IsK13 fl w a n l)(hn:n≤9223372036854775806):
  Calls Tryz.prog 7 #[.slice a n cap] w fun e w'=>e=.returned (.bool (lightK l))∧Below w.heap.size w w':=by
 have HL:=mkHid h.len
 have H:=mkHid h
 clear h
 go_enter Tryz.func7,Tryz.ntmps7
 go_wp2_with fail
 go_loopw [3] (fun i wr=>∃k q:Nat,wr=w.drewN q∧k≤n∧i=.int .i64 (k:Int)∧Hid (∀(j:Nat) (x:Kq),j<k→l[j]?=some x→x.1.key.length+x.1.value.length≤1000)) (fun i _=>n-(Go.RowKit.intOf i).toNat)
 case atStart=>exact⟨0,0,rfl,Nat.zero_le _,rfl,fun j x hj=>absurd hj (Nat.not_lt_zero _)⟩
 case round =>
  obtain⟨k,q,rfl,hk,rfl,HE⟩:=hrel
  by_cases hlt:k<n
  ·have hlt':(k:Int)<(n:Int):=by omega
   have hk0:(0:Int)≤(k:Int):=by omega
   obtain⟨g,off,rfl,hc⟩:=H.out.cells (by omega)
   obtain⟨x,hx⟩:∃x,l[k]?=some x:=⟨l[k]'(by rw[HL.out];exact hlt),List.getElem?_eq_getElem _⟩
   have C1:∀z,((w.drewN q).drewN z).cell? ⟨g,off+k * 5+1,none⟩=some (.slice x.2.a x.1.key.length x.2.c):=fun z=>hc k x hx 1 (by omega)
   have C4:∀z,((w.drewN q).drewN z).cell? ⟨g,off+k * 5+4,none⟩=some (.slice x.2.b x.1.value.length x.2.d):=fun z=>hc k x hx 4 (by omega)
   obtain⟨m1,m2⟩:=H.out.max x (List.mem_of_getElem? hx)
   have HBq:Hid (∀z,Below w.heap.size w ((w.drewN q).drewN z)):=fun z=>bel_drewN (bel_drewN (Below.refl _ _) q) z
   have HQq:Hid (∀z,∃y,(w.drewN q).drewN z=w.drewN y):=fun z=>⟨_,World.drewN_drewN ..⟩
   clear hc
   generalize w.drewN q=W at *
   by_cases hb:1000<x.1.key.length+x.1.value.length
   ·have HV:=mkHid (light_no hx hb)
    have hb':(1000:Int)<(x.1.key.length:Int)+(x.1.value.length:Int):=by omega
    clear hx HE
    generalize x.1.key.length=xk at *
    generalize x.1.value.length=xv at *
    go_wp2_with fail
    go_quiet (fail)
    go_wp2_with fail
    go_ret
    exact⟨ret_b HV.out.symm,HBq.out _⟩
   ·have hb':¬(1000:Int)<(x.1.key.length:Int)+(x.1.value.length:Int):=by omega
    have HE2:Hid (∀(j:Nat) (x:Kq),j<k+1→l[j]?=some x→x.1.key.length+x.1.value.length≤1000):=fun j y hj hy=>by
     by_cases e:j=k
     ·subst e;rw[hx] at hy;rw[←Option.some.inj hy];omega
     ·exact HE.out j y (by omega) hy
    clear hx HE
    generalize x.1.key.length=xk at *
    generalize x.1.value.length=xv at *
    go_wp2_with fail
    go_quiet (fail)
    go_wp2_with fail
    go_roundw
    case rel =>
     obtain⟨y2,hy2⟩:=HQq.out nq
     exact⟨k+1,y2,hy2,by omega,by go_num,HE2⟩
    case measure=>simp[Go.RowKit.intOf];omega
  ·have hlt':¬(k:Int)<(n:Int):=by omega
   have HV:Hid (decide ((n:Int)≤150)=lightK l):=by
    have:=light_yes (l:=l) (fun j x hx=>HE.out j x (by have:=(List.getElem?_eq_some_iff.1 hx).1;have:=HL.out;omega) hx)
    unfold Hid
    rw[this,HL.out]
    by_cases e:n≤150
    ·rw[decide_eq_true e,decide_eq_true (by omega)]
    ·rw[decide_eq_false e,decide_eq_false (by omega)]
   have HBq:Hid (∀z,Below w.heap.size w (w.drewN z)):=fun z=>bel_drewN (Below.refl _ _) z
   go_wp2_with fail
   go_ret
   exact⟨ret_b HV.out,HBq.out _⟩
end
section
open Go.RowKit
theorem bsp_marked {fl:Nat}(w:World)(l:List UInt8)(fr:Nat × Nat)(hm:l.length≤maxLen):BsP fl (w.alloc (.cells (bv l).toArray 5 fr)) (some ⟨w.heap.size,0,none⟩) l.length l.length l:=fun W hW =>
 ⟨rfl,Nat.le_refl _,hm,(fun e=>by cases e),fun _=>⟨w.heap.size,0,rfl,fun i hi=>by
  have h:=bv_at l i hi
  have hh:(w.alloc (.cells (bv l).toArray 5 fr)).heap[w.heap.size]?=some (.cells (bv l).toArray 5 fr):=by
   show (w.heap.push _)[w.heap.size]?=_
   simp
  have hh2:=hW.o.same _ _ _ _ hh (by decide)
  rw[Nat.zero_add]
  unfold World.cell?
  dsimp only
  rw[hh2]
  simpa using h⟩⟩
def LitPost (w:World)(S J P base m:Nat)(t:Tl)(j:Jl)(l:List Et)(r:Ending)(w':World):Prop:=(∃t' root' S',r=.returned (.tuple #[.int .i64 ((root':Nat):Int),.int .i64 0])∧SpAx w' S J P base t' j∧Tk t' j m S'∧TR t' j root' l S'∧t'.l.length≤t.l.length+7)∧KS base w w'
theorem putLit (w:World)(S J P base m:Nat)(t:Tl)(j:Jl)(root:Nat)(l:List Et)(SS:List Int)(k v:UInt8)(h:SpAx w S J P base t j)(hk:Tk t j m SS)(ht:TR t j root l SS)(hroom:t.l.length+8≤48)(hl:l.length≤190)(hdisk:SS.length+3<j.p.n-51):
  Calls Tryz.prog 13 #[.pointer (some ⟨S,0,none⟩),.int .i64 (root:Int),.slice (some ⟨w.heap.size,0,none⟩) 1 1,.slice (some ⟨w.heap.size+1,0,none⟩) 1 1] ((w.alloc (.cells #[.int .u8 (k.toNat:Int)] 5 (1,2))).alloc (.cells #[.int .u8 (v.toNat:Int)] 5)) (LitPost w S J P base m t j (putE13 l [k] [v])):=by
 have hlo:=spcOK.lo h
 have b1:BsP 0 (w.alloc (.cells #[.int .u8 (k.toNat:Int)] 5 (1,2))) (some ⟨w.heap.size,0,none⟩) 1 1 [k]:=bsp_marked w [k] (1,2) (by unfold maxLen;simp)
 have b2:BsP 0 ((w.alloc (.cells #[.int .u8 (k.toNat:Int)] 5 (1,2))).alloc (.cells #[.int .u8 (v.toNat:Int)] 5)) (some ⟨w.heap.size+1,0,none⟩) 1 1 [v]:=by
  have:=bsp_marked (fl:=0) (w.alloc (.cells #[.int .u8 (k.toNat:Int)] 5 (1,2))) [v] (0,0) (by unfold maxLen;simp)
  have e1:(w.alloc (.cells #[.int .u8 (k.toNat:Int)] 5 (1,2))).heap.size=w.heap.size+1:=by simp
  rw[e1] at this
  exact this
 have W1:Below w.heap.size w ((w.alloc (.cells #[.int .u8 (k.toNat:Int)] 5 (1,2))).alloc (.cells #[.int .u8 (v.toNat:Int)] 5)):=((Below.refl _ w).alloc (Nat.le_refl _) _).alloc (by simp) _
 have b1':=b1.keep (KeepU.of_below ((Below.refl _ (w.alloc (.cells #[.int .u8 (k.toNat:Int)] 5 (1,2)))).alloc (Nat.le_refl _) (.cells #[.int .u8 (v.toNat:Int)] 5)))
 have H:=codPut13 _ S J P base m t j root l SS ⟨[k],[v]⟩ ⟨some ⟨w.heap.size,0,none⟩,1,some ⟨w.heap.size+1,0,none⟩,1⟩ (SpAx.keep h (KeepT.of_below W1)) hk ht (EtQ.of b1' b2) rfl hroom hl hdisk
 refine H.mono ?_
 rintro r w' ⟨h1,h2⟩
 exact⟨h1,(KS.of_below W1 hlo).trans h2⟩
def tree3:List Et:=putE13 (putE13 (putE13 [] [98] [1]) [97] [2]) [99] [3]
theorem scan3:scanE13 tree3 [98] 9=[⟨[98],[1]⟩,⟨[99],[3]⟩]:=by decide
theorem lawAlive13 (w:World):
  Calls Tryz.prog 8 #[] w fun e w'=>e=.returned (.bool true)∧Below w.heap.size w w':=by
 have HF:=lawFreshN 64 (by omega) (by omega) w w.heap.size (Nat.le_refl _)
 rw[show ((64:Nat):Int)=64 from rfl] at HF
 have hcv:=fun (b:UInt8) (W:World)=>Lib.run_convert_bytes_const (P:=Tryz.prog) W 33 5 #[.int .u8 (b.toNat:Int)] 1 1 Tryz.underlying33 Tryz.underlying5
 have hcb:∀W:World,_:=hcv 98
 have hca:∀W:World,_:=hcv 97
 have hcc:∀W:World,_:=hcv 99
 change ∀W:World,(convert 33 33 (.slice (some ⟨W.heap.size,0,none⟩) 1 1)).run Tryz.prog (W.alloc (.cells #[.int .u8 98] 5))=.ok (.slice (some ⟨W.heap.size,0,none⟩) 1 1) (W.alloc (.cells #[.int .u8 98] 5 (1,2))) at hcb
 change ∀W:World,(convert 33 33 (.slice (some ⟨W.heap.size,0,none⟩) 1 1)).run Tryz.prog (W.alloc (.cells #[.int .u8 97] 5))=.ok (.slice (some ⟨W.heap.size,0,none⟩) 1 1) (W.alloc (.cells #[.int .u8 97] 5 (1,2))) at hca
 change ∀W:World,(convert 33 33 (.slice (some ⟨W.heap.size,0,none⟩) 1 1)).run Tryz.prog (W.alloc (.cells #[.int .u8 99] 5))=.ok (.slice (some ⟨W.heap.size,0,none⟩) 1 1) (W.alloc (.cells #[.int .u8 99] 5 (1,2))) at hcc
 clear hcv
 go_enter Tryz.func8,Tryz.ntmps8
 go_wp2_with fail
 refine HF.mono ?_
 rintro e x1 ⟨⟨J,S,P,rfl,hS1⟩,hk1⟩
 have H1:=putLit x1 S J P w.heap.size 50 t0 ⟨Pl.new 64,0,false⟩ 0 [] [] 98 1 hS1.out (tk_new 64 (by omega) (by omega)) (tr_new 64) (by show 0+8≤48;omega) (by show 0≤190;omega) (by show 0+3<64-51;omega)
 change Calls Tryz.prog 13 #[.pointer (some ⟨S,0,none⟩),.int .i64 0,.slice (some ⟨x1.heap.size,0,none⟩) 1 1,.slice (some ⟨x1.heap.size+1,0,none⟩) 1 1] ((x1.alloc (.cells #[.int .u8 98] 5 (1,2))).alloc (.cells #[.int .u8 1] 5)) _ at H1
 have HK1:=mkHid hk1.out
 clear HF hS1 hk1
 go_wp2_with fail
 refine H1.mono ?_
 rintro e x2 ⟨⟨t2,r2,S2,rfl,hA2,hT2,hR2,hl2⟩,hk2⟩
 change t2.l.length≤0+7 at hl2
 have hp2:=hR2.pages.2.2
 change S2.length≤1+1 at hp2
 have HK2:=mkHid (HK1.out.trans hk2)
 have H2:=putLit x2 S J P w.heap.size 50 t2 ⟨Pl.new 64,0,false⟩ r2 _ S2 97 2 hA2 hT2 hR2 (by omega) (by decide) (by show _<64-51;omega)
 change Calls Tryz.prog 13 #[.pointer (some ⟨S,0,none⟩),.int .i64 (r2:Int),.slice (some ⟨x2.heap.size,0,none⟩) 1 1,.slice (some ⟨x2.heap.size+1,0,none⟩) 1 1] ((x2.alloc (.cells #[.int .u8 97] 5 (1,2))).alloc (.cells #[.int .u8 2] 5)) _ at H2
 clear H1 hk2 HK1 hA2 hT2 hR2
 go_wp2_with fail
 refine H2.mono ?_
 rintro e x3 ⟨⟨t3,r3,S3,rfl,hA3,hT3,hR3,hl3⟩,hk3⟩
 have hp3:=hR3.pages.2.2
 change S3.length≤2+1 at hp3
 have HK3:=mkHid (HK2.out.trans hk3)
 have H3:=putLit x3 S J P w.heap.size 50 t3 ⟨Pl.new 64,0,false⟩ r3 _ S3 99 3 hA3 hT3 hR3 (by omega) (by decide) (by show _<64-51;omega)
 change Calls Tryz.prog 13 #[.pointer (some ⟨S,0,none⟩),.int .i64 (r3:Int),.slice (some ⟨x3.heap.size,0,none⟩) 1 1,.slice (some ⟨x3.heap.size+1,0,none⟩) 1 1] ((x3.alloc (.cells #[.int .u8 99] 5 (1,2))).alloc (.cells #[.int .u8 3] 5)) _ at H3
 clear H2 hk3 HK2 hA3 hT3 hR3
 go_wp2_with fail
 refine H3.mono ?_
 rintro e x4 ⟨⟨t4,r4,S4,rfl,hA4,hT4,hR4,hl4⟩,hk4⟩
 have HK4:=mkHid (HK3.out.trans hk4)
 have W5:Below x4.heap.size x4 (x4.alloc (.cells #[.int .u8 98] 5 (1,2))):=(Below.refl _ x4).alloc (Nat.le_refl _) _
 have o5:BsP 0 (x4.alloc (.cells #[.int .u8 98] 5 (1,2))) (some ⟨x4.heap.size,0,none⟩) 1 1 [98]:=bsp_marked x4 [98] (1,2) (by unfold maxLen;simp)
 have H4:=codScan13 _ S J P w.heap.size 50 t4 ⟨Pl.new 64,0,false⟩ r4 _ S4 (some ⟨x4.heap.size,0,none⟩) 1 1 [98] 9 (SpAx.keep hA4 (KeepT.of_below W5)) hT4 hR4 o5
 have HW5:=mkHid W5
 clear H3 hk4 HK3 hA4 hT4 hR4 W5 o5
 go_wp2_with fail
 refine H4.mono ?_
 rintro e x6 ⟨⟨v6,rfl,hsc⟩,hb6⟩
 have HB6:Hid (Below w.heap.size w x6):=HK4.out.b.trans ((HW5.out.trans (hb6.mono HW5.out.size)).mono HK4.out.b.size)
 obtain⟨L,hO,hLe,hLi⟩:=hsc
 change _=scanE13 tree3 [98] 9 at hLe
 rw[scan3] at hLe
 have hl2:L.length=2:=by have:=congrArg List.length hLe;simpa using this
 obtain⟨⟨e1,q1⟩,L,rfl⟩:=List.exists_cons_of_length_eq_add_one hl2
 obtain⟨⟨e2,q2⟩,L,rfl⟩:=List.exists_cons_of_length_eq_add_one (Nat.succ.inj hl2)
 obtain rfl:L=[]:=List.length_eq_zero_iff.1 (Nat.succ.inj (Nat.succ.inj hl2))
 simp only[List.map_cons,List.map_nil,List.cons.injEq,and_true] at hLe
 obtain⟨rfl,rfl⟩:=hLe
 obtain⟨va,vc,rfl,_⟩:=hO.form
 obtain⟨g,rfl,_,_,hc0⟩:=hO.at_ 0 (by simp)
 obtain⟨g',hg',_,_,hc1⟩:=hO.at_ 1 (by simp)
 obtain rfl:=(Addr.mk.inj (Option.some.inj hg')).1
 have C0:x6.cell? ⟨g,0,none⟩=some (.slice q1.a 1 q1.c):=hc0 0 (by omega)
 have C1:x6.cell? ⟨g,3,none⟩=some (.slice q2.b 1 q2.d):=hc1 1 (by omega)
 have i1:=(hLi _ (List.mem_cons_self)).is.k
 have i2:=(hLi (⟨[99],[3]⟩,q2) (List.mem_cons_of_mem _ List.mem_cons_self)).is.v
 have V1:=conv_isB x6 _ _ _ _ i1
 obtain⟨b2,o2,e2,hc2⟩:=i2.cells (Nat.lt_add_one 0)
 have D1:x6.cell? ⟨b2,o2,none⟩=some (.int .u8 3):=hc2 0 (Nat.lt_add_one 0)
 clear hO hLi hc0 hc1 i1 i2 hc2 hb6 H4
 simp only[List.length_cons,List.length_nil] at V1
 obtain⟨a2,c2,qb,d2⟩:=q2
 change qb=_ at e2
 subst e2
 change x6.cell? ⟨g,3,none⟩=some (.slice (some ⟨b2,o2,none⟩) 1 d2) at C1
 go_wp2_with fail
 go_ret
 exact⟨rfl,HB6.out⟩
def keyN (i:Nat):List UInt8:=[UInt8.ofNat (97+i/26),UInt8.ofNat (97+i%26),UInt8.ofNat i]
def kE (i:Nat):Et:=⟨keyN i,List.replicate 100 0⟩
theorem returns_laid {H:Type}{enc:TypeId × Value→H}{a:Assume}{C:Checked}{os:Os}{f:FuncId}{fn:Func}{s:ChangeSpec}{conds:List PathCond}{apart fresh handsOn again:Bool}{X:World→Array Value→Prop}
  (hX:∀(w w':World) (args:Array Value),w.heap=w'.heap→X w args→X w' args)
  (own:ownKnob C.prog.godebug=none) (started:os.Started) (noInit:C.prog.inits.idxOf? f=none) (hfn:C.prog.funcs[f]?=some fn)
  (witness:∃(w:World) (tape:Tape) (i:Input),w.os=os∧(w.forCall tape i).Shaped C.prog∧i.vars=[]∧Input.okWide C.prog (w.forCall tape i) .any w.heap.size f i ∧
   ((s.pre enc C.prog fn conds apart (w.forCall tape i).memory i.args∧X (w.forCall tape i).memory i.args)∧sizedMet enc C.prog fn (OpenSpec.ofChange s) apart (w.forCall tape i).memory i.args)∧a.holds C.prog (lone (Frame.enter C.prog f i.args .normal) [] (w.forCall tape i)))
  (contract:∀(W:World) (base:Nat) (args:Array Value) (ds gs:List (DataW H)) (before:List MemPlace),
   (∀(j:Nat) t v,fn.params[j]?=some t→args[j]?=some v→Value.okWide C.prog W .any base t v) →
   DataW.Whole enc C.prog fn.params.toList s.vars apart W args.toList ds gs before →
   conds.all (PathCond.test C.prog ⟨fn.params.toList,ds,s.plain.varTypes C.prog,gs⟩)=true →
   (DataW.weightsEach C.prog (fn.params.toList++s.plain.varTypes C.prog) (ds++gs)).all (·≤reachBytes)=true→X W args→W.ShapedOpen C.prog →
   a.holds C.prog (lone (Frame.enter C.prog f args .normal) [] W) →
   Calls C.prog f args W fun e W'=>∃v,e=.returned v∧s.post enc C.prog fn apart fresh handsOn again W args v W'):
  ReturnsInHanded a C os f .any (fun w args=>(s.pre enc C.prog fn conds apart w args∧X w args)∧sizedMet enc C.prog fn (OpenSpec.ofChange s) apart w args) (s.post enc C.prog fn apart fresh handsOn again):=by
 refine returnsInHanded_of_calls own started noInit witness ?_
 intro w tape i _ hsh _ hok hpre hholds
 obtain⟨_,_,_,fn',hfn',_,_,_,_,hval⟩:=hok
 have e:fn'=fn:=Option.some.inj (hfn'.symm.trans hfn)
 subst e
 obtain⟨⟨⟨ds,gs,before,hw,hc⟩,hx⟩,hz⟩:=hpre
 have hw':=DataW.Whole.of_heap (w':=w.forCall tape i) (by rfl) hw
 refine(contract (w.forCall tape i) w.heap.size i.args ds gs before hval hw' hc (hz.weights hw) (hX _ _ _ (by rfl) hx) hsh hholds).mono fun e W' ⟨v,he,hp⟩=>?_
 subst he
 exact ChangeSpec.post_blind hp
abbrev laidQ13:List (String × DataW Unit):=[("unicode/utf8.acceptRanges",Rows.laid_unicode_utf8_acceptRanges),("unicode/utf8.first",Rows.laid_unicode_utf8_first)]
end
end Go.Proofs.YtpecobmfabmpkaaGreatDoor
