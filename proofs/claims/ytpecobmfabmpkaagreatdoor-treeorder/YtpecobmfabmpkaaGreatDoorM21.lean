/- PvP PvT PvC DelA DelI PvD Tp5 PvE PvF0 ConE ConI PvB PvF PvA PvG PvH PvI PvJ Bl6 Tr3 Tr4 Tr5 Tr6 Tr7 TsA Bl7 Tr8 -/
import Derived.Test.YtpecobmfabmpkaaGreatDoorM20
import Derived.Lib.AppendZeros
set_option maxRecDepth 20000
set_option maxHeartbeats 4000000
namespace Go.Proofs.YtpecobmfabmpkaaGreatDoor
section
open Go.RowKit
variable {fl:Nat}
theorem ScanR.keep {l:List Et}{fr:List UInt8}{most:Int}{B:Nat}{v:Value}{w w':World}(h:ScanR l fr most B v w)(hk:KeepT [50,30] w w'):ScanR l fr most B v w':=by
 obtain⟨L,h1,h2,h3⟩:=h
 exact⟨L,own_keepO (us:=[64]) (KeepO.ofT hk (by decide)) h1 (by decide),h2,fun x hx=>(h3 x hx).keep (KeepO.ofT hk (by decide))⟩
theorem ScanR.base {l:List Et}{fr:List UInt8}{most:Int}{B C:Nat}{v:Value}{w:World}(h:ScanR l fr most B v w)(hc:C≤B):ScanR l fr most C v w:=by
 obtain⟨L,h1,h2,h3⟩:=h
 exact⟨L,own_base h1 hc,h2,h3⟩
theorem ScanR.form {l:List Et}{fr:List UInt8}{most:Int}{B:Nat}{v:Value}{w:World}(h:ScanR l fr most B v w):∃a n c,v=.slice a n c:=by
 obtain⟨L,h1,_⟩:=h
 obtain⟨a,c,e,_⟩:=h1.form
 exact⟨a,_,c,e⟩
theorem load_es13 (w:World)(g:Nat)(v:Value)(h:Blk w g 50 [v]):(loadVar 50 ⟨g,0,none⟩).run Tryz.prog w=.ok v w:=by
 have hc:w.cell? ⟨g,0,none⟩=some v:=h.cell 0
 simp[loadVar,go_sem,hc]
structure SvAt (W:World)(N S:Nat)(root:Int)(fv:Value)(most:Int)(v:Value):Prop where
 t:Blk W N 26 [.pointer (some ⟨S,0,none⟩)]
 r:Blk W (N+1) 3 [.int .i64 root]
 f:Blk W (N+2) 33 [fv]
 m:Blk W (N+3) 3 [.int .i64 most]
 l:Blk W (N+4) 50 [v]
theorem SvAt.on {W W':World}{N S:Nat}{root:Int}{fv:Value}{most:Int}{v:Value}(g:SvAt W N S root fv most v)(hb:Below W.heap.size W W'):SvAt W' N S root fv most v:=⟨g.t.on hb,g.r.on hb,g.f.on hb,g.m.on hb,g.l.on hb⟩
def ScnR (w0:World)(N S:Nat)(root:Int)(fv:Value)(most:Int)(l:List Et)(fr:List UInt8)(w':World):Prop:=∃v,SvAt w' N S root fv most v∧ScanR l fr most w0.heap.size v w'∧Blk w' (N+5) 30 [.int .i64 0]∧Below w0.heap.size w0 w'
theorem codScan1 (w w0:World)(S J P base m N:Nat)(t:Tl)(j:Jl)(root:Nat)(l:List Et)(SS:List Int)(fa:Option Addr)(fn fc:Nat)(fr:List UInt8)(most:Int)(h:SpAx w S J P base t j)(hk:Tk t j m SS)(ht:TR t j root l SS)(hfr:BsP fl w fa fn fc fr)(hfl:fl≤w.heap.size)(hB:Below w0.heap.size w0 w)(hN:w0.heap.size≤N)(hg:SvAt w N S (root:Int) (.slice fa fn fc) most (.slice none 0 0))(hE:Blk w (N+5) 30 [.int .i64 0]):
  Calls Tryz.prog 50 #[.pointer (some ⟨N,0,none⟩),.pointer (some ⟨N+1,0,none⟩),.pointer (some ⟨N+2,0,none⟩),.pointer (some ⟨N+3,0,none⟩),.pointer (some ⟨N+4,0,none⟩)] w fun r w'=>r=.returned (.tuple #[])∧ScnR w0 N S (root:Int) (.slice fa fn fc) most l fr w':=by
 have HG:=pgScan w S J P base m t j root l SS fa fn fc fr most h hk ht hfr hfl
 unfold gT ScnPost at HG
 have c0:w.cell? ⟨N,0,none⟩=some (.pointer (some ⟨S,0,none⟩)):=hg.t.cell 0
 have c1:w.cell? ⟨N+1,0,none⟩=some (.int .i64 (root:Int)):=hg.r.cell 0
 have c2:w.cell? ⟨N+2,0,none⟩=some (.slice fa fn fc):=hg.f.cell 0
 have c3:w.cell? ⟨N+3,0,none⟩=some (.int .i64 most):=hg.m.cell 0
 have HGv:=mkHid hg
 have HE:=mkHid hE
 have HB:=mkHid hB
 clear h hk ht hg hE hB hfr
 go_enter Tryz.func50,Tryz.ntmps50
 go_wp2_with fail
 refine HG.mono ?_
 rintro r y1 ⟨⟨v,rfl,hsc⟩,hb1⟩
 obtain⟨va,vn,vc,rfl⟩:=hsc.form
 have g1:=HGv.out.on hb1
 have e1:=HE.out.on hb1
 have a4:=g1.l.cell 0
 simp only[List.getElem?_cons_zero] at a4
 have f4:=g1.l.frozen 0
 have HG1:=mkHid g1
 have HE1:=mkHid e1
 have HB1:=mkHid hb1
 have HSc:=mkHid hsc
 clear HG hb1 g1 e1 hsc
 go_wp2_with fail
 go_end0
 have hkt:KeepT [50,30] y1 (y1.setCell ⟨N+4,0,none⟩ (.slice va vn vc)):=(KeepT.refl _ y1).set HG1.out.l (by decide) 0 _
 exact⟨rfl,.slice va vn vc,⟨HG1.out.t.other _ _ (by show N≠N+4;omega),HG1.out.r.other _ _ (by show N+1≠N+4;omega),HG1.out.f.other _ _ (by show N+2≠N+4;omega),HG1.out.m.other _ _ (by show N+3≠N+4;omega),HG1.out.l.set 0 _⟩,(HSc.out.keep hkt).base HB.out.size,HE1.out.other _ _ (by show N+5≠N+4;omega),(HB.out.trans (HB1.out.mono HB.out.size)).setCell (p:=⟨N+4,0,none⟩) (by show w0.heap.size≤N+4;omega) _⟩
theorem scan_begin (w:World)(S root:Nat)(fv:Value)(most:Int):∃Y0,Y0=((((w.alloc (.cells #[.pointer (some ⟨S,0,none⟩)] 26)).alloc (.cells #[.int .i64 (root:Int)] 3)).alloc (.cells #[fv] 33)).alloc (.cells #[.int .i64 most] 3)).alloc (.cells #[.slice none 0 0] 50)∧Below w.heap.size w Y0∧SvAt Y0 w.heap.size S (root:Int) fv most (.slice none 0 0)∧Y0.heap.size=w.heap.size+5:=by
 refine⟨_,rfl,(((((Below.refl _ w).alloc (Nat.le_refl _) _).alloc (by simp) _).alloc (by simp;omega) _).alloc (by simp;omega) _).alloc (by simp;omega) _,?_,by simp⟩
 exact⟨((((Blk.newAt w w.heap.size 26 _ [.pointer (some ⟨S,0,none⟩)] rfl rfl).alloc _).alloc _).alloc _).alloc _,(((Blk.newAt _ (w.heap.size+1) 3 _ [.int .i64 (root:Int)] (by simp) rfl).alloc _).alloc _).alloc _,((Blk.newAt _ (w.heap.size+2) 33 _ [fv] (by simp) rfl).alloc _).alloc _,(Blk.newAt _ (w.heap.size+3) 3 _ [.int .i64 most] (by simp) rfl).alloc _,Blk.newAt _ (w.heap.size+4) 50 _ [.slice none 0 0] (by simp) rfl⟩
theorem codScan13 (w:World)(S J P base m:Nat)(t:Tl)(j:Jl)(root:Nat)(l:List Et)(SS:List Int)(fa:Option Addr)(fn fc:Nat)(fr:List UInt8)(most:Int)(h:SpAx w S J P base t j)(hk:Tk t j m SS)(ht:TR t j root l SS)(hfr:BsP fl w fa fn fc fr)(hfl:fl≤w.heap.size:=by omega):
  Calls Tryz.prog 22 #[.pointer (some ⟨S,0,none⟩),.int .i64 (root:Int),.slice fa fn fc,.int .i64 most] w fun r w'=>(∃v,r=.returned (.tuple #[v,.int .i64 0])∧ScanR l fr most w.heap.size v w')∧Below w.heap.size w w':=by
 have hmf:=mkF0
 obtain⟨Y0,hY0,hB0,hG0,hs0⟩:=scan_begin w S root (.slice fa fn fc) most
 have hA:=(Below.refl _ Y0).alloc (Nat.le_refl _) (.cells #[.int .i64 0] 30)
 have hBA:=hB0.trans (hA.mono hB0.size)
 have hEA:Blk (Y0.alloc (.cells #[.int .i64 0] 30)) (w.heap.size+5) 30 [.int .i64 0]:=Blk.newAt Y0 (w.heap.size+5) 30 _ [.int .i64 0] hs0 rfl
 have HGd:=guardYes 50 #[.pointer (some ⟨w.heap.size,0,none⟩),.pointer (some ⟨w.heap.size+1,0,none⟩),.pointer (some ⟨w.heap.size+2,0,none⟩),.pointer (some ⟨w.heap.size+3,0,none⟩),.pointer (some ⟨w.heap.size+4,0,none⟩)] Y0
  (ScnR w w.heap.size S (root:Int) (.slice fa fn fc) most l fr)
  (fun W ⟨_,_,_,hE,_⟩=>by rw[hs0];exact hE) (fun args W=>by simp[callFunc,Tryz.func50];rfl)
  (codScan1 _ w S J P base m w.heap.size t j root l SS fa fn fc fr most (SpAx.keep h (KeepT.of_below hBA)) hk ht (hfr.keep (KeepU.of_below hBA)) (Nat.le_trans hfl hBA.size) hBA (Nat.le_refl _) (hG0.on hA) hEA)
 have c0:=hG0.t.cell 0
 have c4:=hG0.l.cell 0
 simp only[List.getElem?_cons_zero] at c0 c4
 have f4:=hG0.l.frozen 0
 have hY0':=hY0.symm
 clear h hk ht hfr hB0 hG0 hY0 hA hBA hEA
 go_enter Tryz.func22,Tryz.ntmps22
 go_wp2_with fail
 refine HGd.mono ?_
 rintro r y1 ⟨w1,⟨v,hg1,hsc1,hE1,hb1⟩,rfl,hy1⟩
 rw[hs0] at hy1
 obtain⟨va,vn,vc,rfl⟩:=hsc1.form
 have kN:Blk y1 (w.heap.size+4) 50 [.slice va vn vc]:=by rw[hy1];exact hg1.l.other _ _ (by show w.heap.size+4≠w.heap.size+5;omega)
 have hsc2:ScanR l fr most w.heap.size (.slice va vn vc) y1:=by rw[hy1];exact hsc1.keep ((KeepT.refl _ w1).set hE1 (by decide) 0 _)
 have hb2:Below w.heap.size w y1:=by rw[hy1];exact hb1.setCell (p:=⟨w.heap.size+5,0,none⟩) (by show w.heap.size≤w.heap.size+5;omega) _
 have HB2:=mkHid hb2
 have HKN:=mkHid kN
 have HSc:=mkHid hsc2
 have d4:=kN.cell 0
 have q4:=kN.frozen 0
 simp only[List.getElem?_cons_zero] at d4
 clear HGd hg1 hE1 hb1 hb2 kN hy1 c0 c4 f4 hsc1 hsc2
 go_wp2_with fail
 have kN2:=HKN.out.set 0 (.slice va vn vc)
 refine bodyPost_ret (results_ct13 (P:=Tryz.prog) rfl _ _ (w.heap.size+4) _ rfl (load_es13 _ _ _ kN2)) rfl ?_
 have hkt:KeepT [50,30] y1 (y1.setCell ⟨w.heap.size+4,0,none⟩ (.slice va vn vc)):=(KeepT.refl _ y1).set HKN.out (by decide) 0 _
 exact⟨⟨.slice va vn vc,rfl,HSc.out.keep hkt⟩,HB2.out.setCell (p:=⟨w.heap.size+4,0,none⟩) (by show w.heap.size≤w.heap.size+4;omega) _⟩
end
section
open Go.RowKit
variable {α:Type} {R:RT α}
end
section
open Go.RowKit
theorem refLess13 (x y:List UInt8)(a b:Option Addr)(n c m d:Nat)(w:World)(h1:IsB w a n c x)(h2:IsB w b m d y):
  Calls Tryz.prog 30 #[.slice a n c,.slice b m d] w fun e w'=>e=.returned (.bool (Op.bytesLess x y))∧w'=w:=by
 have v1:=conv_isB _ _ _ _ _ h1
 have v2:=conv_isB _ _ _ _ _ h2
 have HV:Hid (Op.bytesLess (⟨x.toArray⟩:ByteArray).toList (⟨y.toArray⟩:ByteArray).toList=Op.bytesLess x y):=by
  unfold Hid
  have e:∀z:List UInt8,(⟨z.toArray⟩:ByteArray).toList=z:=fun z=>by rw[ByteArray.toList_eq]
  rw[e,e]
 clear h1 h2
 generalize (⟨x.toArray⟩:ByteArray)=s1 at *
 generalize (⟨y.toArray⟩:ByteArray)=s2 at *
 go_enter Tryz.func30,Tryz.ntmps30
 go_wp2
 go_ret
 exact⟨ret_b HV.out,rfl⟩
theorem key_yes {k:List UInt8}(h1:1≤k.length)(h2:k.length≤100):keyOk k=true:=decide_eq_true ⟨h1,h2⟩
theorem key_no {k:List UInt8}(h:¬(1≤k.length∧k.length≤100)):keyOk k=false:=decide_eq_false h
theorem refKey13 (k:List UInt8)(a:Option Addr)(c:Nat)(w:World)(hc:k.length≤9223372036854775807):
  Calls Tryz.prog 17 #[.slice a k.length c] w fun e w'=>e=.returned (.bool (keyOk k))∧w'=w:=by
 by_cases h1:1≤k.length
 ·by_cases h2:k.length≤100
  ·have HV:=mkHid (key_yes h1 h2)
   have g1:(1:Int)≤(k.length:Int):=by omega
   have g2:(k.length:Int)≤100:=by omega
   generalize k.length=n at *
   go_enter Tryz.func17,Tryz.ntmps17
   go_wp2
   go_ret
   exact⟨ret_b HV.out.symm,rfl⟩
  ·have HV:=mkHid (key_no (fun h=>h2 h.2))
   have g1:(1:Int)≤(k.length:Int):=by omega
   have g2:¬(k.length:Int)≤100:=by omega
   generalize k.length=n at *
   go_enter Tryz.func17,Tryz.ntmps17
   go_wp2
   go_ret
   exact⟨ret_b HV.out.symm,rfl⟩
 ·have HV:=mkHid (key_no (fun h=>h1 h.1))
  have g1:¬(1:Int)≤(k.length:Int):=by omega
  generalize k.length=n at *
  go_enter Tryz.func17,Tryz.ntmps17
  go_wp2
  go_ret
  exact⟨ret_b HV.out.symm,rfl⟩
theorem item_yes {k v:List UInt8}(h1:keyOk k=true)(h2:k.length+v.length≤240):itemOk k v=true:=by unfold itemOk;rw[h1,decide_eq_true h2];rfl
theorem item_no1 {k v:List UInt8}(h1:keyOk k=false):itemOk k v=false:=by unfold itemOk;rw[h1];rfl
theorem item_no2 {k v:List UInt8}(h2:¬k.length+v.length≤240):itemOk k v=false:=by unfold itemOk;rw[decide_eq_false h2];simp
theorem refItem13 (k v:List UInt8)(a b:Option Addr)(c d:Nat)(w:World)(hk:k.length≤4611686018427387904)(hv:v.length≤4611686018427387903):
  Calls Tryz.prog 14 #[.slice a k.length c,.slice b v.length d] w fun e w'=>e=.returned (.bool (itemOk k v))∧w'=w:=by
 have HK:=fun W=>refKey13 k a c W (by omega)
 cases hkey:keyOk k with
 | false =>
  have HV:=mkHid (item_no1 (v:=v) hkey)
  rw[hkey] at HK
  generalize k.length=n at *
  generalize v.length=m at *
  go_enter Tryz.func14,Tryz.ntmps14
  go_wp2_with (first|(go_at_call 17;refine(HK _).mono ?_;rintro e w1 ⟨rfl,rfl⟩))
  go_ret
  exact⟨ret_b HV.out.symm,rfl⟩
 | true =>
  rw[hkey] at HK
  by_cases h2:k.length+v.length≤240
  ·have HV:=mkHid (item_yes hkey h2)
   have g2:(k.length:Int)+(v.length:Int)≤240:=by omega
   generalize k.length=n at *
   generalize v.length=m at *
   go_enter Tryz.func14,Tryz.ntmps14
   go_wp2_with (first|(go_at_call 17;refine(HK _).mono ?_;rintro e w1 ⟨rfl,rfl⟩))
   go_ret
   exact⟨ret_b HV.out.symm,rfl⟩
  ·have HV:=mkHid (item_no2 h2)
   have g2:¬(k.length:Int)+(v.length:Int)≤240:=by omega
   generalize k.length=n at *
   generalize v.length=m at *
   go_enter Tryz.func14,Tryz.ntmps14
   go_wp2_with (first|(go_at_call 17;refine(HK _).mono ?_;rintro e w1 ⟨rfl,rfl⟩))
   go_ret
   exact⟨ret_b ((decide_eq_false (by omega)).trans HV.out.symm),rfl⟩
structure Kp where
 kind:Int
 key:List UInt8
 n:Int
 m:Int
 value:List UInt8
structure KpA where
 a:Option Addr
 c:Nat
 b:Option Addr
 d:Nat
def kpc (p:Kp)(q:KpA):List Value:=[.int .i64 p.kind,.slice q.a p.key.length q.c,.int .i64 p.n,.int .i64 p.m,.slice q.b p.value.length q.d]
structure KpK (fl:Nat)(w:World)(p:Kp)(q:KpA):Prop where
 k:∀W,KeepU fl [5] w W→IsB W q.a p.key.length q.c p.key
 v:∀W,KeepU fl [5] w W→IsB W q.b p.value.length q.d p.value
def nK (n:Int)(k:Int):Nat:=(n.tmod k).natAbs
def mkKey (r:Nat):List UInt8:=[107,UInt8.ofNat (48+r/10),UInt8.ofNat (48+r%10)]++List.replicate (r%7 * 10) 120
def keyP (p:Kp):List UInt8:=if p.key=[] then mkKey (nK p.n 50) else p.key
theorem own_lit (w:World)(base:Nat)(l:List UInt8)(hb:base≤w.heap.size)(hm:l.length≤maxLen):OwnB (w.alloc (.cells (bv l).toArray 5)) base (.slice (some ⟨w.heap.size,0,none⟩) l.length l.length) l :=
 ⟨by rw[bv_length,Nat.mul_one],.inr ⟨w.heap.size,l.length,(bv l).toArray,rfl,hb,heap_alloc_new w _,Nat.le_refl _,hm,by simp[bv_length],by rw[Nat.mul_one,←bv_length l];simp⟩⟩
theorem nK_lt (n:Int)(k:Nat)(hk:0<k):nK n (k:Int)<k:=by
 unfold nK
 rw[Int.natAbs_tmod]
 exact Nat.mod_lt _ hk
def KeyPost (fl:Nat)(k:List UInt8)(e:Ending)(w':World):Prop:=∃a c,e=.returned (.slice a k.length c)∧∀W,KeepU fl [5] w' W→IsB W a k.length c k
variable {fl:Nat}
theorem lawKey13 (p:Kp)(q:KpA)(w:World)(h:KpK fl w p q)(h0 : -9223372036854775808≤p.n)(h1:p.n≤9223372036854775807)(hl:p.key.length≤9223372036854775807):
  Calls Tryz.prog 11 #[.agg (kpc p q).toArray] w fun e w'=>KeyPost fl (keyP p) e w'∧Below w.heap.size w w':=by
 have hY:Below w.heap.size w (w.alloc (.cells (kpc p q).toArray 35)):=(Below.refl _ w).alloc (Nat.le_refl _) _
 have kb:=Blk.new w 35 (kpc p q)
 have HK:=mkHid h
 clear h
 obtain⟨kind,key,n,m,value⟩:=p
 obtain⟨qa,qc,qb,qd⟩:=q
 simp only[kpc] at *
 have HY:=mkHid hY
 have c1:(w.alloc (.cells #[.int .i64 kind,.slice qa key.length qc,.int .i64 n,.int .i64 m,.slice qb value.length qd] 35)).cell? ⟨w.heap.size,1,none⟩=some (.slice qa key.length qc):=kb.cell 1
 have c2:(w.alloc (.cells #[.int .i64 kind,.slice qa key.length qc,.int .i64 n,.int .i64 m,.slice qb value.length qd] 35)).cell? ⟨w.heap.size,2,none⟩=some (.int .i64 n):=kb.cell 2
 clear hY kb
 by_cases hk:key=[]
 ·subst hk
  have HV:Hid (keyP ⟨kind,[],n,m,value⟩=mkKey (nK n 50)):=rfl
  have hr:=nK_lt n 50 (by omega)
  have e1:n.tmod 50=(nK n 50:Int)∨n.tmod 50 = -(nK n 50:Int):=by unfold nK;omega
  change nK n 50<50 at hr
  generalize nK n 50=r at *
  simp only[List.length_nil] at c1 HK HY c2 ⊢
  have q1:(r:Int).tdiv 10=((r/10:Nat):Int):=by rw[Int.tdiv_eq_ediv_of_nonneg (by omega)];omega
  have q2:(r:Int).tmod 10=((r%10:Nat):Int):=by rw[Int.tmod_eq_emod_of_nonneg (by omega)];omega
  have q3:(r:Int).tmod 7=((r%7:Nat):Int):=by rw[Int.tmod_eq_emod_of_nonneg (by omega)];omega
  have v1:(48:Int)+((r/10:Nat):Int)=((UInt8.ofNat (48+r/10)).toNat:Int):=by rw[UInt8.toNat_ofNat'];omega
  have v2:(48:Int)+((r%10:Nat):Int)=((UInt8.ofNat (48+r%10)).toNat:Int):=by rw[UInt8.toNat_ofNat'];omega
  have HM:Hid (mkKey r=[107,UInt8.ofNat (48+r/10),UInt8.ofNat (48+r%10)]++List.replicate (r%7 * 10) 120):=rfl
  have b1:r/10<5:=by omega
  have b2:r%10<10:=by omega
  have b3:r%7<7:=by omega
  generalize UInt8.ofNat (48+r/10)=d1 at *
  generalize UInt8.ofNat (48+r%10)=d2 at *
  generalize r/10=r1 at *
  generalize r%10=r2 at *
  generalize r%7=r3 at *
  generalize hX:(w.alloc (Obj.cells #[Value.int IntKind.i64 kind,Value.slice qa 0 qc,Value.int IntKind.i64 n,Value.int IntKind.i64 m,Value.slice qb value.length qd] 35))=X at *
  have HO1:=mkHid (own_lit X X.heap.size [107,d1,d2] (Nat.le_refl _) (by unfold maxLen;simp))
  have HB1:Hid (Below X.heap.size X (X.alloc (.cells (bv [107,d1,d2]).toArray 5))):=(Below.refl _ X).alloc (Nat.le_refl _) _
  change Hid (OwnB (X.alloc (.cells #[.int .u8 107,.int .u8 (d1.toNat:Int),.int .u8 (d2.toNat:Int)] 5)) X.heap.size (.slice (some ⟨X.heap.size,0,none⟩) 3 3) [107,d1,d2]) at HO1
  change Hid (Below X.heap.size X (X.alloc (.cells #[.int .u8 107,.int .u8 (d1.toNat:Int),.int .u8 (d2.toNat:Int)] 5))) at HB1
  rw[←v1,←v2] at HO1 HB1
  clear v1 v2
  have e1:n.tmod 50=(r:Int)∨(n.tmod 50 = -(r:Int)∧0<r):=by omega
  rcases e1 with e1|⟨e1,hr0⟩
  ·have hn0:¬(r:Int)<0:=by omega
   go_enter Tryz.func11,Tryz.ntmps11
   go_wp2_with fail
   go_loopw [4,5] (fun b i wr=>∃(k:Nat),k≤r3 * 10∧i=.int .i64 (k:Int)∧Hid (OwnB wr X.heap.size b ([107,d1,d2]++List.replicate k 120))∧Hid (Below X.heap.size X wr)) (fun _ i _=>r3 * 10-(Go.RowKit.intOf i).toNat)
   case atStart=>exact⟨0,Nat.zero_le _,rfl,HO1,HB1⟩
   case round =>
    obtain⟨k,hk,rfl,HO,HB⟩:=hrel
    by_cases hlt:k<r3 * 10
    ·have hlt':(k:Int)<(r3:Int) * 10:=by omega
     have HD:Hid (Below wr.heap.size wr (wr.alloc (.cells #[.int .u8 120] 5))):=(Below.refl _ wr).alloc (Nat.le_refl _) _
     have HO2:=mkHid (HO.out.alloc (.cells #[.int .u8 120] 5))
     have HS:Hid (X.heap.size≤(wr.alloc (.cells #[.int .u8 120] 5)).heap.size):=Nat.le_trans HB.out.size HD.out.size
     have HL:Hid (([107,d1,d2]++List.replicate k (120:UInt8)).length+1≤140737488355328):=by unfold Hid;simp;omega
     go_wp2_with (at_builtin;refine list_app1 _ rfl (.tmp 35) (.tmp 36) rfl X.heap.size _ _ rfl HO2.out wr.heap.size 1 [120] rfl rfl (heap_alloc_new wr _) HL.out HS.out ?_;intro v5 V5 ho5 hg5;have HD5:Hid (Below X.heap.size X V5):=(HB.out.trans (HD.out.mono HB.out.size)).grown hg5 HS.out (fun j hj=>(World.ownsRow.lt HO2.out j hj).1);have HO5:=mkHid ho5;clear ho5 hg5)
     go_roundw
     case rel=>exact⟨k+1,by omega,by go_num,by rw[List.replicate_succ',←List.append_assoc];exact HO5.out,HD5⟩
     case measure=>simp[Go.RowKit.intOf];omega
    ·have hlt':¬(k:Int)<(r3:Int) * 10:=by omega
     obtain rfl:k=r3 * 10:=by omega
     go_wp2_with fail
     go_ret
     rw[HV.out,HM.out]
     obtain⟨a5,c5,e5,_⟩:=HO.out.isB
     exact⟨⟨a5,c5,by rw[←e5];rfl,fun W hW=>own_isB (own_keepO hW.o (by rw[←e5];exact HO.out) (by decide))⟩,HY.out.trans (HB.out.mono HY.out.size)⟩
  ·have hn0:(-(r:Int))<0:=by omega
   have hn1 : -(-(r:Int))=(r:Int):=by omega
   go_enter Tryz.func11,Tryz.ntmps11
   go_wp2_with fail
   go_loopw [4,5] (fun b i wr=>∃(k:Nat),k≤r3 * 10∧i=.int .i64 (k:Int)∧Hid (OwnB wr X.heap.size b ([107,d1,d2]++List.replicate k 120))∧Hid (Below X.heap.size X wr)) (fun _ i _=>r3 * 10-(Go.RowKit.intOf i).toNat)
   case atStart=>exact⟨0,Nat.zero_le _,rfl,HO1,HB1⟩
   case round =>
    obtain⟨k,hk,rfl,HO,HB⟩:=hrel
    by_cases hlt:k<r3 * 10
    ·have hlt':(k:Int)<(r3:Int) * 10:=by omega
     have HD:Hid (Below wr.heap.size wr (wr.alloc (.cells #[.int .u8 120] 5))):=(Below.refl _ wr).alloc (Nat.le_refl _) _
     have HO2:=mkHid (HO.out.alloc (.cells #[.int .u8 120] 5))
     have HS:Hid (X.heap.size≤(wr.alloc (.cells #[.int .u8 120] 5)).heap.size):=Nat.le_trans HB.out.size HD.out.size
     have HL:Hid (([107,d1,d2]++List.replicate k (120:UInt8)).length+1≤140737488355328):=by unfold Hid;simp;omega
     go_wp2_with (at_builtin;refine list_app1 _ rfl (.tmp 35) (.tmp 36) rfl X.heap.size _ _ rfl HO2.out wr.heap.size 1 [120] rfl rfl (heap_alloc_new wr _) HL.out HS.out ?_;intro v5 V5 ho5 hg5;have HD5:Hid (Below X.heap.size X V5):=(HB.out.trans (HD.out.mono HB.out.size)).grown hg5 HS.out (fun j hj=>(World.ownsRow.lt HO2.out j hj).1);have HO5:=mkHid ho5;clear ho5 hg5)
     go_roundw
     case rel=>exact⟨k+1,by omega,by go_num,by rw[List.replicate_succ',←List.append_assoc];exact HO5.out,HD5⟩
     case measure=>simp[Go.RowKit.intOf];omega
    ·have hlt':¬(k:Int)<(r3:Int) * 10:=by omega
     obtain rfl:k=r3 * 10:=by omega
     go_wp2_with fail
     go_ret
     rw[HV.out,HM.out]
     obtain⟨a5,c5,e5,_⟩:=HO.out.isB
     exact⟨⟨a5,c5,by rw[←e5];rfl,fun W hW=>own_isB (own_keepO hW.o (by rw[←e5];exact HO.out) (by decide))⟩,HY.out.trans (HB.out.mono HY.out.size)⟩
 ·have HV:Hid (keyP ⟨kind,key,n,m,value⟩=key):=by unfold Hid keyP;rw[if_neg hk]
  have hp:(0:Int)<(key.length:Int):=by have:=List.length_pos_iff.2 hk;omega
  go_enter Tryz.func11,Tryz.ntmps11
  go_wp2_with fail
  go_ret
  rw[HV.out]
  exact⟨⟨_,_,rfl,fun W hW=>HK.out.k W ((KeepU.of_below HY.out).trans hW)⟩,HY.out⟩
end
section
open Go.RowKit
abbrev t0:Tl:=⟨[],false⟩
structure TJ (w:World)(J P base m n:Nat)(j:Jl)(root:Nat)(l:List Et)(SS:List Int):Prop where
 ja:JAt w J P base j
 tk:Tk t0 j m SS
 tr:TR t0 j root l SS
 n:j.p.n=n
theorem ja_lo {w:World}{J P base:Nat}{j:Jl}(h:JAt w J P base j):base≤w.heap.size:=Nat.le_trans h.low (Nat.le_of_lt h.blk.lt)
theorem TJ.keep {w w':World}{J P base m n:Nat}{j:Jl}{root:Nat}{l:List Et}{SS:List Int}(h:TJ w J P base m n j root l SS)(hk:KeepT CT w w'):TJ w' J P base m n j root l SS:=⟨h.ja.keep hk,h.tk,h.tr,h.n⟩
theorem TJ.on {w w':World}{J P base m n:Nat}{j:Jl}{root:Nat}{l:List Et}{SS:List Int}(h:TJ w J P base m n j root l SS)(hb:Below w.heap.size w w'):TJ w' J P base m n j root l SS:=h.keep (KeepT.of_below hb)
theorem TJ.pages {w:World}{J P base m n:Nat}{j:Jl}{root:Nat}{l:List Et}{SS:List Int}(h:TJ w J P base m n j root l SS):(SS.length=0↔l.length=0)∧SS.length≤2 * l.length-1∧SS.length≤l.length+1:=h.tr.pages
theorem lawFreshN (n:Nat)(h0:64≤n)(h1:n≤4096)(w:World)(base:Nat)(hbase:base≤w.heap.size):
  Calls Tryz.prog 9 #[.int .i64 (n:Int)] w fun e w'=>(∃J S P,e=.returned (.tuple #[.pointer (some ⟨J,0,none⟩),.pointer (some ⟨S,0,none⟩)])∧Hid (SpAx w' S J P base t0 ⟨Pl.new n,0,false⟩))∧Hid (KS base w w'):=by
 have HN:Calls Tryz.prog 34 #[.int .i64 (n:Int)] w fun e w'=>(∃P,e=.returned (.tuple #[.pointer (some ⟨P,0,none⟩),.int .i64 0])∧IsD0 w' P base (Pl.new n))∧Below w.heap.size w w':=by
  refine(codNew (fun _=>False) (n:Int) w base hbase (fun _ h=>h.elim)).mono ?_
  rintro e w' ⟨h1,h2⟩
  simp only[if_pos (show (64:Int)≤(n:Int)∧(n:Int)≤4096 by omega)] at h1
  rw[show (n:Int).toNat=n by omega] at h1
  exact⟨h1,h2⟩
 have HBs:=mkHid hbase
 have hmn:=mountN n h0 h1
 have hfw:=few_mnew n h0 h1
 have hft:=newFit n h0 h1
 go_enter Tryz.func9,Tryz.ntmps9
 go_wp2_with fail
 refine HN.mono ?_
 rintro e x1 ⟨⟨P,rfl,hI1⟩,hb1⟩
 have HK1:=mkHid (KS.of_below hb1 HBs.out)
 have HM:=jMount jrnOK hI1 hfw (by omega) hmn.1
 rw[hmn.2.1,hmn.2.2] at HM
 clear HN hI1 hb1
 go_wp2_with fail
 refine HM.mono ?_
 rintro e x2 ⟨⟨J,rfl,hJ2⟩,hk2⟩
 have HK2:=mkHid (HK1.out.trans (KS.ofP hk2))
 have HO:=spcOK.open_ x2 J P base 50 ⟨Pl.new n,0,false⟩ hJ2 hft
 clear HM hJ2 hk2
 go_wp2_with fail
 refine HO.mono ?_
 rintro e x3 ⟨⟨S,rfl,hS3⟩,hk3⟩
 have HK3:=mkHid (HK2.out.trans hk3)
 clear HO hk3
 go_wp2_with fail
 go_ret2
 exact⟨⟨J,S,P,rfl,hS3⟩,HK3⟩
theorem tr_new (n:Nat):TR t0 ⟨Pl.new n,0,false⟩ 0 [] []:=⟨List.Pairwise.nil,.inl ⟨rfl,rfl,rfl⟩⟩
theorem tj_new {w:World}{S J P base n:Nat}(h0:64≤n)(h1:n≤4096)(h:SpAx w S J P base t0 ⟨Pl.new n,0,false⟩):TJ w J P base 50 n ⟨Pl.new n,0,false⟩ 0 [] []:=⟨spcOK.toJ h,tk_new n h0 h1,tr_new n,rfl⟩
theorem treeOpen {w:World}{J P base m n:Nat}{j:Jl}{root:Nat}{l:List Et}{SS:List Int}(h:TJ w J P base m n j root l SS):
  Calls Tryz.prog 10 #[.pointer (some ⟨J,0,none⟩)] w fun e w'=>(∃S,e=.returned (.tuple #[.pointer (some ⟨S,0,none⟩),.int .i64 0])∧SpAx w' S J P base t0 j)∧KS base w w':=spcOK.open_ w J P base m j h.ja h.tk.fit
theorem treeCommit {w:World}{S J P base m n:Nat}{t:Tl}{j:Jl}{root:Nat}{l:List Et}{SS:List Int}(h:SpAx w S J P base t j)(hk:Tk t j m SS)(ht:TR t j root l SS)(hn:j.p.n=n)(hm:m+150≤80000):
  Calls Tryz.prog 26 #[.pointer (some ⟨S,0,none⟩)] w fun e w'=>e=.returned (.int .i64 0)∧TJ w' J P base (m+150) n (cmJ t j) root l SS∧KS base w w':=by
 obtain⟨e1,e2,e3⟩:=hk.commit hm
 have H:=spcOK.commit w S J P base m t j h hk.fit
 rw[e1] at H
 refine H.mono ?_
 rintro e w' ⟨he,hj,hks⟩
 refine⟨he,⟨hj,e2,ht.same fun k hkS=>?_,e3.trans hn⟩,hks⟩
 have hr:=hk.rng _ hkS
 exact cm_spRd hk.fit hk.sort k (by omega) (by omega)
theorem IsB.bsp {fl:Nat}{w:World}{a:Option Addr}{n c:Nat}{l:List UInt8}(h:∀W,KeepU fl [5] w W→IsB W a n c l):BsP fl w a n c l:=fun W hW=>h W (hW.less (by decide))
theorem EtQ.of {fl:Nat}{w:World}{k v:List UInt8}{ka va:Option Addr}{kc vc:Nat}(h1:BsP fl w ka k.length kc k)(h2:BsP fl w va v.length vc v):EtQ fl w ⟨k,v⟩ ⟨ka,kc,va,vc⟩:=fun W hW=>⟨h1 W hW,h2 W hW⟩
variable {fl:Nat}
def vByte (m:Int)(i:Nat):UInt8:=UInt8.ofNat ((m+(i:Int))%256).toNat
def vTo (r k:Nat)(m:Int):List UInt8:=(List.range r).map fun i=>if i<k then vByte m i else 0
def mkVal (m:Int)(r:Nat):List UInt8:=(List.range r).map fun i=>vByte m i
def valP (p:Kp):List UInt8:=if p.value=[] then mkVal p.m (nK p.m 170) else p.value
theorem vTo_len (r k:Nat)(m:Int):(vTo r k m).length=r:=by unfold vTo;simp
theorem vTo_zero (r:Nat)(m:Int):vTo r 0 m=List.replicate r 0:=by
 unfold vTo
 apply List.ext_getElem
 ·simp
 ·intro i h1 h2;simp
theorem vTo_all (r:Nat)(m:Int):vTo r r m=mkVal m r:=by
 unfold vTo mkVal
 apply List.map_congr_left
 intro i hi
 rw[if_pos (List.mem_range.1 hi)]
theorem vTo_set (r k:Nat)(m:Int):(vTo r k m).set k (vByte m k)=vTo r (k+1) m:=by
 unfold vTo
 apply List.ext_getElem
 ·simp
 ·intro i h1 h2
  simp only[List.getElem_set,List.getElem_map,List.getElem_range]
  by_cases e:k=i
  ·subst e;rw[if_pos rfl,if_pos (by omega)]
  ·rw[if_neg e]
   by_cases h:i<k
   ·rw[if_pos h,if_pos (by omega)]
   ·rw[if_neg h,if_neg (by omega)]
theorem wrap_mod (x:Int):wrap64 x%256=x%256:=by unfold wrap64;omega
theorem vByte_nat (m:Int)(i:Nat):((vByte m i).toNat:Int)=(m+(i:Int))%256:=by
 unfold vByte
 rw[UInt8.toNat_ofNat']
 have:0≤(m+(i:Int))%256:=Int.emod_nonneg _ (by omega)
 have:(m+(i:Int))%256<256:=Int.emod_lt_of_pos _ (by omega)
 omega
theorem lawValue13 (p:Kp)(q:KpA)(w:World)(h:KpK fl w p q)(h0 : -9223372036854775808≤p.m)(h1:p.m≤9223372036854775807)(hl:p.value.length≤9223372036854775807):
  Calls Tryz.prog 12 #[.agg (kpc p q).toArray] w fun e w'=>KeyPost fl (valP p) e w'∧Below w.heap.size w w':=by
 have hY:Below w.heap.size w (w.alloc (.cells (kpc p q).toArray 35)):=(Below.refl _ w).alloc (Nat.le_refl _) _
 have kb:=Blk.new w 35 (kpc p q)
 have HK:=mkHid h
 clear h
 obtain⟨kind,key,n,m,value⟩:=p
 obtain⟨qa,qc,qb,qd⟩:=q
 simp only[kpc] at *
 have HY:=mkHid hY
 have c4:(w.alloc (.cells #[.int .i64 kind,.slice qa key.length qc,.int .i64 n,.int .i64 m,.slice qb value.length qd] 35)).cell? ⟨w.heap.size,4,none⟩=some (.slice qb value.length qd):=kb.cell 4
 have c3:(w.alloc (.cells #[.int .i64 kind,.slice qa key.length qc,.int .i64 n,.int .i64 m,.slice qb value.length qd] 35)).cell? ⟨w.heap.size,3,none⟩=some (.int .i64 m):=kb.cell 3
 have HKb:=mkHid kb
 clear hY kb
 by_cases hk:value=[]
 ·subst hk
  have HV:Hid (valP ⟨kind,key,n,m,[]⟩=mkVal m (nK m 170)):=rfl
  have hr:=nK_lt m 170 (by omega)
  have e1:m.tmod 170=(nK m 170:Int)∨(m.tmod 170 = -(nK m 170:Int)∧0<nK m 170):=by unfold nK;omega
  change nK m 170<170 at hr
  generalize nK m 170=r at *
  simp only[List.length_nil] at c4 c3 HK HY HKb ⊢
  have HL0:Hid (w.heap.size<(w.alloc (Obj.cells #[Value.int IntKind.i64 kind,Value.slice qa key.length qc,Value.int IntKind.i64 n,Value.int IntKind.i64 m,Value.slice qb 0 qd] 35)).heap.size):=by unfold Hid;simp
  generalize hX:(w.alloc (Obj.cells #[Value.int IntKind.i64 kind,Value.slice qa key.length qc,Value.int IntKind.i64 n,Value.int IntKind.i64 m,Value.slice qb 0 qd] 35))=X at *
  have HC:=mkHid c3
  rcases e1 with e1|⟨e1,hr0⟩
  ·have hn0:¬(r:Int)<0:=by omega
   go_enter Tryz.func12,Tryz.ntmps12
   go_wp2_with (at_make;refine make_full8 X rfl _ _ rfl X.heap.size .i64 .i64 _ _ r rfl rfl rfl rfl (by omega) (Nat.le_refl _) ?_;intro w1 ho1 hg1;have HB1:Hid (Below X.heap.size X w1):=(Below.refl _ X).grown hg1 (Nat.le_refl _) (fun k e=>by cases e);have HO1:=mkHid ho1;clear ho1 hg1)
   generalize hH:X.heap.size=H at *
   have HH:=mkHid hH
   clear hH
   rw[←vTo_zero r m] at HO1
   go_loopw [5] (fun i wr=>∃k:Nat,k≤r∧i=.int .i64 (k:Int)∧Hid (OwnB wr H (.slice (some ⟨H,0,none⟩) r r) (vTo r k m))∧Hid (Below H X wr)) (fun i _=>r-(Go.RowKit.intOf i).toNat)
   case atStart=>exact⟨0,Nat.zero_le _,rfl,HO1,HB1⟩
   case round =>
    obtain⟨k,hk,rfl,HO,HB⟩:=hrel
    by_cases hlt:k<r
    ·have hlt':(k:Int)<(r:Int):=by omega
     have c0:=HO.out.cellAt (vTo_len r k m) k hlt
     have f0:=HO.out.frozenAt (vTo_len r k m) k
     have HO2:=mkHid (HO.out.set (vTo_len r k m) k (vByte m k))
     rw[vTo_set r k m] at HO2
     have HB2:Hid (Below H X (wr.setCell ⟨H,k,none⟩ (.int .u8 ((vByte m k).toNat:Int)))):=HB.out.setCell (p:=⟨H,k,none⟩) (Nat.le_refl _) _
     have c5:wr.cell? ⟨w.heap.size,3,none⟩=some (.int .i64 m):=(HB.out.cell (p:=⟨w.heap.size,3,none⟩) (HL0.out)).trans HC.out
     rw[vByte_nat,←wrap_mod] at HO2 HB2
     clear HO
     go_wp2_with fail
     go_roundw
     case rel=>exact⟨k+1,by omega,by go_num,HO2,HB2⟩
     case measure=>simp[Go.RowKit.intOf];omega
    ·have hlt':¬(k:Int)<(r:Int):=by omega
     obtain rfl:k=r:=by omega
     rw[vTo_all] at HO
     go_wp2_with fail
     go_ret
     rw[HV.out]
     have hlen:(mkVal m k).length=k:=by unfold mkVal;simp
     have hO:OwnB wr H (.slice (some ⟨H,0,none⟩) (mkVal m k).length k) (mkVal m k):=by rw[hlen];exact HO.out
     exact⟨⟨some ⟨H,0,none⟩,k,by rw[hlen];rfl,fun W hW=>own_isB (own_keepO hW.o hO (by decide))⟩,HY.out.trans (HB.out.mono (by rw[←HH.out];exact HY.out.size))⟩
  ·have hn0:(-(r:Int))<0:=by omega
   have hn1 : -(-(r:Int))=(r:Int):=by omega
   go_enter Tryz.func12,Tryz.ntmps12
   go_wp2_with (at_make;refine make_full8 X rfl _ _ rfl X.heap.size .i64 .i64 _ _ r rfl rfl rfl rfl (by omega) (Nat.le_refl _) ?_;intro w1 ho1 hg1;have HB1:Hid (Below X.heap.size X w1):=(Below.refl _ X).grown hg1 (Nat.le_refl _) (fun k e=>by cases e);have HO1:=mkHid ho1;clear ho1 hg1)
   generalize hH:X.heap.size=H at *
   have HH:=mkHid hH
   clear hH
   rw[←vTo_zero r m] at HO1
   go_loopw [5] (fun i wr=>∃k:Nat,k≤r∧i=.int .i64 (k:Int)∧Hid (OwnB wr H (.slice (some ⟨H,0,none⟩) r r) (vTo r k m))∧Hid (Below H X wr)) (fun i _=>r-(Go.RowKit.intOf i).toNat)
   case atStart=>exact⟨0,Nat.zero_le _,rfl,HO1,HB1⟩
   case round =>
    obtain⟨k,hk,rfl,HO,HB⟩:=hrel
    by_cases hlt:k<r
    ·have hlt':(k:Int)<(r:Int):=by omega
     have c0:=HO.out.cellAt (vTo_len r k m) k hlt
     have f0:=HO.out.frozenAt (vTo_len r k m) k
     have HO2:=mkHid (HO.out.set (vTo_len r k m) k (vByte m k))
     rw[vTo_set r k m] at HO2
     have HB2:Hid (Below H X (wr.setCell ⟨H,k,none⟩ (.int .u8 ((vByte m k).toNat:Int)))):=HB.out.setCell (p:=⟨H,k,none⟩) (Nat.le_refl _) _
     have c5:wr.cell? ⟨w.heap.size,3,none⟩=some (.int .i64 m):=(HB.out.cell (p:=⟨w.heap.size,3,none⟩) (HL0.out)).trans HC.out
     rw[vByte_nat,←wrap_mod] at HO2 HB2
     clear HO
     go_wp2_with fail
     go_roundw
     case rel=>exact⟨k+1,by omega,by go_num,HO2,HB2⟩
     case measure=>simp[Go.RowKit.intOf];omega
    ·have hlt':¬(k:Int)<(r:Int):=by omega
     obtain rfl:k=r:=by omega
     rw[vTo_all] at HO
     go_wp2_with fail
     go_ret
     rw[HV.out]
     have hlen:(mkVal m k).length=k:=by unfold mkVal;simp
     have hO:OwnB wr H (.slice (some ⟨H,0,none⟩) (mkVal m k).length k) (mkVal m k):=by rw[hlen];exact HO.out
     exact⟨⟨some ⟨H,0,none⟩,k,by rw[hlen];rfl,fun W hW=>own_isB (own_keepO hW.o hO (by decide))⟩,HY.out.trans (HB.out.mono (by rw[←HH.out];exact HY.out.size))⟩
 ·have HV:Hid (valP ⟨kind,key,n,m,value⟩=value):=by unfold Hid valP;rw[if_neg hk]
  have hp:(0:Int)<(value.length:Int):=by have:=List.length_pos_iff.2 hk;omega
  go_enter Tryz.func12,Tryz.ntmps12
  go_wp2_with fail
  go_ret
  rw[HV.out]
  exact⟨⟨_,_,rfl,fun W hW=>HK.out.v W ((KeepU.of_below HY.out).trans hW)⟩,HY.out⟩
end
end Go.Proofs.YtpecobmfabmpkaaGreatDoor
