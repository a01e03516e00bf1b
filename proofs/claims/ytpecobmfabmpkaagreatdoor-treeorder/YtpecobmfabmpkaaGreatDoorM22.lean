/- Tr9 TrA TrB MarkB TsB TrC TsC TsE TsK TsG TsH TsI TsF -/
import Derived.Test.YtpecobmfabmpkaaGreatDoorM21
import Derived.Lib.SlBytesConst
set_option maxRecDepth 20000
set_option maxHeartbeats 4000000
namespace Go.Proofs.YtpecobmfabmpkaaGreatDoor
section
open Go.RowKit
structure IsEs (w:World)(a:Option Addr)(n:Nat)(l:List Eq3):Prop where
 len:l.length=n
 cells:0<n→∃g off,a=some ⟨g,off,none⟩∧∀(k:Nat) (x:Eq3),l[k]?=some x→w.cell? ⟨g,off+k * 2,none⟩=some (.slice x.2.a x.1.k.length x.2.c)∧w.cell? ⟨g,off+k * 2+1,none⟩=some (.slice x.2.b x.1.v.length x.2.d)∧IsE w x.1 x.2
theorem refSameQ {a0:Option Addr}{len0 cap0:Nat}{l:List UInt8}{a1:Option Addr}{len1 cap1:Nat}{m:List UInt8}{w:World}(w0:IsB w a0 len0 cap0 l)(w1:IsB w a1 len1 cap1 m)(b:Bool)(hb:eqB l m=b)(n:Nat):
  Calls Tryz.prog 21 #[.slice a0 len0 cap0,.slice a1 len1 cap1] (w.drewN n) fun e w'=>e=.returned (.bool b)∧∃k,w'=w.drewN k:=by
 refine(refSame a0 len0 cap0 l a1 len1 cap1 m (w.drewN n) (w0.below (bel_drewN (Below.refl _ _) n) rfl) (w1.below (bel_drewN (Below.refl _ _) n) rfl)).mono ?_
 rintro e w' ⟨rfl,k,rfl⟩
 rw[hb]
 exact⟨rfl,n+k,World.drewN_drewN ..⟩
abbrev Kq:=Kp × KpA
structure IsK13 (fl:Nat)(w:World)(a:Option Addr)(n:Nat)(l:List Kq):Prop where
 len:l.length=n
 cells:0<n→∃g off,a=some ⟨g,off,none⟩∧∀(k:Nat) (x:Kq),l[k]?=some x→∀j,j<5→w.cell? ⟨g,off+k * 5+j,none⟩=(kpc x.1 x.2)[j]?
 ok:∀x∈l,KpK fl w x.1 x.2
 max:∀x∈l,x.1.key.length≤4611686018427387903∧x.1.value.length≤4611686018427387903
def lightK (l:List Kq):Bool:=decide (∀x∈l,x.1.key.length+x.1.value.length≤1000)&&decide (l.length≤150)
theorem light_no {l:List Kq}{k:Nat}{x:Kq}(hx:l[k]?=some x)(h:1000<x.1.key.length+x.1.value.length):lightK l=false:=by
 unfold lightK
 rw[decide_eq_false (fun hh=>by have:=hh x (List.mem_of_getElem? hx);omega)]
 rfl
theorem light_yes {l:List Kq}(h:∀(k:Nat) (x:Kq),l[k]?=some x→x.1.key.length+x.1.value.length≤1000):lightK l=decide (l.length≤150):=by
 unfold lightK
 rw[decide_eq_true (fun x hx=>by obtain⟨k,hk⟩:=List.mem_iff_getElem?.1 hx;exact h k x hk)]
 rfl
variable {fl:Nat}
theorem lawLight13 (l:List Kq)(a:Option Addr)(n cap:Nat)(w:World)(h:IsK13 fl w a n l)(hn:n≤9223372036854775806):
  Calls Tryz.prog 7 #[.slice a n cap] w fun e w'=>e=.returned (.bool (lightK l))∧Below w.heap.size w w':=by
 have HL:=mkHid h.len
 have H:=mkHid h
 clear h
 go_enter Tryz.func7,Tryz.ntmps7
 go_wp2_with fail
 go_loopw [3] (fun i wr=>∃k q:Nat,wr=w.drewN q∧k≤n∧i=.int .i64 (k:Int)∧Hid (∀(j:Nat) (x:Kq),j<k→l[j]?=some x→x.1.key.length+x.1.value.length≤1000)) (fun i _=>n-(Go.RowKit.intOf i).toNat)
 case atStart=>exact⟨0,0,rfl,Nat.zero_le _,rfl,fun j x hj=>absurd hj (Nat.not_lt_zero _)⟩
 case round =>
  obtain⟨k,q,rfl,hk,rfl,HE⟩:=hrel
  by_cases hlt:k<n
  ·have hlt':(k:Int)<(n:Int):=by omega
   have hk0:(0:Int)≤(k:Int):=by omega
   obtain⟨g,off,rfl,hc⟩:=H.out.cells (by omega)
   obtain⟨x,hx⟩:∃x,l[k]?=some x:=⟨l[k]'(by rw[HL.out];exact hlt),List.getElem?_eq_getElem _⟩
   have C1:∀z,((w.drewN q).drewN z).cell? ⟨g,off+k * 5+1,none⟩=some (.slice x.2.a x.1.key.length x.2.c):=fun z=>hc k x hx 1 (by omega)
   have C4:∀z,((w.drewN q).drewN z).cell? ⟨g,off+k * 5+4,none⟩=some (.slice x.2.b x.1.value.length x.2.d):=fun z=>hc k x hx 4 (by omega)
   obtain⟨m1,m2⟩:=H.out.max x (List.mem_of_getElem? hx)
   have HBq:Hid (∀z,Below w.heap.size w ((w.drewN q).drewN z)):=fun z=>bel_drewN (bel_drewN (Below.refl _ _) q) z
   have HQq:Hid (∀z,∃y,(w.drewN q).drewN z=w.drewN y):=fun z=>⟨_,World.drewN_drewN ..⟩
   clear hc
   generalize w.drewN q=W at *
   by_cases hb:1000<x.1.key.length+x.1.value.length
   ·have HV:=mkHid (light_no hx hb)
    have hb':(1000:Int)<(x.1.key.length:Int)+(x.1.value.length:Int):=by omega
    clear hx HE
    generalize x.1.key.length=xk at *
    generalize x.1.value.length=xv at *
    go_wp2_with fail
    go_quiet (fail)
    go_wp2_with fail
    go_ret
    exact⟨ret_b HV.out.symm,HBq.out _⟩
   ·have hb':¬(1000:Int)<(x.1.key.length:Int)+(x.1.value.length:Int):=by omega
    have HE2:Hid (∀(j:Nat) (x:Kq),j<k+1→l[j]?=some x→x.1.key.length+x.1.value.length≤1000):=fun j y hj hy=>by
     by_cases e:j=k
     ·subst e;rw[hx] at hy;rw[←Option.some.inj hy];omega
     ·exact HE.out j y (by omega) hy
    clear hx HE
    generalize x.1.key.length=xk at *
    generalize x.1.value.length=xv at *
    go_wp2_with fail
    go_quiet (fail)
    go_wp2_with fail
    go_roundw
    case rel =>
     obtain⟨y2,hy2⟩:=HQq.out nq
     exact⟨k+1,y2,hy2,by omega,by go_num,HE2⟩
    case measure=>simp[Go.RowKit.intOf];omega
  ·have hlt':¬(k:Int)<(n:Int):=by omega
   have HV:Hid (decide ((n:Int)≤150)=lightK l):=by
    have:=light_yes (l:=l) (fun j x hx=>HE.out j x (by have:=(List.getElem?_eq_some_iff.1 hx).1;have:=HL.out;omega) hx)
    unfold Hid
    rw[this,HL.out]
    by_cases e:n≤150
    ·rw[decide_eq_true e,decide_eq_true (by omega)]
    ·rw[decide_eq_false e,decide_eq_false (by omega)]
   have HBq:Hid (∀z,Below w.heap.size w (w.drewN z)):=fun z=>bel_drewN (Below.refl _ _) z
   go_wp2_with fail
   go_ret
   exact⟨ret_b HV.out,HBq.out _⟩
end
section
open Go.RowKit
abbrev Bq:=List UInt8 × (Option Addr × Nat)
structure IsBs13 (w:World)(a:Option Addr)(n:Nat)(l:List Bq):Prop where
 len:l.length=n
 cells:0<n→∃g off,a=some ⟨g,off,none⟩∧∀(k:Nat) (x:Bq),l[k]?=some x→w.cell? ⟨g,off+k,none⟩=some (.slice x.2.1 x.1.length x.2.2)∧IsB w x.2.1 x.1.length x.2.2 x.1
def inB (l:List Bq)(b:List UInt8):Bool:=decide (∃x∈l,x.1=b)
theorem inB_yes {l:List Bq}{b:List UInt8}{k:Nat}{x:Bq}(hx:l[k]?=some x)(h:x.1=b):inB l b=true:=decide_eq_true ⟨x,List.mem_of_getElem? hx,h⟩
theorem inB_no {l:List Bq}{b:List UInt8}(h:∀(k:Nat) (x:Bq),l[k]?=some x→x.1≠b):inB l b=false:=decide_eq_false (fun ⟨x,hx,e⟩=>by obtain⟨k,hk⟩:=List.mem_iff_getElem?.1 hx;exact h k x hk e)
theorem lawIn13 (l:List Bq)(bs:List UInt8)(a b:Option Addr)(n cap m d:Nat)(w:World)(h:IsBs13 w a n l)(hb:IsB w b m d bs)(hn:n≤9223372036854775806):
  Calls Tryz.prog 29 #[.slice a n cap,.slice b m d] w fun e w'=>e=.returned (.bool (inB l bs))∧Below w.heap.size w w':=by
 have HL:=mkHid h.len
 have H:=mkHid h
 have HB:=mkHid hb
 clear h hb
 go_enter Tryz.func29,Tryz.ntmps29
 go_wp2_with fail
 go_loopw [5] (fun i wr=>∃k q:Nat,wr=w.drewN q∧k≤n∧i=.int .i64 (k:Int)∧Hid (∀(j:Nat) (x:Bq),j<k→l[j]?=some x→x.1≠bs)) (fun i _=>n-(Go.RowKit.intOf i).toNat)
 case atStart=>exact⟨0,0,rfl,Nat.zero_le _,rfl,fun j x hj=>absurd hj (Nat.not_lt_zero _)⟩
 case round =>
  obtain⟨k,q,rfl,hk,rfl,HE⟩:=hrel
  by_cases hlt:k<n
  ·have hlt':(k:Int)<(n:Int):=by omega
   have hk0:(0:Int)≤(k:Int):=by omega
   obtain⟨g,off,rfl,hc⟩:=H.out.cells (by omega)
   obtain⟨x,hx⟩:∃x,l[k]?=some x:=⟨l[k]'(by rw[HL.out];exact hlt),List.getElem?_eq_getElem _⟩
   obtain⟨c0,hi⟩:=hc k x hx
   have C0:∀z,((w.drewN q).drewN z).cell? ⟨g,off+k,none⟩=some (.slice x.2.1 x.1.length x.2.2):=fun z=>c0
   have V1:=fun z=>conv_isB ((w.drewN q).drewN z) _ _ _ _ (hi.below (bel_drewN (bel_drewN (Below.refl _ _) q) z) rfl)
   have V2:=fun z=>conv_isB ((w.drewN q).drewN z) _ _ _ _ (HB.out.below (bel_drewN (bel_drewN (Below.refl _ _) q) z) rfl)
   have HBq:Hid (∀z,Below w.heap.size w ((w.drewN q).drewN z)):=fun z=>bel_drewN (bel_drewN (Below.refl _ _) q) z
   have HQq:Hid (∀z,∃y,(w.drewN q).drewN z=w.drewN y):=fun z=>⟨_,World.drewN_drewN ..⟩
   have hE:((⟨x.1.toArray⟩:ByteArray).toList==(⟨bs.toArray⟩:ByteArray).toList)=(x.1==bs):=by rw[ByteArray.toList_eq,ByteArray.toList_eq]
   clear hc c0 hi
   generalize w.drewN q=W at *
   cases he:(x.1==bs) with
   | true =>
    rw[he] at hE
    have HV:=mkHid (inB_yes hx (by simpa using he))
    clear hx HE he
    generalize (⟨x.1.toArray⟩:ByteArray)=s1 at *
    generalize (⟨bs.toArray⟩:ByteArray)=s2 at *
    generalize x.1.length=xk at *
    go_wp2_with fail
    go_quiet (fail)
    go_wp2_with fail
    go_ret
    exact⟨ret_b HV.out.symm,HBq.out _⟩
   | false =>
    rw[he] at hE
    have HE2:Hid (∀(j:Nat) (x:Bq),j<k+1→l[j]?=some x→x.1≠bs):=fun j y hj hy=>by
     by_cases e:j=k
     ·subst e;rw[hx] at hy;rw[←Option.some.inj hy];simpa using he
     ·exact HE.out j y (by omega) hy
    clear hx HE he
    generalize (⟨x.1.toArray⟩:ByteArray)=s1 at *
    generalize (⟨bs.toArray⟩:ByteArray)=s2 at *
    generalize x.1.length=xk at *
    go_wp2_with fail
    go_quiet (fail)
    go_wp2_with fail
    go_roundw
    case rel =>
     obtain⟨y2,hy2⟩:=HQq.out nq
     exact⟨k+1,y2,hy2,by omega,by go_num,HE2⟩
    case measure=>simp[Go.RowKit.intOf];omega
  ·have hlt':¬(k:Int)<(n:Int):=by omega
   have HV:=mkHid (inB_no (l:=l) (b:=bs) (fun j x hx=>HE.out j x (by have:=(List.getElem?_eq_some_iff.1 hx).1;have:=HL.out;omega) hx))
   have HBq:Hid (∀z,Below w.heap.size w (w.drewN z)):=fun z=>bel_drewN (Below.refl _ _) z
   go_wp2_with fail
   go_ret
   exact⟨ret_b HV.out.symm,HBq.out _⟩
theorem bsp_marked {fl:Nat}(w:World)(l:List UInt8)(fr:Nat × Nat)(hm:l.length≤maxLen):BsP fl (w.alloc (.cells (bv l).toArray 5 fr)) (some ⟨w.heap.size,0,none⟩) l.length l.length l:=fun W hW =>
 ⟨rfl,Nat.le_refl _,hm,(fun e=>by cases e),fun _=>⟨w.heap.size,0,rfl,fun i hi=>by
  have h:=bv_at l i hi
  have hh:(w.alloc (.cells (bv l).toArray 5 fr)).heap[w.heap.size]?=some (.cells (bv l).toArray 5 fr):=by
   show (w.heap.push _)[w.heap.size]?=_
   simp
  have hh2:=hW.o.same _ _ _ _ hh (by decide)
  rw[Nat.zero_add]
  unfold World.cell?
  dsimp only
  rw[hh2]
  simpa using h⟩⟩
def LitPost (w:World)(S J P base m:Nat)(t:Tl)(j:Jl)(l:List Et)(r:Ending)(w':World):Prop:=(∃t' root' S',r=.returned (.tuple #[.int .i64 ((root':Nat):Int),.int .i64 0])∧SpAx w' S J P base t' j∧Tk t' j m S'∧TR t' j root' l S'∧t'.l.length≤t.l.length+7)∧KS base w w'
theorem putLit (w:World)(S J P base m:Nat)(t:Tl)(j:Jl)(root:Nat)(l:List Et)(SS:List Int)(k v:UInt8)(h:SpAx w S J P base t j)(hk:Tk t j m SS)(ht:TR t j root l SS)(hroom:t.l.length+8≤48)(hl:l.length≤190)(hdisk:SS.length+3<j.p.n-51):
  Calls Tryz.prog 13 #[.pointer (some ⟨S,0,none⟩),.int .i64 (root:Int),.slice (some ⟨w.heap.size,0,none⟩) 1 1,.slice (some ⟨w.heap.size+1,0,none⟩) 1 1] ((w.alloc (.cells #[.int .u8 (k.toNat:Int)] 5 (1,2))).alloc (.cells #[.int .u8 (v.toNat:Int)] 5)) (LitPost w S J P base m t j (putE13 l [k] [v])):=by
 have hlo:=spcOK.lo h
 have b1:BsP 0 (w.alloc (.cells #[.int .u8 (k.toNat:Int)] 5 (1,2))) (some ⟨w.heap.size,0,none⟩) 1 1 [k]:=bsp_marked w [k] (1,2) (by unfold maxLen;simp)
 have b2:BsP 0 ((w.alloc (.cells #[.int .u8 (k.toNat:Int)] 5 (1,2))).alloc (.cells #[.int .u8 (v.toNat:Int)] 5)) (some ⟨w.heap.size+1,0,none⟩) 1 1 [v]:=by
  have:=bsp_marked (fl:=0) (w.alloc (.cells #[.int .u8 (k.toNat:Int)] 5 (1,2))) [v] (0,0) (by unfold maxLen;simp)
  have e1:(w.alloc (.cells #[.int .u8 (k.toNat:Int)] 5 (1,2))).heap.size=w.heap.size+1:=by simp
  rw[e1] at this
  exact this
 have W1:Below w.heap.size w ((w.alloc (.cells #[.int .u8 (k.toNat:Int)] 5 (1,2))).alloc (.cells #[.int .u8 (v.toNat:Int)] 5)):=((Below.refl _ w).alloc (Nat.le_refl _) _).alloc (by simp) _
 have b1':=b1.keep (KeepU.of_below ((Below.refl _ (w.alloc (.cells #[.int .u8 (k.toNat:Int)] 5 (1,2)))).alloc (Nat.le_refl _) (.cells #[.int .u8 (v.toNat:Int)] 5)))
 have H:=codPut13 _ S J P base m t j root l SS ⟨[k],[v]⟩ ⟨some ⟨w.heap.size,0,none⟩,1,some ⟨w.heap.size+1,0,none⟩,1⟩ (SpAx.keep h (KeepT.of_below W1)) hk ht (EtQ.of b1' b2) rfl hroom hl hdisk
 refine H.mono ?_
 rintro r w' ⟨h1,h2⟩
 exact⟨h1,(KS.of_below W1 hlo).trans h2⟩
def tree3:List Et:=putE13 (putE13 (putE13 [] [98] [1]) [97] [2]) [99] [3]
theorem scan3:scanE13 tree3 [98] 9=[⟨[98],[1]⟩,⟨[99],[3]⟩]:=by decide
theorem lawAlive13 (w:World):
  Calls Tryz.prog 8 #[] w fun e w'=>e=.returned (.bool true)∧Below w.heap.size w w':=by
 have HF:=lawFreshN 64 (by omega) (by omega) w w.heap.size (Nat.le_refl _)
 rw[show ((64:Nat):Int)=64 from rfl] at HF
 have hcv:=fun (b:UInt8) (W:World)=>Lib.run_convert_bytes_const (P:=Tryz.prog) W 33 5 #[.int .u8 (b.toNat:Int)] 1 1 Tryz.underlying33 Tryz.underlying5
 have hcb:∀W:World,_:=hcv 98
 have hca:∀W:World,_:=hcv 97
 have hcc:∀W:World,_:=hcv 99
 change ∀W:World,(convert 33 33 (.slice (some ⟨W.heap.size,0,none⟩) 1 1)).run Tryz.prog (W.alloc (.cells #[.int .u8 98] 5))=.ok (.slice (some ⟨W.heap.size,0,none⟩) 1 1) (W.alloc (.cells #[.int .u8 98] 5 (1,2))) at hcb
 change ∀W:World,(convert 33 33 (.slice (some ⟨W.heap.size,0,none⟩) 1 1)).run Tryz.prog (W.alloc (.cells #[.int .u8 97] 5))=.ok (.slice (some ⟨W.heap.size,0,none⟩) 1 1) (W.alloc (.cells #[.int .u8 97] 5 (1,2))) at hca
 change ∀W:World,(convert 33 33 (.slice (some ⟨W.heap.size,0,none⟩) 1 1)).run Tryz.prog (W.alloc (.cells #[.int .u8 99] 5))=.ok (.slice (some ⟨W.heap.size,0,none⟩) 1 1) (W.alloc (.cells #[.int .u8 99] 5 (1,2))) at hcc
 clear hcv
 go_enter Tryz.func8,Tryz.ntmps8
 go_wp2_with fail
 refine HF.mono ?_
 rintro e x1 ⟨⟨J,S,P,rfl,hS1⟩,hk1⟩
 have H1:=putLit x1 S J P w.heap.size 50 t0 ⟨Pl.new 64,0,false⟩ 0 [] [] 98 1 hS1.out (tk_new 64 (by omega) (by omega)) (tr_new 64) (by show 0+8≤48;omega) (by show 0≤190;omega) (by show 0+3<64-51;omega)
 change Calls Tryz.prog 13 #[.pointer (some ⟨S,0,none⟩),.int .i64 0,.slice (some ⟨x1.heap.size,0,none⟩) 1 1,.slice (some ⟨x1.heap.size+1,0,none⟩) 1 1] ((x1.alloc (.cells #[.int .u8 98] 5 (1,2))).alloc (.cells #[.int .u8 1] 5)) _ at H1
 have HK1:=mkHid hk1.out
 clear HF hS1 hk1
 go_wp2_with fail
 refine H1.mono ?_
 rintro e x2 ⟨⟨t2,r2,S2,rfl,hA2,hT2,hR2,hl2⟩,hk2⟩
 change t2.l.length≤0+7 at hl2
 have hp2:=hR2.pages.2.2
 change S2.length≤1+1 at hp2
 have HK2:=mkHid (HK1.out.trans hk2)
 have H2:=putLit x2 S J P w.heap.size 50 t2 ⟨Pl.new 64,0,false⟩ r2 _ S2 97 2 hA2 hT2 hR2 (by omega) (by decide) (by show _<64-51;omega)
 change Calls Tryz.prog 13 #[.pointer (some ⟨S,0,none⟩),.int .i64 (r2:Int),.slice (some ⟨x2.heap.size,0,none⟩) 1 1,.slice (some ⟨x2.heap.size+1,0,none⟩) 1 1] ((x2.alloc (.cells #[.int .u8 97] 5 (1,2))).alloc (.cells #[.int .u8 2] 5)) _ at H2
 clear H1 hk2 HK1 hA2 hT2 hR2
 go_wp2_with fail
 refine H2.mono ?_
 rintro e x3 ⟨⟨t3,r3,S3,rfl,hA3,hT3,hR3,hl3⟩,hk3⟩
 have hp3:=hR3.pages.2.2
 change S3.length≤2+1 at hp3
 have HK3:=mkHid (HK2.out.trans hk3)
 have H3:=putLit x3 S J P w.heap.size 50 t3 ⟨Pl.new 64,0,false⟩ r3 _ S3 99 3 hA3 hT3 hR3 (by omega) (by decide) (by show _<64-51;omega)
 change Calls Tryz.prog 13 #[.pointer (some ⟨S,0,none⟩),.int .i64 (r3:Int),.slice (some ⟨x3.heap.size,0,none⟩) 1 1,.slice (some ⟨x3.heap.size+1,0,none⟩) 1 1] ((x3.alloc (.cells #[.int .u8 99] 5 (1,2))).alloc (.cells #[.int .u8 3] 5)) _ at H3
 clear H2 hk3 HK2 hA3 hT3 hR3
 go_wp2_with fail
 refine H3.mono ?_
 rintro e x4 ⟨⟨t4,r4,S4,rfl,hA4,hT4,hR4,hl4⟩,hk4⟩
 have HK4:=mkHid (HK3.out.trans hk4)
 have W5:Below x4.heap.size x4 (x4.alloc (.cells #[.int .u8 98] 5 (1,2))):=(Below.refl _ x4).alloc (Nat.le_refl _) _
 have o5:BsP 0 (x4.alloc (.cells #[.int .u8 98] 5 (1,2))) (some ⟨x4.heap.size,0,none⟩) 1 1 [98]:=bsp_marked x4 [98] (1,2) (by unfold maxLen;simp)
 have H4:=codScan13 _ S J P w.heap.size 50 t4 ⟨Pl.new 64,0,false⟩ r4 _ S4 (some ⟨x4.heap.size,0,none⟩) 1 1 [98] 9 (SpAx.keep hA4 (KeepT.of_below W5)) hT4 hR4 o5
 have HW5:=mkHid W5
 clear H3 hk4 HK3 hA4 hT4 hR4 W5 o5
 go_wp2_with fail
 refine H4.mono ?_
 rintro e x6 ⟨⟨v6,rfl,hsc⟩,hb6⟩
 have HB6:Hid (Below w.heap.size w x6):=HK4.out.b.trans ((HW5.out.trans (hb6.mono HW5.out.size)).mono HK4.out.b.size)
 obtain⟨L,hO,hLe,hLi⟩:=hsc
 change _=scanE13 tree3 [98] 9 at hLe
 rw[scan3] at hLe
 have hl2:L.length=2:=by have:=congrArg List.length hLe;simpa using this
 obtain⟨⟨e1,q1⟩,L,rfl⟩:=List.exists_cons_of_length_eq_add_one hl2
 obtain⟨⟨e2,q2⟩,L,rfl⟩:=List.exists_cons_of_length_eq_add_one (Nat.succ.inj hl2)
 obtain rfl:L=[]:=List.length_eq_zero_iff.1 (Nat.succ.inj (Nat.succ.inj hl2))
 simp only[List.map_cons,List.map_nil,List.cons.injEq,and_true] at hLe
 obtain⟨rfl,rfl⟩:=hLe
 obtain⟨va,vc,rfl,_⟩:=hO.form
 obtain⟨g,rfl,_,_,hc0⟩:=hO.at_ 0 (by simp)
 obtain⟨g',hg',_,_,hc1⟩:=hO.at_ 1 (by simp)
 obtain rfl:=(Addr.mk.inj (Option.some.inj hg')).1
 have C0:x6.cell? ⟨g,0,none⟩=some (.slice q1.a 1 q1.c):=hc0 0 (by omega)
 have C1:x6.cell? ⟨g,3,none⟩=some (.slice q2.b 1 q2.d):=hc1 1 (by omega)
 have i1:=(hLi _ (List.mem_cons_self)).is.k
 have i2:=(hLi (⟨[99],[3]⟩,q2) (List.mem_cons_of_mem _ List.mem_cons_self)).is.v
 have V1:=conv_isB x6 _ _ _ _ i1
 obtain⟨b2,o2,e2,hc2⟩:=i2.cells (Nat.lt_add_one 0)
 have D1:x6.cell? ⟨b2,o2,none⟩=some (.int .u8 3):=hc2 0 (Nat.lt_add_one 0)
 clear hO hLi hc0 hc1 i1 i2 hc2 hb6 H4
 simp only[List.length_cons,List.length_nil] at V1
 obtain⟨a2,c2,qb,d2⟩:=q2
 change qb=_ at e2
 subst e2
 change x6.cell? ⟨g,3,none⟩=some (.slice (some ⟨b2,o2,none⟩) 1 d2) at C1
 go_wp2_with fail
 go_ret
 exact⟨rfl,HB6.out⟩
def keyN (i:Nat):List UInt8:=[UInt8.ofNat (97+i/26),UInt8.ofNat (97+i%26),UInt8.ofNat i]
def kE (i:Nat):Et:=⟨keyN i,List.replicate 100 0⟩
theorem mkKey_len (r:Nat):(mkKey r).length≤63:=by
 unfold mkKey
 rw[List.length_append,List.length_replicate]
 simp only[List.length_cons,List.length_nil]
 omega
theorem keyP_len (p:Kp)(h:p.key.length≤1000):(keyP p).length≤1000:=by
 unfold keyP
 split
 ·have:=mkKey_len (nK p.n 50);omega
 ·exact h
theorem valP_len (p:Kp)(h:p.value.length≤1000):(valP p).length≤1000:=by
 unfold valP
 split
 ·have h1:=nK_lt p.m 170 (by omega)
  have h2:(mkVal p.m (nK p.m 170)).length=nK p.m 170:=by unfold mkVal;simp
  have h3:nK p.m ((170:Nat):Int)=nK p.m 170:=rfl
  omega
 ·exact h
theorem at_nil (l:List Et):atE l []=0:=by
 cases l with
 | nil=>rfl
 | cons e l=>rw[atE,if_neg (by cases e.k<;>simp[Op.bytesLess])]
theorem scan_all (l:List Et)(h:l.length≤1000):scanE13 l [] 1000=l:=by
 unfold scanE13
 rw[at_nil,List.drop_zero,List.take_of_length_le (by simpa using h)]
theorem KpK.keep {fl:Nat}{w w':World}{p:Kp}{q:KpA}(h:KpK fl w p q)(hk:KeepU fl [5] w w'):KpK fl w' p q:=⟨fun W hW=>h.k W (hk.trans hW),fun W hW=>h.v W (hk.trans hW)⟩
structure KqR (x:Kq):Prop where
 n0 : -9223372036854775808≤x.1.n
 n1:x.1.n≤9223372036854775807
 m0 : -9223372036854775808≤x.1.m
 m1:x.1.m≤9223372036854775807
theorem isb_low {w w':World}{a:Option Addr}{n c:Nat}{l:List UInt8}(h:IsB w a n c l)(hl:∀k,k<w.heap.size→w'.heap[k]?=w.heap[k]?):IsB w' a n c l:=by
 obtain⟨h1,h2,h3,h4,h5⟩:=h
 refine⟨h1,h2,h3,h4,fun hp=>?_⟩
 obtain⟨b,off,e,hc⟩:=h5 hp
 refine⟨b,off,e,fun i hi=>?_⟩
 have h6:=hc i hi
 have h7:=hl b (cell_lt h6)
 rw[←h6]
 unfold World.cell?
 simp only[h7]
theorem kpk_in {w:World}{p:Kp}{q:KpA}(h1:IsB w q.a p.key.length q.c p.key)(h2:IsB w q.b p.value.length q.d p.value):KpK w.heap.size w p q :=
 ⟨fun _ hW=>isb_low h1 fun k hk=>hW.low k hk hk,fun _ hW=>isb_low h2 fun k hk=>hW.low k hk hk⟩
def OrdPost (J P base m:Nat)(l:List Et)(K V:List UInt8)(w:World)(e:Ending)(w':World):Prop :=
 (∃(m':Nat) (j':Jl) (root':Nat) (SS':List Int),e=.returned (.tuple #[.int .i64 (root':Int),.bool true])∧m'≤m+150∧TJ w' J P base m' 4096 j' root' (if itemOk K V=true then putE13 l K V else l) SS')∧KS base w w'
theorem orderPut (fl:Nat)(w:World)(J P base m JB:Nat)(j:Jl)(root:Nat)(l:List Et)(SS:List Int)(p:Kp)(q:KpA)(h:TJ w J P base m 4096 j root l SS)(hfl:fl≤base)(hbox:w.cell? ⟨JB,0,none⟩=some (.pointer (some ⟨J,0,none⟩)))(hk:KpK fl w p q)(hr:KqR (p,q))(hkl:p.key.length+p.value.length≤1000)(hl:l.length≤180)(hm:m+150≤80000):
  Calls Tryz.prog 28 #[.int .i64 (root:Int),.agg (kpc p q).toArray,.pointer (some ⟨JB,0,none⟩)] w (OrdPost J P base m l (keyP p) (valP p) w):=by
 obtain⟨kind,key,nn,mm,val⟩:=p
 obtain⟨qa,qc,qb,qd⟩:=q
 have hlo:base≤w.heap.size:=ja_lo h.ja
 have hbA:Below w.heap.size w (w.alloc (.cells #[.int .i64 kind,.slice qa key.length qc,.int .i64 nn,.int .i64 mm,.slice qb val.length qd] 35)):=(Below.refl _ w).alloc (Nat.le_refl _) _
 have HBl:=mkHid (Blk.new w 35 [.int .i64 kind,.slice qa key.length qc,.int .i64 nn,.int .i64 mm,.slice qb val.length qd])
 have HT0:=mkHid (h.on hbA)
 have HK0:=mkHid (KS.of_below hbA hlo)
 have hbox0:(w.alloc (.cells #[.int .i64 kind,.slice qa key.length qc,.int .i64 nn,.int .i64 mm,.slice qb val.length qd] 35)).cell? ⟨JB,0,none⟩=some (.pointer (some ⟨J,0,none⟩)):=(hbA.cell (p:=⟨JB,0,none⟩) (cell_lt hbox)).trans hbox
 have HKp:=mkHid (hk.keep (KeepU.of_below hbA))
 show Calls Tryz.prog 28 #[.int .i64 (root:Int),.agg #[.int .i64 kind,.slice qa key.length qc,.int .i64 nn,.int .i64 mm,.slice qb val.length qd],.pointer (some ⟨JB,0,none⟩)] w _
 obtain⟨BO,hBO⟩:∃BO,BO=w.heap.size:=⟨_,rfl⟩
 rw[←hBO] at HBl
 have hrn:=hr
 clear h hk hbA hr
 go_enter Tryz.func28,Tryz.ntmps28
 go_upto_region 1 with fail
 (try rw[←hBO])
 generalize hY:w.alloc (.cells #[.int .i64 kind,.slice qa key.length qc,.int .i64 nn,.int .i64 mm,.slice qb val.length qd] 35)=Y0 at *
 clear hY hBO
 have HOp:=treeOpen HT0.out
 go_wp2_with fail
 refine HOp.mono ?_
 rintro e Y ⟨⟨S,rfl,hS1⟩,hk1⟩
 have HX:=mkHid hS1
 have HK1:=mkHid (HK0.out.trans hk1)
 have HB1:=mkHid (hk1.o.blk HBl.out (by decide))
 have HT:=mkHid (show TJ Y J P base m 4096 j root l SS from ⟨spcOK.toJ hS1,HT0.out.tk,HT0.out.tr,HT0.out.n⟩)
 have HKp1:=mkHid (HKp.out.keep (KeepU.ofB (hk1.o.less (by decide)) hk1.b hfl))
 clear HBl HOp hS1 hk1 HK0 HT0 HKp hbox0 hbox
 have HBl:=HB1
 clear HB1
 have hKy:∀W,Below Y.heap.size Y W→KpK fl W ⟨kind,key,nn,mm,val⟩ ⟨qa,qc,qb,qd⟩:=fun W hW=>HKp1.out.keep (KeepU.of_below hW)
 have hkv:key.length+val.length≤1000:=hkl
 have hkl1:key.length≤1000:=by omega
 have hvl1:val.length≤1000:=by omega
 have HKey:∀W,Below Y.heap.size Y W→Calls Tryz.prog 11 #[.agg #[.int .i64 kind,.slice qa key.length qc,.int .i64 nn,.int .i64 mm,.slice qb val.length qd]] W fun e w'=>KeyPost fl (keyP ⟨kind,key,nn,mm,val⟩) e w'∧Below W.heap.size W w':=fun W hW=>lawKey13 ⟨kind,key,nn,mm,val⟩ ⟨qa,qc,qb,qd⟩ W (hKy W hW) hrn.n0 hrn.n1 (by show key.length≤_;omega)
 have HVal:∀W,Below Y.heap.size Y W→Calls Tryz.prog 12 #[.agg #[.int .i64 kind,.slice qa key.length qc,.int .i64 nn,.int .i64 mm,.slice qb val.length qd]] W fun e w'=>KeyPost fl (valP ⟨kind,key,nn,mm,val⟩) e w'∧Below W.heap.size W w':=fun W hW=>lawValue13 ⟨kind,key,nn,mm,val⟩ ⟨qa,qc,qb,qd⟩ W (hKy W hW) hrn.m0 hrn.m1 (by show val.length≤_;omega)
 have HKV:Hid ((keyP ⟨kind,key,nn,mm,val⟩).length≤1000∧(valP ⟨kind,key,nn,mm,val⟩).length≤1000):=⟨keyP_len _ hkl1,valP_len _ hvl1⟩
 generalize keyP ⟨kind,key,nn,mm,val⟩=K at *
 generalize valP ⟨kind,key,nn,mm,val⟩=V at *
 clear hrn hkl hkl1 hvl1 hkv hKy HKp1
 unfold OrdPost
 cases hit:itemOk K V with
 | true =>
  go_upto_region 4 with fail
  have hD:Below Y.heap.size Y Y.drew:=(Below.refl _ Y).drew
  refine wp_region_noPanic ?_
  refine wp_region_held_drew (S:=fun w'=>KS base Y w') (by kernel_rfl) (KS.of_below hD (spcOK.lo HX.out)) (fun hHeld=>?_)
  refine takeH (some 23) (i:=0) (v:=?_) rfl (by kernel_rfl) (by kernel_rfl) (by kernel_rfl) (fun _ _ _ h=>h) (Or.inl ⟨by rfl,?_⟩) hHeld rfl ?_
  rotate_left
  ·intro w hSw;go_simp;with_reducible rfl
  (try simp only[Act.put,sIx,sZ0,sZ1])
  refine takeH (some 24) (i:=1) (v:=?_) rfl (by kernel_rfl) (by kernel_rfl) (by kernel_rfl) (fun _ _ _ h=>h) (Or.inl ⟨by rfl,?_⟩) hHeld rfl ?_
  rotate_left
  ·intro w hSw;go_simp;with_reducible rfl
  (try simp only[Act.put,sIx,sZ0,sZ1])
  refine takeH (some 25) (i:=2) (v:=.agg #[.int .i64 kind,.slice qa key.length qc,.int .i64 nn,.int .i64 mm,.slice qb val.length qd]) rfl (by kernel_rfl) (by kernel_rfl) (by kernel_rfl) (fun _ _ _ h=>h) (Or.inl ⟨by rfl,?_⟩) hHeld rfl ?_
  ·intro w hSw;have hq:=hSw.o.blk HBl.out (by decide);have s0:=hq.cell 0;have s1:=hq.cell 1;have s2:=hq.cell 2;have s3:=hq.cell 3;have s4:=hq.cell 4;simp only[gZ0,gZ1] at s0 s1 s2 s3 s4;go_simp
  (try simp only[Act.put,sIx,sZ0,sZ1])
  refine takeH (some 27) (i:=4) (v:=.agg #[.int .i64 kind,.slice qa key.length qc,.int .i64 nn,.int .i64 mm,.slice qb val.length qd]) rfl (by kernel_rfl) (by kernel_rfl) (by kernel_rfl) (fun _ _ _ h=>h) (Or.inl ⟨by rfl,?_⟩) hHeld rfl ?_
  ·intro w hSw;have hq:=hSw.o.blk HBl.out (by decide);have s0:=hq.cell 0;have s1:=hq.cell 1;have s2:=hq.cell 2;have s3:=hq.cell 3;have s4:=hq.cell 4;simp only[gZ0,gZ1] at s0 s1 s2 s3 s4;go_simp
  (try simp only[Act.put,sIx,sZ0,sZ1])
  refine wpAnyH_ready (rs:=[3]) (by kernel_rfl) (by simp) (AllReadyH.cons rfl (fun KK hK=>?_) AllReadyH.nil)
  go_simp
  refine(HKey Y.drew hD).mono ?_
  rintro e z1 ⟨⟨ka,kc,rfl,hkk⟩,hz1⟩
  go_simp
  have hz01:Below Y.heap.size Y z1:=hD.trans (hz1.mono hD.size)
  refine hK.out _ _ (KS.of_below hz01 (spcOK.lo HX.out)) (fun hHeld=>?_)
  (try simp only[Act.put,sIx,sZ0,sZ1])
  clear hK KK
  refine wpAnyH_ready (rs:=[5]) (by kernel_rfl) (by simp) (AllReadyH.cons rfl (fun KK hK=>?_) AllReadyH.nil)
  go_simp
  refine(HVal z1 hz01).mono ?_
  rintro e z2 ⟨⟨va,vc,rfl,hvv⟩,hz2⟩
  go_simp
  have hz02:Below Y.heap.size Y z2:=hz01.trans (hz2.mono hz01.size)
  refine hK.out _ _ (KS.of_below hz02 (spcOK.lo HX.out)) (fun hHeld=>?_)
  (try simp only[Act.put,sIx,sZ0,sZ1])
  clear hK KK
  have q1:BsP fl z2 ka K.length kc K:=IsB.bsp (fun W hW=>hkk W ((KeepU.of_below hz2).trans hW))
  have q2:BsP fl z2 va V.length vc V:=IsB.bsp hvv
  have HP:=codPut13 z2 S J P base m t0 j root l SS ⟨K,V⟩ ⟨ka,kc,va,vc⟩ (SpAx.keep HX.out (KeepT.of_below hz02)) HT.out.tk HT.out.tr (EtQ.of q1 q2) hit (by show 0+8≤48;omega) (by omega) (by have h1:=HT.out.pages.2.2;rw[HT.out.n];omega) hfl
  refine wpAnyH_ready (rs:=[6]) (by kernel_rfl) (by simp) (AllReadyH.cons rfl (fun KK hK=>?_) AllReadyH.nil)
  go_simp
  refine HP.mono ?_
  rintro e y5 ⟨⟨t',r',S',rfl,hA5,hT5,hR5,_⟩,hk5⟩
  have HA5:=mkHid (And.intro hA5 (And.intro hT5 hR5))
  have HK5:=mkHid ((KS.of_below hz02 (spcOK.lo HX.out)).trans hk5)
  go_simp
  refine hK.out _ _ HK5.out (fun hHeld=>?_)
  (try simp only[Act.put,sIx,sZ0,sZ1])
  clear hK KK hA5 hT5 hR5 hk5 HP
  refine takeH (some 22) (i:=7) (v:=?_) rfl (by kernel_rfl) (by kernel_rfl) (by kernel_rfl) (fun _ _ _ h=>h) (Or.inl ⟨by rfl,?_⟩) hHeld rfl ?_
  rotate_left
  ·intro w hSw;go_simp;with_reducible rfl
  (try simp only[Act.put,sIx,sZ0,sZ1])
  refine takeH (some 30) (i:=8) (v:=?_) rfl (by kernel_rfl) (by kernel_rfl) (by kernel_rfl) (fun _ _ _ h=>h) (Or.inl ⟨by rfl,?_⟩) hHeld rfl ?_
  rotate_left
  ·intro w hSw;go_simp;with_reducible rfl
  (try simp only[Act.put,sIx,sZ0,sZ1])
  refine takeH (some 31) (i:=9) (v:=?_) rfl (by kernel_rfl) (by kernel_rfl) (by kernel_rfl) (fun _ _ _ h=>h) (Or.inl ⟨by rfl,?_⟩) hHeld rfl ?_
  rotate_left
  ·intro w hSw;go_simp;with_reducible rfl
  (try simp only[Act.put,sIx,sZ0,sZ1])
  refine takeH (some 9) (i:=10) (v:=?_) rfl (by kernel_rfl) (by kernel_rfl) (by kernel_rfl) (fun _ _ _ h=>h) (Or.inl ⟨by rfl,?_⟩) hHeld rfl ?_
  rotate_left
  ·intro w hSw;go_simp;with_reducible rfl
  (try simp only[Act.put,sIx,sZ0,sZ1])
  refine takeH (some 10) (i:=11) (v:=?_) rfl (by kernel_rfl) (by kernel_rfl) (by kernel_rfl) (fun _ _ _ h=>h) (Or.inl ⟨by rfl,?_⟩) hHeld rfl ?_
  rotate_left
  ·intro w hSw;go_simp;with_reducible rfl
  (try simp only[Act.put,sIx,sZ0,sZ1])
  refine wpAnyH_done (by kernel_rfl) ?_ _
  refine NoPanic.normal ?_
  have HCm:=treeCommit HA5.out.1 HA5.out.2.1 HA5.out.2.2 HT.out.n hm
  clear hD hz01 hz02 hz1 hz2 hkk hvv q1 q2 HX HKey HVal
  go_wp2_with fail
  refine HCm.mono ?_
  rintro e y6 ⟨rfl,hT6,hk6⟩
  have HT6:=mkHid hT6
  have HK6:=mkHid ((HK1.out.trans HK5.out).trans hk6)
  clear HCm hT6 hk6
  go_wp2_with fail
  go_ret2
  exact⟨⟨m+150,cmJ t' j,r',S',rfl,Nat.le_refl _,by rw[if_pos hit];exact HT6.out⟩,HK6.out⟩
 | false =>
  go_upto_region 4 with fail
  have hD:Below Y.heap.size Y Y.drew:=(Below.refl _ Y).drew
  refine wp_region_noPanic ?_
  refine wp_region_held_drew (S:=fun w'=>Below Y.heap.size Y w') (by kernel_rfl) hD (fun hHeld=>?_)
  refine takeH (some 23) (i:=0) (v:=?_) rfl (by kernel_rfl) (by kernel_rfl) (by kernel_rfl) (fun _ _ _ h=>h) (Or.inl ⟨by rfl,?_⟩) hHeld rfl ?_
  rotate_left
  ·intro w hSw;go_simp;with_reducible rfl
  (try simp only[Act.put,sIx,sZ0,sZ1])
  refine takeH (some 24) (i:=1) (v:=?_) rfl (by kernel_rfl) (by kernel_rfl) (by kernel_rfl) (fun _ _ _ h=>h) (Or.inl ⟨by rfl,?_⟩) hHeld rfl ?_
  rotate_left
  ·intro w hSw;go_simp;with_reducible rfl
  (try simp only[Act.put,sIx,sZ0,sZ1])
  refine takeH (some 25) (i:=2) (v:=.agg #[.int .i64 kind,.slice qa key.length qc,.int .i64 nn,.int .i64 mm,.slice qb val.length qd]) rfl (by kernel_rfl) (by kernel_rfl) (by kernel_rfl) (fun _ _ _ h=>h) (Or.inl ⟨by rfl,?_⟩) hHeld rfl ?_
  ·intro w hSw;have hq:=HBl.out.on hSw;have s0:=hq.cell 0;have s1:=hq.cell 1;have s2:=hq.cell 2;have s3:=hq.cell 3;have s4:=hq.cell 4;simp only[gZ0,gZ1] at s0 s1 s2 s3 s4;go_simp
  (try simp only[Act.put,sIx,sZ0,sZ1])
  refine takeH (some 27) (i:=4) (v:=.agg #[.int .i64 kind,.slice qa key.length qc,.int .i64 nn,.int .i64 mm,.slice qb val.length qd]) rfl (by kernel_rfl) (by kernel_rfl) (by kernel_rfl) (fun _ _ _ h=>h) (Or.inl ⟨by rfl,?_⟩) hHeld rfl ?_
  ·intro w hSw;have hq:=HBl.out.on hSw;have s0:=hq.cell 0;have s1:=hq.cell 1;have s2:=hq.cell 2;have s3:=hq.cell 3;have s4:=hq.cell 4;simp only[gZ0,gZ1] at s0 s1 s2 s3 s4;go_simp
  (try simp only[Act.put,sIx,sZ0,sZ1])
  refine wpAnyH_ready (rs:=[3]) (by kernel_rfl) (by simp) (AllReadyH.cons rfl (fun KK hK=>?_) AllReadyH.nil)
  go_simp
  refine(HKey Y.drew hD).mono ?_
  rintro e z1 ⟨⟨ka,kc,rfl,hkk⟩,hz1⟩
  go_simp
  have hz01:Below Y.heap.size Y z1:=hD.trans (hz1.mono hD.size)
  refine hK.out _ _ hz01 (fun hHeld=>?_)
  (try simp only[Act.put,sIx,sZ0,sZ1])
  clear hK KK
  refine wpAnyH_ready (rs:=[5]) (by kernel_rfl) (by simp) (AllReadyH.cons rfl (fun KK hK=>?_) AllReadyH.nil)
  go_simp
  refine(HVal z1 hz01).mono ?_
  rintro e z2 ⟨⟨va,vc,rfl,hvv⟩,hz2⟩
  go_simp
  have hz02:Below Y.heap.size Y z2:=hz01.trans (hz2.mono hz01.size)
  refine hK.out _ _ hz02 (fun hHeld=>?_)
  (try simp only[Act.put,sIx,sZ0,sZ1])
  clear hK KK
  have HP:=codPutNo z2 S root ka va K.length kc V.length vc hit
  refine wpAnyH_ready (rs:=[6]) (by kernel_rfl) (by simp) (AllReadyH.cons rfl (fun KK hK=>?_) AllReadyH.nil)
  go_simp
  refine HP.mono ?_
  rintro e z3 ⟨rfl,hz3⟩
  have hz03:Below Y.heap.size Y z3:=hz02.trans (hz3.mono hz02.size)
  go_simp
  refine hK.out _ _ hz03 (fun hHeld=>?_)
  (try simp only[Act.put,sIx,sZ0,sZ1])
  clear hK KK
  refine takeH (some 22) (i:=7) (v:=?_) rfl (by kernel_rfl) (by kernel_rfl) (by kernel_rfl) (fun _ _ _ h=>h) (Or.inl ⟨by rfl,?_⟩) hHeld rfl ?_
  rotate_left
  ·intro w hSw;go_simp;with_reducible rfl
  (try simp only[Act.put,sIx,sZ0,sZ1])
  refine takeH (some 30) (i:=8) (v:=?_) rfl (by kernel_rfl) (by kernel_rfl) (by kernel_rfl) (fun _ _ _ h=>h) (Or.inl ⟨by rfl,?_⟩) hHeld rfl ?_
  rotate_left
  ·intro w hSw;go_simp;with_reducible rfl
  (try simp only[Act.put,sIx,sZ0,sZ1])
  refine takeH (some 31) (i:=9) (v:=?_) rfl (by kernel_rfl) (by kernel_rfl) (by kernel_rfl) (fun _ _ _ h=>h) (Or.inl ⟨by rfl,?_⟩) hHeld rfl ?_
  rotate_left
  ·intro w hSw;go_simp;with_reducible rfl
  (try simp only[Act.put,sIx,sZ0,sZ1])
  refine takeH (some 9) (i:=10) (v:=?_) rfl (by kernel_rfl) (by kernel_rfl) (by kernel_rfl) (fun _ _ _ h=>h) (Or.inl ⟨by rfl,?_⟩) hHeld rfl ?_
  rotate_left
  ·intro w hSw;go_simp;with_reducible rfl
  (try simp only[Act.put,sIx,sZ0,sZ1])
  refine takeH (some 10) (i:=11) (v:=?_) rfl (by kernel_rfl) (by kernel_rfl) (by kernel_rfl) (fun _ _ _ h=>h) (Or.inl ⟨by rfl,?_⟩) hHeld rfl ?_
  rotate_left
  ·intro w hSw;go_simp;with_reducible rfl
  (try simp only[Act.put,sIx,sZ0,sZ1])
  refine wpAnyH_done (by kernel_rfl) ?_ _
  refine NoPanic.normal ?_
  have HX3:=mkHid (SpAx.keep HX.out (KeepT.of_below hz03))
  have HT3:=mkHid (HT.out.on hz03)
  have HB3:=mkHid (HBl.out.on hz03)
  have HK3:=mkHid (HK1.out.trans (KS.of_below hz03 (spcOK.lo HX.out)))
  have HKey3:∀W,Below z3.heap.size z3 W→Calls Tryz.prog 11 #[.agg #[.int .i64 kind,.slice qa key.length qc,.int .i64 nn,.int .i64 mm,.slice qb val.length qd]] W fun e w'=>KeyPost fl K e w'∧Below W.heap.size W w':=fun W hW=>HKey W (hz03.trans (hW.mono hz03.size))
  have HVal3:∀W,Below z3.heap.size z3 W→Calls Tryz.prog 12 #[.agg #[.int .i64 kind,.slice qa key.length qc,.int .i64 nn,.int .i64 mm,.slice qb val.length qd]] W fun e w'=>KeyPost fl V e w'∧Below W.heap.size W w':=fun W hW=>HVal W (hz03.trans (hW.mono hz03.size))
  clear hD hz01 hz02 hz1 hz2 hkk hvv HX HT HBl HK1 HKey HVal HP hz3 hz03
  have HBl:=HB3
  have HKey:=HKey3
  have HVal:=HVal3
  clear HB3 HKey3 HVal3
  go_upto_region 6 with fail
  have hD:Below z3.heap.size z3 z3.drew:=(Below.refl _ z3).drew
  refine wp_region_noPanic ?_
  refine wp_region_held_drew (S:=fun w'=>Below z3.heap.size z3 w') (by kernel_rfl) hD (fun hHeld=>?_)
  refine takeH (some 34) (i:=0) (v:=?_) rfl (by kernel_rfl) (by kernel_rfl) (by kernel_rfl) (fun _ _ _ h=>h) (Or.inl ⟨by rfl,?_⟩) hHeld rfl ?_
  rotate_left
  ·intro w hSw;go_simp;with_reducible rfl
  (try simp only[Act.put,sIx,sZ0,sZ1])
  refine takeH (some 35) (i:=1) (v:=.agg #[.int .i64 kind,.slice qa key.length qc,.int .i64 nn,.int .i64 mm,.slice qb val.length qd]) rfl (by kernel_rfl) (by kernel_rfl) (by kernel_rfl) (fun _ _ _ h=>h) (Or.inl ⟨by rfl,?_⟩) hHeld rfl ?_
  ·intro w hSw;have hq:=HBl.out.on hSw;have s0:=hq.cell 0;have s1:=hq.cell 1;have s2:=hq.cell 2;have s3:=hq.cell 3;have s4:=hq.cell 4;simp only[gZ0,gZ1] at s0 s1 s2 s3 s4;go_simp
  (try simp only[Act.put,sIx,sZ0,sZ1])
  refine takeH (some 37) (i:=3) (v:=.agg #[.int .i64 kind,.slice qa key.length qc,.int .i64 nn,.int .i64 mm,.slice qb val.length qd]) rfl (by kernel_rfl) (by kernel_rfl) (by kernel_rfl) (fun _ _ _ h=>h) (Or.inl ⟨by rfl,?_⟩) hHeld rfl ?_
  ·intro w hSw;have hq:=HBl.out.on hSw;have s0:=hq.cell 0;have s1:=hq.cell 1;have s2:=hq.cell 2;have s3:=hq.cell 3;have s4:=hq.cell 4;simp only[gZ0,gZ1] at s0 s1 s2 s3 s4;go_simp
  (try simp only[Act.put,sIx,sZ0,sZ1])
  refine wpAnyH_ready (rs:=[2]) (by kernel_rfl) (by simp) (AllReadyH.cons rfl (fun KK hK=>?_) AllReadyH.nil)
  go_simp
  refine(HKey z3.drew hD).mono ?_
  rintro e u1 ⟨⟨ka,kc,rfl,hkk⟩,hz1⟩
  go_simp
  have hz01:Below z3.heap.size z3 u1:=hD.trans (hz1.mono hD.size)
  refine hK.out _ _ hz01 (fun hHeld=>?_)
  (try simp only[Act.put,sIx,sZ0,sZ1])
  clear hK KK
  refine wpAnyH_ready (rs:=[4]) (by kernel_rfl) (by simp) (AllReadyH.cons rfl (fun KK hK=>?_) AllReadyH.nil)
  go_simp
  refine(HVal u1 hz01).mono ?_
  rintro e u2 ⟨⟨va,vc,rfl,hvv⟩,hz2⟩
  go_simp
  have hz02:Below z3.heap.size z3 u2:=hz01.trans (hz2.mono hz01.size)
  refine hK.out _ _ hz02 (fun hHeld=>?_)
  (try simp only[Act.put,sIx,sZ0,sZ1])
  clear hK KK
  have HIt:=refItem13 K V ka va kc vc u2 (by have:=HKV.out;omega) (by have:=HKV.out;omega)
  rw[hit] at HIt
  refine wpAnyH_ready (rs:=[5]) (by kernel_rfl) (by simp) (AllReadyH.cons rfl (fun KK hK=>?_) AllReadyH.nil)
  go_simp
  refine HIt.mono ?_
  rintro e u3 ⟨rfl,hu3⟩
  obtain rfl:=hu3.symm
  clear hu3
  go_simp
  refine hK.out _ _ hz02 (fun hHeld=>?_)
  (try simp only[Act.put,sIx,sZ0,sZ1])
  clear hK KK
  refine takeH (some 40) (i:=6) (v:=?_) rfl (by kernel_rfl) (by kernel_rfl) (by kernel_rfl) (fun _ _ _ h=>h) (Or.inl ⟨by rfl,?_⟩) hHeld rfl ?_
  rotate_left
  ·intro w hSw;go_simp;with_reducible rfl
  (try simp only[Act.put,sIx,sZ0,sZ1])
  refine takeH (some 5) (i:=7) (v:=?_) rfl (by kernel_rfl) (by kernel_rfl) (by kernel_rfl) (fun _ _ _ h=>h) (Or.inl ⟨by rfl,?_⟩) hHeld rfl ?_
  rotate_left
  ·intro w hSw;go_simp;with_reducible rfl
  (try simp only[Act.put,sIx,sZ0,sZ1])
  refine takeH (some 6) (i:=8) (v:=?_) rfl (by kernel_rfl) (by kernel_rfl) (by kernel_rfl) (fun _ _ _ h=>h) (Or.inl ⟨by rfl,?_⟩) hHeld rfl ?_
  rotate_left
  ·intro w hSw;go_simp;with_reducible rfl
  (try simp only[Act.put,sIx,sZ0,sZ1])
  refine wpAnyH_done (by kernel_rfl) ?_ _
  refine NoPanic.normal ?_
  have HT6:=mkHid (HT3.out.on hz02)
  have HK6:=mkHid (HK3.out.trans (KS.of_below hz02 (spcOK.lo HX3.out)))
  clear hD hz01 hz02 hz1 hz2 hkk hvv HX3 HT3 HBl HK3 HKey HVal HIt
  go_wp2_with fail
  go_ret2
  exact⟨⟨m,j,root,SS,rfl,by omega,by rw[if_neg (by rw[hit];simp)];exact HT6.out⟩,HK6.out⟩
theorem SrtE.tail13 {e:Et}{l:List Et}(h:SrtE (e::l)):SrtE l:=(List.pairwise_cons.1 h).2
theorem has_mem {l:List Et}(h:SrtE l)(b:List UInt8):hasE13 l b=true↔∃e∈l,e.k=b:=by
 induction l with
 | nil=>exact⟨(fun h=>by cases h),(fun ⟨_,hm,_⟩=>by cases hm)⟩
 | cons e l ih =>
  have ih:=ih h.tail13
  rw[has_cons]
  by_cases h1:Op.bytesLess e.k b=true
  ·rw[if_pos h1,ih]
   constructor
   ·rintro⟨x,hx,hb⟩;exact⟨x,List.mem_cons_of_mem _ hx,hb⟩
   ·rintro⟨x,hx,hb⟩
    rcases List.mem_cons.1 hx with rfl|hx
    ·rw[hb,lt_irr] at h1;cases h1
    ·exact⟨x,hx,hb⟩
  ·rw[if_neg h1]
   constructor
   ·intro h2;exact⟨e,List.mem_cons_self,by simpa using h2⟩
   ·rintro⟨x,hx,hb⟩
    rcases List.mem_cons.1 hx with rfl|hx
    ·simp[hb]
    ·have h3:=(List.pairwise_cons.1 h).1 x hx
     rw[hb] at h3
     exact absurd h3 h1
theorem put_mem {l:List Et}{k v b:List UInt8}:(∃e∈putE13 l k v,e.k=b)↔b=k∨∃e∈l,e.k=b:=by
 constructor
 ·rintro⟨e,he,hb⟩
  rcases mem_put he with rfl|h
  ·exact .inl hb.symm
  ·exact .inr ⟨e,h,hb⟩
 ·intro h
  by_cases hbk:b=k
  ·exact⟨⟨k,v⟩,by unfold putE13;simp,hbk.symm⟩
  ·obtain⟨e,he,hb⟩:=h.resolve_left hbk
   refine⟨e,?_,hb⟩
   unfold putE13
   have h1:e∈l.take (atE l k)++l.drop (atE l k):=by rw[List.take_append_drop];exact he
   rcases List.mem_append.1 h1 with h2|h2
   ·exact List.mem_append_left _ h2
   ·refine List.mem_append_right _ (List.mem_cons_of_mem _ ?_)
    split
    ·rename_i hi
     unfold isE at hi
     rw[Bool.and_eq_true] at hi
     have hlt:atE l k<l.length:=of_decide_eq_true hi.1
     rw[List.drop_eq_getElem_cons hlt] at h2
     rcases List.mem_cons.1 h2 with rfl|h3
     ·have h4:(l.getD (atE l k) et0).k=k:=by simpa using hi.2
      rw[List.getD_eq_getElem?_getD,List.getElem?_eq_getElem hlt] at h4
      exact absurd (hb.symm.trans h4) hbk
     ·exact h3
    ·exact h2
theorem put_length (l:List Et)(k v:List UInt8):(putE13 l k v).length=if hasE13 l k=true then l.length else l.length+1:=by
 unfold putE13 hasE13
 have h0:=atE_le l k
 rw[List.length_append,List.length_take,List.length_cons]
 split
 ·rename_i hi
  unfold isE at hi
  rw[Bool.and_eq_true] at hi
  have hlt:atE l k<l.length:=of_decide_eq_true hi.1
  rw[List.length_drop];omega
 ·rw[List.length_drop];omega
theorem get_mem {l:List Et}(h:SrtE l){e:Et}(he:e∈l):getE13 l e.k=e.v∧hasE13 l e.k=true:=by
 refine⟨?_,(has_mem h _).2 ⟨e,he,rfl⟩⟩
 induction l with
 | nil=>cases he
 | cons x l ih =>
  rw[get_cons]
  rcases List.mem_cons.1 he with rfl|he
  ·rw[if_neg (by rw[lt_irr];simp),if_pos rfl]
  ·rw[if_pos ((List.pairwise_cons.1 h).1 e he)]
   exact ih h.tail13 he
structure Keys13 (ks:List Bq)(l:List Et):Prop where
 srt:SrtE l
 mem:∀b,(∃x∈ks,x.1=b)↔∃e∈l,e.k=b
 len:ks.length=l.length
 ok:∀e∈l,keyOk e.k=true
theorem Keys13.nil:Keys13 [][]:=⟨List.Pairwise.nil,fun b=>⟨(fun ⟨_,h,_⟩=>by cases h),(fun ⟨_,h,_⟩=>by cases h)⟩,rfl,(fun _ h=>by cases h)⟩
theorem Keys13.inB {ks:List Bq}{l:List Et}(h:Keys13 ks l)(b:List UInt8):inB ks b=hasE13 l b:=by
 rw[Bool.eq_iff_iff,has_mem h.srt,←h.mem]
 unfold Proofs.YtpecobmfabmpkaaGreatDoor.inB
 rw[decide_eq_true_eq]
theorem key_of_item {k v:List UInt8}(h:itemOk k v=true):keyOk k=true:=by
 unfold itemOk at h
 rw[Bool.and_eq_true] at h
 exact h.1
theorem Keys13.put {ks:List Bq}{l:List Et}(h:Keys13 ks l){k v:List UInt8}(hk:itemOk k v=true)(q:Option Addr × Nat):Keys13 (if hasE13 l k=true then ks else ks++[(k,q)]) (putE13 l k v):=by
 refine⟨h.srt.put k v,fun b=>?_,?_,fun e he=>?_⟩
 ·rw[put_mem,←h.mem]
  split
  ·rename_i hh
   rw[has_mem h.srt,←h.mem] at hh
   constructor
   ·exact .inr
   ·rintro(rfl|h1)
    ·exact hh
    ·exact h1
  ·constructor
   ·rintro⟨x,hx,hb⟩
    rcases List.mem_append.1 hx with h1|h1
    ·exact .inr ⟨x,h1,hb⟩
    ·rw[List.mem_singleton.1 h1] at hb;exact .inl hb.symm
   ·rintro(rfl|⟨x,hx,hb⟩)
    ·exact⟨_,List.mem_append_right _ (List.mem_singleton.2 rfl),rfl⟩
    ·exact⟨x,List.mem_append_left _ hx,hb⟩
 ·rw[put_length]
  split
  ·exact h.len
  ·rw[List.length_append,List.length_singleton,h.len]
 ·rcases mem_put he with rfl|h1
  ·exact key_of_item hk
  ·exact h.ok e h1
abbrev rtB13:RT Bq:=⟨59,33,1,24,.slice none 0 0,fun x=>[.slice x.2.1 x.1.length x.2.2]⟩
theorem okB13:RtOK rtB13 :=
 ⟨Tryz.underlying59,by kernel_rfl,rfl,by intro u hu;simp[Value.cells] at hu;subst hu;rfl,by decide,by decide,fun _=>rfl,by
  intro x u hu
  simp only[List.mem_cons,List.not_mem_nil,or_false] at hu
  subst hu;rfl⟩
structure KsAt (base:Nat)(w:World)(v:Value)(ks:List Bq):Prop where
 own:OwnRw rtB13 w base v ks
 b:∀x∈ks,BsP base w x.2.1 x.1.length x.2.2 x.1
theorem KsAt.nil (base:Nat)(w:World):KsAt base w (.slice none 0 0) []:=⟨OwnRw.nil _ _ _,fun x hx=>by cases hx⟩
theorem KsAt.on {base:Nat}{w w':World}{v:Value}{ks:List Bq}(h:KsAt base w v ks)(hb:Below w.heap.size w w'):KsAt base w' v ks:=⟨h.own.on hb,fun x hx=>(h.b x hx).below hb⟩
theorem KsAt.ks {base:Nat}{w w':World}{v:Value}{ks:List Bq}(h:KsAt base w v ks)(hk:KS base w w'):KsAt base w' v ks:=⟨h.own.keep hk.o (by decide),fun x hx=>(h.b x hx).keep (KeepU.ofB (hk.o.less (by decide)) hk.b (Nat.le_refl _))⟩
theorem KsAt.form {base:Nat}{w:World}{v:Value}{ks:List Bq}(h:KsAt base w v ks):∃a c,v=.slice a ks.length c∧IsBs13 w a ks.length ks:=by
 obtain⟨a,c,rfl,_,_⟩:=h.own.form okB13
 have hr:=h.own.row okB13
 refine⟨a,c,rfl,⟨rfl,fun hn=>?_⟩⟩
 obtain⟨g,off,e,_,hc⟩:=hr.cells hn
 refine⟨g,off,e,fun k x hx=>⟨?_,(h.b x (List.mem_of_getElem? hx)).is⟩⟩
 have h1:=hc k x hx 0 _ rfl
 simpa using h1
theorem lawInQ (l:List Bq)(bs:List UInt8)(a b:Option Addr)(n cap m d:Nat)(w:World)(h:IsBs13 w a n l)(hb:IsB w b m d bs)(hn:n≤9223372036854775806):
  Calls Tryz.prog 29 #[.slice a n cap,.slice b m d] w fun e w'=>e=.returned (.bool (inB l bs))∧∃z,w'=w.drewN z:=by
 have HL:=mkHid h.len
 have H:=mkHid h
 have HB:=mkHid hb
 clear h hb
 go_enter Tryz.func29,Tryz.ntmps29
 go_wp2_with fail
 go_loopw [5] (fun i wr=>∃k q:Nat,wr=w.drewN q∧k≤n∧i=.int .i64 (k:Int)∧Hid (∀(j:Nat) (x:Bq),j<k→l[j]?=some x→x.1≠bs)) (fun i _=>n-(Go.RowKit.intOf i).toNat)
 case atStart=>exact⟨0,0,rfl,Nat.zero_le _,rfl,fun j x hj=>absurd hj (Nat.not_lt_zero _)⟩
 case round =>
  obtain⟨k,q,rfl,hk,rfl,HE⟩:=hrel
  by_cases hlt:k<n
  ·have hlt':(k:Int)<(n:Int):=by omega
   have hk0:(0:Int)≤(k:Int):=by omega
   obtain⟨g,off,rfl,hc⟩:=H.out.cells (by omega)
   obtain⟨x,hx⟩:∃x,l[k]?=some x:=⟨l[k]'(by rw[HL.out];exact hlt),List.getElem?_eq_getElem _⟩
   obtain⟨c0,hi⟩:=hc k x hx
   have C0:∀z,((w.drewN q).drewN z).cell? ⟨g,off+k,none⟩=some (.slice x.2.1 x.1.length x.2.2):=fun z=>c0
   have V1:=fun z=>conv_isB ((w.drewN q).drewN z) _ _ _ _ (hi.below (bel_drewN (bel_drewN (Below.refl _ _) q) z) rfl)
   have V2:=fun z=>conv_isB ((w.drewN q).drewN z) _ _ _ _ (HB.out.below (bel_drewN (bel_drewN (Below.refl _ _) q) z) rfl)
   have HQq:Hid (∀z,∃y,(w.drewN q).drewN z=w.drewN y):=fun z=>⟨_,World.drewN_drewN ..⟩
   have HQe:Hid (∀z,∃y,(w.drewN q).drewN z=w.drewN y):=HQq
   have hE:((⟨x.1.toArray⟩:ByteArray).toList==(⟨bs.toArray⟩:ByteArray).toList)=(x.1==bs):=by rw[ByteArray.toList_eq,ByteArray.toList_eq]
   clear hc c0 hi
   generalize w.drewN q=W at *
   cases he:(x.1==bs) with
   | true =>
    rw[he] at hE
    have HV:=mkHid (inB_yes hx (by simpa using he))
    clear hx HE he
    generalize (⟨x.1.toArray⟩:ByteArray)=s1 at *
    generalize (⟨bs.toArray⟩:ByteArray)=s2 at *
    generalize x.1.length=xk at *
    go_wp2_with fail
    go_quiet (fail)
    go_wp2_with fail
    go_ret
    exact⟨ret_b HV.out.symm,HQe.out _⟩
   | false =>
    rw[he] at hE
    have HE2:Hid (∀(j:Nat) (x:Bq),j<k+1→l[j]?=some x→x.1≠bs):=fun j y hj hy=>by
     by_cases e:j=k
     ·subst e;rw[hx] at hy;rw[←Option.some.inj hy];simpa using he
     ·exact HE.out j y (by omega) hy
    clear hx HE he
    generalize (⟨x.1.toArray⟩:ByteArray)=s1 at *
    generalize (⟨bs.toArray⟩:ByteArray)=s2 at *
    generalize x.1.length=xk at *
    go_wp2_with fail
    go_quiet (fail)
    go_wp2_with fail
    go_roundw
    case rel =>
     obtain⟨y2,hy2⟩:=HQq.out nq
     exact⟨k+1,y2,hy2,by omega,by go_num,HE2⟩
    case measure=>simp[Go.RowKit.intOf];omega
  ·have hlt':¬(k:Int)<(n:Int):=by omega
   have HV:=mkHid (inB_no (l:=l) (b:=bs) (fun j x hx=>HE.out j x (by have:=(List.getElem?_eq_some_iff.1 hx).1;have:=HL.out;omega) hx))
   have HQe:Hid (∀z,∃y,w.drewN z=w.drewN y):=fun z=>⟨z,rfl⟩
   go_wp2_with fail
   go_ret
   exact⟨ret_b HV.out.symm,HQe.out _⟩
theorem ScanR.isEs {l:List Et}{fr:List UInt8}{most:Int}{B:Nat}{v:Value}{w':World}(h:ScanR l fr most B v w'):∃a c L,v=.slice a L.length c∧IsEs w' a L.length L∧L.map Prod.fst=scanE13 l fr most∧L.length≤c:=by
 obtain⟨L,hO,he,hx⟩:=h
 obtain⟨a,c,rfl,hle,-⟩:=hO.form
 refine⟨a,c,L,rfl,⟨rfl,fun hn=>?_⟩,he,hle⟩
 obtain⟨g,rfl,_,_,_⟩:=hO.at_ 0 hn
 refine⟨g,0,rfl,fun k x hx2=>?_⟩
 obtain⟨hk,rfl⟩:=List.getElem?_eq_some_iff.1 hx2
 obtain⟨g',hg',_,_,hc⟩:=hO.at_ k hk
 obtain rfl:=(Addr.mk.inj (Option.some.inj hg')).1
 have h0:=hc 0 (by omega)
 have h1:=hc 1 (by omega)
 rw[Nat.zero_add]
 exact⟨h0,h1,(hx _ (List.getElem_mem hk)).is⟩
end
end Go.Proofs.YtpecobmfabmpkaaGreatDoor
