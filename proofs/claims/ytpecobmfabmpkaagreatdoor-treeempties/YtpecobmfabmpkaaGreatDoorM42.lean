/- Bl6 Tr3 Tr4 Tr5 Tr6 Tr7 TsA Bl7 Tr8 Tr9 TrA TrB MarkB TsB TrC TsC -/
import Derived.Test.YtpecobmfabmpkaaGreatDoorM41
import Derived.Lib.SlBytesConst
set_option maxRecDepth 20000
set_option maxHeartbeats 4000000
namespace Go.Proofs.YtpecobmfabmpkaaGreatDoor
open Go.RowKit
theorem own_lit (w:World)(base:Nat)(l:List UInt8)(hb:base≤w.heap.size)(hm:l.length≤maxLen):OwnB (w.alloc (.cells (bv l).toArray 5)) base (.slice (some ⟨w.heap.size,0,none⟩) l.length l.length) l :=
 ⟨by rw[bv_length,Nat.mul_one],.inr ⟨w.heap.size,l.length,(bv l).toArray,rfl,hb,heap_alloc_new w _,Nat.le_refl _,hm,by simp[bv_length],by rw[Nat.mul_one,←bv_length l];simp⟩⟩
def KeyPost (fl:Nat)(k:List UInt8)(e:Ending)(w':World):Prop:=∃a c,e=.returned (.slice a k.length c)∧∀W,KeepU fl [5] w' W→IsB W a k.length c k
variable {fl:Nat}
end Go.Proofs.YtpecobmfabmpkaaGreatDoor
namespace Go.Proofs.YtpecobmfabmpkaaGreatDoor
open Go.RowKit
abbrev t0:Tl:=⟨[],false⟩
structure TJ (w:World)(J P base m n:Nat)(j:Jl)(root:Nat)(l:List Et)(SS:List Int):Prop where
 ja:JAt w J P base j
 tk:Tk t0 j m SS
 tr:TR t0 j root l SS
 n:j.p.n=n
theorem TJ.pages {w:World}{J P base m n:Nat}{j:Jl}{root:Nat}{l:List Et}{SS:List Int}(h:TJ w J P base m n j root l SS):(SS.length=0↔l.length=0)∧SS.length≤2 * l.length-1∧SS.length≤l.length+1:=h.tr.pages
theorem lawFreshN (n:Nat)(h0:64≤n)(h1:n≤4096)(w:World)(base:Nat)(hbase:base≤w.heap.size):
  Calls Tryz.prog 9 #[.int .i64 (n:Int)] w fun e w'=>(∃J S P,e=.returned (.tuple #[.pointer (some ⟨J,0,none⟩),.pointer (some ⟨S,0,none⟩)])∧Hid (SpAx w' S J P base t0 ⟨Pl.new n,0,false⟩))∧Hid (KS base w w'):=by
 have HN:Calls Tryz.prog 34 #[.int .i64 (n:Int)] w fun e w'=>(∃P,e=.returned (.tuple #[.pointer (some ⟨P,0,none⟩),.int .i64 0])∧IsD0 w' P base (Pl.new n))∧Below w.heap.size w w':=by
  refine(codNew (fun _=>False) (n:Int) w base hbase (fun _ h=>h.elim)).mono ?_
  rintro e w' ⟨h1,h2⟩
  simp only[if_pos (show (64:Int)≤(n:Int)∧(n:Int)≤4096 by omega)] at h1
  rw[show (n:Int).toNat=n by omega] at h1
  exact⟨h1,h2⟩
 have HBs:=mkHid hbase
 have hmn:=mountN n h0 h1
 have hfw:=few_mnew n h0 h1
 have hft:=newFit n h0 h1
 go_enter Tryz.func9,Tryz.ntmps9
 go_wp2_with fail
 refine HN.mono ?_
 rintro e x1 ⟨⟨P,rfl,hI1⟩,hb1⟩
 have HK1:=mkHid (KS.of_below hb1 HBs.out)
 have HM:=jMount jrnOK hI1 hfw (by omega) hmn.1
 rw[hmn.2.1,hmn.2.2] at HM
 clear HN hI1 hb1
 go_wp2_with fail
 refine HM.mono ?_
 rintro e x2 ⟨⟨J,rfl,hJ2⟩,hk2⟩
 have HK2:=mkHid (HK1.out.trans (KS.ofP hk2))
 have HO:=spcOK.open_ x2 J P base 50 ⟨Pl.new n,0,false⟩ hJ2 hft
 clear HM hJ2 hk2
 go_wp2_with fail
 refine HO.mono ?_
 rintro e x3 ⟨⟨S,rfl,hS3⟩,hk3⟩
 have HK3:=mkHid (HK2.out.trans hk3)
 clear HO hk3
 go_wp2_with fail
 go_ret2
 exact⟨⟨J,S,P,rfl,hS3⟩,HK3⟩
theorem tr_new (n:Nat):TR t0 ⟨Pl.new n,0,false⟩ 0 [] []:=⟨List.Pairwise.nil,.inl ⟨rfl,rfl,rfl⟩⟩
theorem tj_new {w:World}{S J P base n:Nat}(h0:64≤n)(h1:n≤4096)(h:SpAx w S J P base t0 ⟨Pl.new n,0,false⟩):TJ w J P base 50 n ⟨Pl.new n,0,false⟩ 0 [] []:=⟨spcOK.toJ h,tk_new n h0 h1,tr_new n,rfl⟩
theorem treeOpen {w:World}{J P base m n:Nat}{j:Jl}{root:Nat}{l:List Et}{SS:List Int}(h:TJ w J P base m n j root l SS):
  Calls Tryz.prog 10 #[.pointer (some ⟨J,0,none⟩)] w fun e w'=>(∃S,e=.returned (.tuple #[.pointer (some ⟨S,0,none⟩),.int .i64 0])∧SpAx w' S J P base t0 j)∧KS base w w':=spcOK.open_ w J P base m j h.ja h.tk.fit
theorem treeCommit {w:World}{S J P base m n:Nat}{t:Tl}{j:Jl}{root:Nat}{l:List Et}{SS:List Int}(h:SpAx w S J P base t j)(hk:Tk t j m SS)(ht:TR t j root l SS)(hn:j.p.n=n)(hm:m+150≤80000):
  Calls Tryz.prog 26 #[.pointer (some ⟨S,0,none⟩)] w fun e w'=>e=.returned (.int .i64 0)∧TJ w' J P base (m+150) n (cmJ t j) root l SS∧KS base w w':=by
 obtain⟨e1,e2,e3⟩:=hk.commit hm
 have H:=spcOK.commit w S J P base m t j h hk.fit
 rw[e1] at H
 refine H.mono ?_
 rintro e w' ⟨he,hj,hks⟩
 refine⟨he,⟨hj,e2,ht.same fun k hkS=>?_,e3.trans hn⟩,hks⟩
 have hr:=hk.rng _ hkS
 exact cm_spRd hk.fit hk.sort k (by omega) (by omega)
theorem IsB.bsp {fl:Nat}{w:World}{a:Option Addr}{n c:Nat}{l:List UInt8}(h:∀W,KeepU fl [5] w W→IsB W a n c l):BsP fl w a n c l:=fun W hW=>h W (hW.less (by decide))
theorem EtQ.of {fl:Nat}{w:World}{k v:List UInt8}{ka va:Option Addr}{kc vc:Nat}(h1:BsP fl w ka k.length kc k)(h2:BsP fl w va v.length vc v):EtQ fl w ⟨k,v⟩ ⟨ka,kc,va,vc⟩:=fun W hW=>⟨h1 W hW,h2 W hW⟩
theorem own_bsp {fl:Nat}{w:World}{base n c:Nat}{a:Option Addr}{l:List UInt8}(hn:n=l.length)(h:OwnB w base (.slice a n c) l):BsP fl w a n c l:=fun W hW=>by
 have h2:OwnB W base (.slice a n c) l:=own_keepO hW.o h (by decide)
 have h3:=own_isB h2
 rw[←hn] at h3
 exact h3
variable {fl:Nat}
end Go.Proofs.YtpecobmfabmpkaaGreatDoor
namespace Go.Proofs.YtpecobmfabmpkaaGreatDoor
open Go.RowKit
variable {fl:Nat}
end Go.Proofs.YtpecobmfabmpkaaGreatDoor
namespace Go.Proofs.YtpecobmfabmpkaaGreatDoor
open Go.RowKit
theorem bsp_marked {fl:Nat}(w:World)(l:List UInt8)(fr:Nat × Nat)(hm:l.length≤maxLen):BsP fl (w.alloc (.cells (bv l).toArray 5 fr)) (some ⟨w.heap.size,0,none⟩) l.length l.length l:=fun W hW =>
 ⟨rfl,Nat.le_refl _,hm,(fun e=>by cases e),fun _=>⟨w.heap.size,0,rfl,fun i hi=>by
  have h:=bv_at l i hi
  have hh:(w.alloc (.cells (bv l).toArray 5 fr)).heap[w.heap.size]?=some (.cells (bv l).toArray 5 fr):=by
   show (w.heap.push _)[w.heap.size]?=_
   simp
  have hh2:=hW.o.same _ _ _ _ hh (by decide)
  rw[Nat.zero_add]
  unfold World.cell?
  dsimp only
  rw[hh2]
  simpa using h⟩⟩
def LitPost (w:World)(S J P base m:Nat)(t:Tl)(j:Jl)(l:List Et)(r:Ending)(w':World):Prop:=(∃t' root' S',r=.returned (.tuple #[.int .i64 ((root':Nat):Int),.int .i64 0])∧SpAx w' S J P base t' j∧Tk t' j m S'∧TR t' j root' l S'∧t'.l.length≤t.l.length+7)∧KS base w w'
theorem putLit (w:World)(S J P base m:Nat)(t:Tl)(j:Jl)(root:Nat)(l:List Et)(SS:List Int)(k v:UInt8)(h:SpAx w S J P base t j)(hk:Tk t j m SS)(ht:TR t j root l SS)(hroom:t.l.length+8≤48)(hl:l.length≤190)(hdisk:SS.length+3<j.p.n-51):
  Calls Tryz.prog 13 #[.pointer (some ⟨S,0,none⟩),.int .i64 (root:Int),.slice (some ⟨w.heap.size,0,none⟩) 1 1,.slice (some ⟨w.heap.size+1,0,none⟩) 1 1] ((w.alloc (.cells #[.int .u8 (k.toNat:Int)] 5 (1,2))).alloc (.cells #[.int .u8 (v.toNat:Int)] 5)) (LitPost w S J P base m t j (putE13 l [k] [v])):=by
 have hlo:=spcOK.lo h
 have b1:BsP 0 (w.alloc (.cells #[.int .u8 (k.toNat:Int)] 5 (1,2))) (some ⟨w.heap.size,0,none⟩) 1 1 [k]:=bsp_marked w [k] (1,2) (by unfold maxLen;simp)
 have b2:BsP 0 ((w.alloc (.cells #[.int .u8 (k.toNat:Int)] 5 (1,2))).alloc (.cells #[.int .u8 (v.toNat:Int)] 5)) (some ⟨w.heap.size+1,0,none⟩) 1 1 [v]:=by
  have:=bsp_marked (fl:=0) (w.alloc (.cells #[.int .u8 (k.toNat:Int)] 5 (1,2))) [v] (0,0) (by unfold maxLen;simp)
  have e1:(w.alloc (.cells #[.int .u8 (k.toNat:Int)] 5 (1,2))).heap.size=w.heap.size+1:=by simp
  rw[e1] at this
  exact this
 have W1:Below w.heap.size w ((w.alloc (.cells #[.int .u8 (k.toNat:Int)] 5 (1,2))).alloc (.cells #[.int .u8 (v.toNat:Int)] 5)):=((Below.refl _ w).alloc (Nat.le_refl _) _).alloc (by simp) _
 have b1':=b1.keep (KeepU.of_below ((Below.refl _ (w.alloc (.cells #[.int .u8 (k.toNat:Int)] 5 (1,2)))).alloc (Nat.le_refl _) (.cells #[.int .u8 (v.toNat:Int)] 5)))
 have H:=codPut13 _ S J P base m t j root l SS ⟨[k],[v]⟩ ⟨some ⟨w.heap.size,0,none⟩,1,some ⟨w.heap.size+1,0,none⟩,1⟩ (SpAx.keep h (KeepT.of_below W1)) hk ht (EtQ.of b1' b2) rfl hroom hl hdisk
 refine H.mono ?_
 rintro r w' ⟨h1,h2⟩
 exact⟨h1,(KS.of_below W1 hlo).trans h2⟩
def tree3:List Et:=putE13 (putE13 (putE13 [] [98] [1]) [97] [2]) [99] [3]
theorem scan3:scanE13 tree3 [98] 9=[⟨[98],[1]⟩,⟨[99],[3]⟩]:=by decide
theorem lawAlive13 (w:World):
  Calls Tryz.prog 8 #[] w fun e w'=>e=.returned (.bool true)∧Below w.heap.size w w':=by
 have HF:=lawFreshN 64 (by omega) (by omega) w w.heap.size (Nat.le_refl _)
 rw[show ((64:Nat):Int)=64 from rfl] at HF
 have hcv:=fun (b:UInt8) (W:World)=>Lib.run_convert_bytes_const (P:=Tryz.prog) W 33 5 #[.int .u8 (b.toNat:Int)] 1 1 Tryz.underlying33 Tryz.underlying5
 have hcb:∀W:World,_:=hcv 98
 have hca:∀W:World,_:=hcv 97
 have hcc:∀W:World,_:=hcv 99
 change ∀W:World,(convert 33 33 (.slice (some ⟨W.heap.size,0,none⟩) 1 1)).run Tryz.prog (W.alloc (.cells #[.int .u8 98] 5))=.ok (.slice (some ⟨W.heap.size,0,none⟩) 1 1) (W.alloc (.cells #[.int .u8 98] 5 (1,2))) at hcb
 change ∀W:World,(convert 33 33 (.slice (some ⟨W.heap.size,0,none⟩) 1 1)).run Tryz.prog (W.alloc (.cells #[.int .u8 97] 5))=.ok (.slice (some ⟨W.heap.size,0,none⟩) 1 1) (W.alloc (.cells #[.int .u8 97] 5 (1,2))) at hca
 change ∀W:World,(convert 33 33 (.slice (some ⟨W.heap.size,0,none⟩) 1 1)).run Tryz.prog (W.alloc (.cells #[.int .u8 99] 5))=.ok (.slice (some ⟨W.heap.size,0,none⟩) 1 1) (W.alloc (.cells #[.int .u8 99] 5 (1,2))) at hcc
 clear hcv
 go_enter Tryz.func8,Tryz.ntmps8
 go_wp2_with fail
 refine HF.mono ?_
 rintro e x1 ⟨⟨J,S,P,rfl,hS1⟩,hk1⟩
 have H1:=putLit x1 S J P w.heap.size 50 t0 ⟨Pl.new 64,0,false⟩ 0 [] [] 98 1 hS1.out (tk_new 64 (by omega) (by omega)) (tr_new 64) (by show 0+8≤48;omega) (by show 0≤190;omega) (by show 0+3<64-51;omega)
 change Calls Tryz.prog 13 #[.pointer (some ⟨S,0,none⟩),.int .i64 0,.slice (some ⟨x1.heap.size,0,none⟩) 1 1,.slice (some ⟨x1.heap.size+1,0,none⟩) 1 1] ((x1.alloc (.cells #[.int .u8 98] 5 (1,2))).alloc (.cells #[.int .u8 1] 5)) _ at H1
 have HK1:=mkHid hk1.out
 clear HF hS1 hk1
 go_wp2_with fail
 refine H1.mono ?_
 rintro e x2 ⟨⟨t2,r2,S2,rfl,hA2,hT2,hR2,hl2⟩,hk2⟩
 change t2.l.length≤0+7 at hl2
 have hp2:=hR2.pages.2.2
 change S2.length≤1+1 at hp2
 have HK2:=mkHid (HK1.out.trans hk2)
 have H2:=putLit x2 S J P w.heap.size 50 t2 ⟨Pl.new 64,0,false⟩ r2 _ S2 97 2 hA2 hT2 hR2 (by omega) (by decide) (by show _<64-51;omega)
 change Calls Tryz.prog 13 #[.pointer (some ⟨S,0,none⟩),.int .i64 (r2:Int),.slice (some ⟨x2.heap.size,0,none⟩) 1 1,.slice (some ⟨x2.heap.size+1,0,none⟩) 1 1] ((x2.alloc (.cells #[.int .u8 97] 5 (1,2))).alloc (.cells #[.int .u8 2] 5)) _ at H2
 clear H1 hk2 HK1 hA2 hT2 hR2
 go_wp2_with fail
 refine H2.mono ?_
 rintro e x3 ⟨⟨t3,r3,S3,rfl,hA3,hT3,hR3,hl3⟩,hk3⟩
 have hp3:=hR3.pages.2.2
 change S3.length≤2+1 at hp3
 have HK3:=mkHid (HK2.out.trans hk3)
 have H3:=putLit x3 S J P w.heap.size 50 t3 ⟨Pl.new 64,0,false⟩ r3 _ S3 99 3 hA3 hT3 hR3 (by omega) (by decide) (by show _<64-51;omega)
 change Calls Tryz.prog 13 #[.pointer (some ⟨S,0,none⟩),.int .i64 (r3:Int),.slice (some ⟨x3.heap.size,0,none⟩) 1 1,.slice (some ⟨x3.heap.size+1,0,none⟩) 1 1] ((x3.alloc (.cells #[.int .u8 99] 5 (1,2))).alloc (.cells #[.int .u8 3] 5)) _ at H3
 clear H2 hk3 HK2 hA3 hT3 hR3
 go_wp2_with fail
 refine H3.mono ?_
 rintro e x4 ⟨⟨t4,r4,S4,rfl,hA4,hT4,hR4,hl4⟩,hk4⟩
 have HK4:=mkHid (HK3.out.trans hk4)
 have W5:Below x4.heap.size x4 (x4.alloc (.cells #[.int .u8 98] 5 (1,2))):=(Below.refl _ x4).alloc (Nat.le_refl _) _
 have o5:BsP 0 (x4.alloc (.cells #[.int .u8 98] 5 (1,2))) (some ⟨x4.heap.size,0,none⟩) 1 1 [98]:=bsp_marked x4 [98] (1,2) (by unfold maxLen;simp)
 have H4:=codScan13 _ S J P w.heap.size 50 t4 ⟨Pl.new 64,0,false⟩ r4 _ S4 (some ⟨x4.heap.size,0,none⟩) 1 1 [98] 9 (SpAx.keep hA4 (KeepT.of_below W5)) hT4 hR4 o5
 have HW5:=mkHid W5
 clear H3 hk4 HK3 hA4 hT4 hR4 W5 o5
 go_wp2_with fail
 refine H4.mono ?_
 rintro e x6 ⟨⟨v6,rfl,hsc⟩,hb6⟩
 have HB6:Hid (Below w.heap.size w x6):=HK4.out.b.trans ((HW5.out.trans (hb6.mono HW5.out.size)).mono HK4.out.b.size)
 obtain⟨L,hO,hLe,hLi⟩:=hsc
 change _=scanE13 tree3 [98] 9 at hLe
 rw[scan3] at hLe
 have hl2:L.length=2:=by have:=congrArg List.length hLe;simpa using this
 obtain⟨⟨e1,q1⟩,L,rfl⟩:=List.exists_cons_of_length_eq_add_one hl2
 obtain⟨⟨e2,q2⟩,L,rfl⟩:=List.exists_cons_of_length_eq_add_one (Nat.succ.inj hl2)
 obtain rfl:L=[]:=List.length_eq_zero_iff.1 (Nat.succ.inj (Nat.succ.inj hl2))
 simp only[List.map_cons,List.map_nil,List.cons.injEq,and_true] at hLe
 obtain⟨rfl,rfl⟩:=hLe
 obtain⟨va,vc,rfl,_⟩:=hO.form
 obtain⟨g,rfl,_,_,hc0⟩:=hO.at_ 0 (by simp)
 obtain⟨g',hg',_,_,hc1⟩:=hO.at_ 1 (by simp)
 obtain rfl:=(Addr.mk.inj (Option.some.inj hg')).1
 have C0:x6.cell? ⟨g,0,none⟩=some (.slice q1.a 1 q1.c):=hc0 0 (by omega)
 have C1:x6.cell? ⟨g,3,none⟩=some (.slice q2.b 1 q2.d):=hc1 1 (by omega)
 have i1:=(hLi _ (List.mem_cons_self)).is.k
 have i2:=(hLi (⟨[99],[3]⟩,q2) (List.mem_cons_of_mem _ List.mem_cons_self)).is.v
 have V1:=conv_isB x6 _ _ _ _ i1
 obtain⟨b2,o2,e2,hc2⟩:=i2.cells (Nat.lt_add_one 0)
 have D1:x6.cell? ⟨b2,o2,none⟩=some (.int .u8 3):=hc2 0 (Nat.lt_add_one 0)
 clear hO hLi hc0 hc1 i1 i2 hc2 hb6 H4
 simp only[List.length_cons,List.length_nil] at V1
 obtain⟨a2,c2,qb,d2⟩:=q2
 change qb=_ at e2
 subst e2
 change x6.cell? ⟨g,3,none⟩=some (.slice (some ⟨b2,o2,none⟩) 1 d2) at C1
 go_wp2_with fail
 go_ret
 exact⟨rfl,HB6.out⟩
def keyN (i:Nat):List UInt8:=[UInt8.ofNat (97+i/26),UInt8.ofNat (97+i%26),UInt8.ofNat i]
theorem lawKeyN13 (i:Nat)(w:World)(hi:i≤80):
  Calls Tryz.prog 31 #[.int .i64 (i:Int)] w fun e w'=>KeyPost 0 (keyN i) e w'∧Below w.heap.size w w':=by
 have q1:(i:Int).tdiv 26=((i/26:Nat):Int):=by rw[Int.tdiv_eq_ediv_of_nonneg (by omega)];omega
 have q2:(i:Int).tmod 26=((i%26:Nat):Int):=by rw[Int.tmod_eq_emod_of_nonneg (by omega)];omega
 have v1:(97:Int)+((i/26:Nat):Int)=((UInt8.ofNat (97+i/26)).toNat:Int):=by rw[UInt8.toNat_ofNat'];omega
 have v2:(97:Int)+((i%26:Nat):Int)=((UInt8.ofNat (97+i%26)).toNat:Int):=by rw[UInt8.toNat_ofNat'];omega
 have v3:(i:Int)=((UInt8.ofNat i).toNat:Int):=by rw[UInt8.toNat_ofNat'];omega
 have b1:i/26<5:=by omega
 have b2:i%26<26:=by omega
 have HM:Hid (keyN i=[UInt8.ofNat (97+i/26),UInt8.ofNat (97+i%26),UInt8.ofNat i]):=rfl
 generalize UInt8.ofNat (97+i/26)=d1 at *
 generalize UInt8.ofNat (97+i%26)=d2 at *
 generalize UInt8.ofNat i=d3 at *
 generalize i/26=r1 at *
 generalize i%26=r2 at *
 have HO1:=mkHid (own_lit w w.heap.size [d1,d2,d3] (Nat.le_refl _) (by unfold maxLen;simp))
 have HB1:Hid (Below w.heap.size w (w.alloc (.cells (bv [d1,d2,d3]).toArray 5))):=(Below.refl _ w).alloc (Nat.le_refl _) _
 change Hid (OwnB (w.alloc (.cells #[.int .u8 (d1.toNat:Int),.int .u8 (d2.toNat:Int),.int .u8 (d3.toNat:Int)] 5)) w.heap.size (.slice (some ⟨w.heap.size,0,none⟩) 3 3) [d1,d2,d3]) at HO1
 change Hid (Below w.heap.size w (w.alloc (.cells #[.int .u8 (d1.toNat:Int),.int .u8 (d2.toNat:Int),.int .u8 (d3.toNat:Int)] 5))) at HB1
 rw[←v1,←v2,←v3] at HO1 HB1
 clear v1 v2 v3
 go_enter Tryz.func31,Tryz.ntmps31
 go_wp2_with fail
 go_ret
 rw[HM.out]
 exact⟨⟨_,_,rfl,fun W hW=>own_isB (own_keepO hW.o HO1.out (by decide))⟩,HB1.out⟩
theorem u8_lt {a b:Nat}(ha:a<256)(hb:b<256)(h:a<b):UInt8.ofNat a<UInt8.ofNat b:=by
 rw[UInt8.lt_iff_toNat_lt,UInt8.toNat_ofNat',UInt8.toNat_ofNat'];omega
theorem keyN_lt {i j:Nat}(h:i<j)(hj:j≤80):Op.bytesLess (keyN i) (keyN j)=true:=by
 unfold keyN
 rw[lt_cons,lt_cons,lt_cons]
 by_cases h1:i/26<j/26
 ·have:=u8_lt (a:=97+i/26) (b:=97+j/26) (by omega) (by omega) (by omega)
  rw[decide_eq_true this];rfl
 ·have e:i/26=j/26:=by omega
  have:=u8_lt (a:=97+i%26) (b:=97+j%26) (by omega) (by omega) (by omega)
  rw[e,decide_eq_true this];simp
def kE (i:Nat):Et:=⟨keyN i,List.replicate 100 0⟩
def X13 (X:List Nat):Prop:=X.Pairwise (· < ·)∧∀x∈X,x<80
theorem kE_del {X:List Nat}(hX:X13 X){i:Nat}(hi:i<80):hasE13 (X.map kE) (keyN i)=decide (i∈X)∧delE13 (X.map kE) (keyN i)=(X.filter (fun x=>x != i)).map kE:=by
 induction X with
 | nil=>exact⟨by simp[has_nil],rfl⟩
 | cons x X ih =>
  have hX2:X13 X:=⟨(List.pairwise_cons.1 hX.1).2,fun y hy=>hX.2 y (List.mem_cons_of_mem _ hy)⟩
  have hx:=hX.2 x List.mem_cons_self
  have ih:=ih hX2
  rw[List.map_cons,has_cons,del_cons]
  rcases Nat.lt_trichotomy x i with h|h|h
  ·have hl:Op.bytesLess (kE x).k (keyN i)=true:=keyN_lt h (by omega)
   rw[if_pos hl,if_pos hl,ih.1,ih.2]
   have hne:(x != i)=true:=by simp;omega
   have hne2:¬i=x:=by omega
   exact⟨by simp[hne2],by rw[List.filter_cons,if_pos hne,List.map_cons]⟩
  ·subst h
   have hl:¬Op.bytesLess (kE x).k (keyN x)=true:=by rw[show (kE x).k=keyN x from rfl,lt_irr];simp
   rw[if_neg hl,if_neg hl,if_pos (show (kE x).k=keyN x from rfl)]
   refine⟨by simp[show (kE x).k=keyN x from rfl],?_⟩
   rw[List.filter_cons,if_neg (by simp),List.filter_eq_self.2 (fun y hy=>by have:=(List.pairwise_cons.1 hX.1).1 y hy;simp;omega)]
  ·have hl:Op.bytesLess (keyN i) (kE x).k=true:=keyN_lt h (by omega)
   have hl2:¬Op.bytesLess (kE x).k (keyN i)=true:=by rw[lt_no hl];simp
   have hne:=lt_ne hl
   have hni:¬i∈x::X:=fun hm=>by
    rcases List.mem_cons.1 hm with e|hm
    ·omega
    ·have:=(List.pairwise_cons.1 hX.1).1 i hm;omega
   rw[if_neg hl2,if_neg hl2,if_neg hne]
   refine⟨?_,?_⟩
   ·rw[decide_eq_false hni];simpa using hne
   ·rw[List.filter_eq_self.2 (fun y hy=>by have:y≠i:=fun e=>hni (e▸hy);simpa using this),List.map_cons]
theorem kE_put {i:Nat}{X:List Nat}(hX:∀x∈X,x<i)(hi:i<80)(v:List UInt8):putE13 (X.map kE) (keyN i) v=X.map kE++[⟨keyN i,v⟩]:=by
 induction X with
 | nil=>rfl
 | cons x X ih =>
  have hl:Op.bytesLess (kE x).k (keyN i)=true:=keyN_lt (hX x List.mem_cons_self) (by omega)
  rw[List.map_cons,put_cons,if_pos hl,ih (fun y hy=>hX y (List.mem_cons_of_mem _ hy))]
  rfl
theorem range_put {i:Nat}(hi:i<80):putE13 ((List.range i).map kE) (keyN i) (List.replicate 100 0)=(List.range (i+1)).map kE:=by
 rw[kE_put (fun x hx=>List.mem_range.1 hx) hi,List.range_succ,List.map_append];rfl
def goneB (step at_ i x:Nat):Bool:=decide (x%step<at_)||(decide (x%step=at_)&&decide (x<i))
def leftN (n step at_ i:Nat):List Nat:=(List.range n).filter (fun x => !goneB step at_ i x)
theorem leftN_ok {n step at_ i:Nat}(hn:n≤80):X13 (leftN n step at_ i):=⟨List.Pairwise.filter _ List.pairwise_lt_range,fun x hx=>by have:=List.mem_range.1 (List.mem_filter.1 hx).1;omega⟩
theorem leftN_0 (n step:Nat):leftN n step 0 0=List.range n:=by
 unfold leftN
 exact List.filter_eq_self.2 (fun x _=>by unfold goneB;simp)
theorem leftN_next {n step at_ i:Nat}(h:n≤i):leftN n step at_ i=leftN n step (at_+1) (at_+1):=by
 unfold leftN
 refine List.filter_congr fun x hx=>?_
 have hx:=List.mem_range.1 hx
 have hle:=Nat.mod_le x step
 unfold goneB
 congr 1
 rw[Bool.eq_iff_iff]
 simp only[Bool.or_eq_true,Bool.and_eq_true,decide_eq_true_eq]
 omega
theorem leftN_end {n step:Nat}(hs:0<step)(i:Nat):leftN n step step i=[]:=by
 unfold leftN
 refine List.filter_eq_nil_iff.2 fun x _=>?_
 have:=Nat.mod_lt x hs
 unfold goneB
 rw[decide_eq_true this];simp
theorem leftN_mem {n step at_ i:Nat}(hi:i<n)(hm:i%step=at_):i∈leftN n step at_ i:=by
 unfold leftN
 refine List.mem_filter.2 ⟨List.mem_range.2 hi,?_⟩
 unfold goneB
 simp[hm]
theorem mod_between {step i x:Nat}(h1:i≤x)(h2:x<i+step)(h:x%step=i%step):x=i:=by
 have h3:=Nat.sub_mod_eq_zero_of_mod_eq h
 rw[Nat.mod_eq_of_lt (by omega)] at h3
 omega
theorem leftN_step {n step at_ i:Nat}(hm:i%step=at_)(hs:0<step):(leftN n step at_ i).filter (fun x=>x != i)=leftN n step at_ (i+step):=by
 unfold leftN
 rw[List.filter_filter]
 refine List.filter_congr fun x hx=>?_
 unfold goneB
 rw[Bool.eq_iff_iff]
 simp only[Bool.and_eq_true,Bool.not_eq_true',Bool.or_eq_false_iff,Bool.and_eq_false_iff,decide_eq_false_iff_not,bne_iff_ne,ne_eq]
 constructor
 ·rintro⟨h1,h2,h3⟩
  refine⟨h2,?_⟩
  rcases h3 with h3|h3
  ·exact .inl h3
  ·by_cases h4:x%step=at_
   ·refine .inr fun h5=>h1 (mod_between (by omega) h5 (h4.trans hm.symm))
   ·exact .inl h4
 ·rintro⟨h1,h2⟩
  refine⟨?_,h1,?_⟩
  ·rintro rfl
   rcases h2 with h2|h2
   ·exact h2 hm
   ·omega
  ·rcases h2 with h2|h2
   ·exact .inl h2
   ·exact .inr (by omega)
theorem del_len1 {l:List Et}{key:List UInt8}(h:hasE13 l key=true):(delE13 l key).length+1=l.length:=by
 unfold hasE13 at h
 unfold delE13
 rw[if_pos h,List.length_append,List.length_take,List.length_drop]
 unfold isE at h
 have h2:atE l key<l.length:=by
  have:=(Bool.and_eq_true _ _▸h).1
  exact of_decide_eq_true this
 omega
theorem leftN_del {n step at_ i:Nat}(hn:n≤80)(hs:0<step)(hi:i<n)(hm:i%step=at_):
  hasE13 ((leftN n step at_ i).map kE) (keyN i)=true∧delE13 ((leftN n step at_ i).map kE) (keyN i)=(leftN n step at_ (i+step)).map kE∧(leftN n step at_ (i+step)).length+1=(leftN n step at_ i).length:=by
 have h:=kE_del (leftN_ok (step:=step) (at_:=at_) (i:=i) hn) (i:=i) (by omega)
 rw[decide_eq_true (leftN_mem hi hm),leftN_step hm hs] at h
 have h3:=del_len1 h.1
 rw[h.2,List.length_map,List.length_map] at h3
 exact⟨h.1,h.2,h3⟩
end Go.Proofs.YtpecobmfabmpkaaGreatDoor
