/- PtQ PtR PtS PuE0 PtT PtU PtV -/
import Derived.Test.YtpecobmfabmpkaaGreatDoorM11
import Derived.Lib.SliceRun
import Derived.Recover
set_option maxRecDepth 20000
set_option maxHeartbeats 4000000
namespace Go.Proofs.YtpecobmfabmpkaaGreatDoor
section
open Go.RowKit
variable {fl:Nat}
structure PgS (p:Pg):Prop where
 f:PgF p
 n:p.es.length+p.ks.length≤254
 sz:szL p.es+2 * p.ks.length≤509
 k:∀i∈p.ks,i<65536
 e:∀e∈p.es,e.k.length≤255∧e.v.length≤255
theorem KS.ue {base:Nat}{w w':World}(h:KS base w w')(hle:fl≤base):KeepU fl UE w w':=KeepU.ofB (h.o.less (by decide)) h.b hle
abbrev T13:List TypeId:=[30,4,133,64,87,144,50,215,3,33]
theorem SpAx.keep13 {w w':World}{S J P base:Nat}{t:Tl}{j:Jl}(h:SpAx w S J P base t j)(hk:KeepT T13 w w'):SpAx w' S J P base t j:=by
 obtain⟨T,g,c,h⟩:=h
 obtain⟨M,tr,ht⟩:=h.ta
 exact⟨T,g,c,⟨M,tr,⟨hk.blk ht.ja.blk (by decide),ht.ja.low,ht.ja.d.keep hk (by decide) (by decide) (by decide),ht.ja.seq⟩,hk.blk ht.blk (by decide),ht.low,ht.lowM,ownM_keep ht.own hk,ht.sort,ht.ok,ht.over⟩,hk.blk h.blk (by decide),h.low,own_keepO (KeepO.ofT (us:=[5]) hk (by decide)) h.own (by decide)⟩
theorem KeepT.grown1 {ts:List TypeId}{w w':World}{B ty:Nat}{cs:List Value}(hB:Blk w B ty cs)(ht:ty∈ts)(hg:w.grownBy w' (some B)):KeepT ts w w' :=
 ⟨hg.size,fun k o hk hno=>(hg.block k (Array.getElem?_eq_some_iff.1 hk).1 (fun e=>by
  have e2:=Option.some.inj e
  subst e2
  unfold Blk at hB
  rw[hk] at hB
  exact hno _ _ _ (Option.some.inj hB) ht)).trans hk⟩
theorem KS.mid {base:Nat}{w a b c:World}{B:Nat}(h1:KS base w a)(hg:a.grownBy b (some B))(hB:w.heap.size≤B)(hlo:base≤w.heap.size)(h3:KS base b c):KS base w c :=
 ⟨⟨Nat.le_trans h1.o.size (Nat.le_trans hg.size h3.o.size),fun k x t fz hk ht=>by
   have h4:=h1.o.same k x t fz hk ht
   have hkl:=(Array.getElem?_eq_some_iff.1 hk).1
   exact h3.o.same k x t fz ((hg.block k (Array.getElem?_eq_some_iff.1 h4).1 (fun e=>by have:=Option.some.inj e;omega)).trans h4) ht,
  fun k o hk ho=>by
   have h4:=h1.o.ctl k o hk ho
   have hkl:=(Array.getElem?_eq_some_iff.1 hk).1
   exact h3.o.ctl k o ((hg.block k (Array.getElem?_eq_some_iff.1 h4).1 (fun e=>by have:=Option.some.inj e;omega)).trans h4) ho⟩,
  (h1.b.grown hg (Nat.le_trans hlo h1.o.size) (fun k e=>by have:=Option.some.inj e;omega)).trans h3.b⟩
theorem pgB_len (p:Pg):(pgB p).length=512:=pad512_len _
theorem pgWrite (w:World)(S J P base m:Nat)(t:Tl)(j:Jl)(s:Nat)(p:Pg)(ve vk:Value)(L:List Eq3)(h:SpAx w S J P base t j)(hf:Fit t j m)(hp:PgR fl w p ve vk L)(hs:PgS p)(hsn:s≤4096)(hz:spWrE t j (s:Int) (pgB p)=0):
  Calls Tryz.prog 100 #[gT S,.agg (pgc (s:Int) p.lv ve vk).toArray] w fun e w'=>e=.returned (.tuple #[])∧SpAx w' S J P base (spWr t j (s:Int) (pgB p)) j∧KS base w w':=by
 have hlo:=spcOK.lo h
 unfold gT
 obtain⟨ea,ec,ka,kc,rfl,rfl⟩:=hp.forms
 have W1:Below w.heap.size w ((w.alloc (.cells #[.pointer (some ⟨S,0,none⟩)] 87)).alloc (.cells #[.int .i64 (s:Int),.int .i64 (p.lv:Int),.slice ea p.es.length ec,.slice ka p.ks.length kc] 133)):=((Below.refl _ w).alloc (Nat.le_refl _) _).alloc (by simp) _
 have k0:Blk ((w.alloc (.cells #[.pointer (some ⟨S,0,none⟩)] 87)).alloc (.cells #[.int .i64 (s:Int),.int .i64 (p.lv:Int),.slice ea p.es.length ec,.slice ka p.ks.length kc] 133)) w.heap.size 87 [.pointer (some ⟨S,0,none⟩)]:=(Blk.newAt w w.heap.size 87 #[.pointer (some ⟨S,0,none⟩)] [.pointer (some ⟨S,0,none⟩)] rfl rfl).alloc _
 have k1:Blk ((w.alloc (.cells #[.pointer (some ⟨S,0,none⟩)] 87)).alloc (.cells #[.int .i64 (s:Int),.int .i64 (p.lv:Int),.slice ea p.es.length ec,.slice ka p.ks.length kc] 133)) (w.heap.size+1) 133 [.int .i64 (s:Int),.int .i64 (p.lv:Int),.slice ea p.es.length ec,.slice ka p.ks.length kc]:=Blk.newAt _ (w.heap.size+1) 133 _ _ (by simp) rfl
 generalize hW:(w.alloc (.cells #[.pointer (some ⟨S,0,none⟩)] 87)).alloc (.cells #[.int .i64 (s:Int),.int .i64 (p.lv:Int),.slice ea p.es.length ec,.slice ka p.ks.length kc] 133)=Y0 at *
 have HCt:Hid (∀W,KS base Y0 W→W.cell? ⟨w.heap.size,0,none⟩=some (.pointer (some ⟨S,0,none⟩))∧W.cell? ⟨w.heap.size+1,0,none⟩=some (.int .i64 (s:Int))∧W.cell? ⟨w.heap.size+1,1,none⟩=some (.int .i64 (p.lv:Int))∧W.cell? ⟨w.heap.size+1,2,none⟩=some (.slice ea p.es.length ec)∧W.cell? ⟨w.heap.size+1,3,none⟩=some (.slice ka p.ks.length kc)):=fun W hW=>⟨(hW.o.blk k0 (by decide)).cell 0,(hW.o.blk k1 (by decide)).cell 0,(hW.o.blk k1 (by decide)).cell 1,(hW.o.blk k1 (by decide)).cell 2,(hW.o.blk k1 (by decide)).cell 3⟩
 have hD:Below Y0.heap.size Y0 Y0.drew:=Below.drew (Below.refl _ Y0)
 have HSe:=codSector (s:Int) p _ _ L Y0.drew ((hp.below W1).below hD) hs.f hs.n hs.sz hs.k hs.e
 have HK0:Hid (KS base w Y0.drew∧KS base Y0 Y0.drew):=⟨KS.of_below (W1.trans (hD.mono W1.size)) hlo,KS.of_below hD (Nat.le_trans hlo W1.size)⟩
 have HWr:Hid (∀W v,Below Y0.drew.heap.size Y0.drew W→SecU W v (pgB p)→Calls Tryz.prog 33 #[.pointer (some ⟨S,0,none⟩),.int .i64 (s:Int),v] W fun e w'=>e=.returned (.int .i64 0)∧SpAx w' S J P base (spWr t j (s:Int) (pgB p)) j∧KS base W w'):=fun W v hWb hv=>by
  obtain⟨g,rfl,hB⟩:=hv.isB
  have:=codSWrite W S J P base m t j (s:Int) (some ⟨g,0,none⟩) 512 (pgB p) (SpAx.keep h (KeepT.of_below (W1.trans ((hD.trans (hWb.mono hD.size)).mono W1.size)))) hf (by omega) (by omega) (by rw[pgB_len];omega) (fun W2 h2 _=>hB W2 h2)
  rw[hz] at this
  exact this
 have HLo:Hid (base≤Y0.drew.heap.size):=Nat.le_trans hlo W1.size
 have HNy:=needYes13 0
 have HSeU:=mkHid HSe
 clear hp hs h hf k0 k1 W1 hz hD HSe
 unfold pgc at *
 go_enter Tryz.func100,Tryz.ntmps100
 go_wp2_with fail
 refine lk0 (fun W=>W.cell? ⟨w.heap.size,0,none⟩=some (.pointer (some ⟨S,0,none⟩))∧W.cell? ⟨w.heap.size+1,0,none⟩=some (.int .i64 (s:Int))∧W.cell? ⟨w.heap.size+1,1,none⟩=some (.int .i64 (p.lv:Int))∧W.cell? ⟨w.heap.size+1,2,none⟩=some (.slice ea p.es.length ec)∧W.cell? ⟨w.heap.size+1,3,none⟩=some (.slice ka p.ks.length kc)) 7 (HCt.out _ HK0.out.2) (fun hHeld=>?_)
 generalize hY1:Y0.drew=Y1 at *
 refine lkT 5 0 ?_ rfl (Or.inl ⟨by rfl,?_⟩) hHeld ?_
 rotate_left
 ·intro w hSw;obtain⟨s0,s1,s2,s3,s4⟩:=hSw;go_simp;with_reducible rfl
 (try simp only[Act.put,sIx,sZ0,sZ1])
 refine lkT 6 1 (.pointer (some ⟨S,0,none⟩)) rfl (Or.inl ⟨by rfl,?_⟩) hHeld ?_
 ·intro w hSw;obtain⟨s0,s1,s2,s3,s4⟩:=hSw;go_simp
 (try simp only[Act.put,sIx,sZ0,sZ1])
 refine lkT 7 2 ?_ rfl (Or.inl ⟨by rfl,?_⟩) hHeld ?_
 rotate_left
 ·intro w hSw;obtain⟨s0,s1,s2,s3,s4⟩:=hSw;go_simp;with_reducible rfl
 (try simp only[Act.put,sIx,sZ0,sZ1])
 refine lkT 8 3 (.int .i64 (s:Int)) rfl (Or.inl ⟨by rfl,?_⟩) hHeld ?_
 ·intro w hSw;obtain⟨s0,s1,s2,s3,s4⟩:=hSw;go_simp
 (try simp only[Act.put,sIx,sZ0,sZ1])
 refine lkT 9 4 (.agg #[.int .i64 (s:Int),.int .i64 (p.lv:Int),.slice ea p.es.length ec,.slice ka p.ks.length kc]) rfl (Or.inl ⟨by rfl,?_⟩) hHeld ?_
 ·intro w hSw;obtain⟨s0,s1,s2,s3,s4⟩:=hSw;go_simp
 (try simp only[Act.put,sIx,sZ0,sZ1])
 refine lk1 5 rfl (fun K hK=>?_)
 go_simp
 go_wp2_with (go_at_call 139;refine HSeU.out.mono ?_;rintro e y2 ⟨⟨v2,rfl,hv2⟩,hb2⟩)
 have HK2:Hid (KS base Y1 y2):=KS.of_below hb2 HLo.out
 have HWy:=HWr.out y2 v2 hb2 hv2
 refine hK.out _ _ (HCt.out _ (HK0.out.2.trans HK2.out)) (fun hHeld=>?_)
 (try simp only[Act.put,sIx,sZ0,sZ1])
 clear hK K HSeU
 refine lk1 6 rfl (fun K hK=>?_)
 go_simp
 go_wp2_with (go_at_call 33;refine HWy.mono ?_;rintro e y3 ⟨rfl,hA3,hk3⟩)
 have HK3:=mkHid hk3
 have HA3:=mkHid hA3
 refine hK.out _ _ (HCt.out _ ((HK0.out.2.trans HK2.out).trans HK3.out)) (fun hHeld=>?_)
 (try simp only[Act.put,sIx,sZ0,sZ1])
 clear hK K HWy
 refine lkZ rfl (fun K hK=>?_)
 go_simp
 refine hK.out _ _ ?_
 simp only[Exit.then]
 (try simp only[Act.put,sIx,sZ0,sZ1])
 clear hK K hHeld
 go_wp2_with (go_at_call 99;refine(HNy _).mono ?_;rintro x w2 ⟨rfl,hww⟩;rw[hww];clear hww w2)
 go_end0
 exact⟨rfl,HA3.out,(HK0.out.1.trans HK2.out).trans HK3.out⟩
theorem pgGive (w:World)(S J P base m:Nat)(t:Tl)(j:Jl)(s:Nat)(lv:Nat)(ve vk:Value)(h:SpAx w S J P base t j)(hf:Fit t j m)(hsn:s≤4096)(hz:gvE t j (s:Int)=0)(hve:∃a n c,ve=.slice a n c)(hvk:∃a n c,vk=.slice a n c):
  Calls Tryz.prog 71 #[gT S,.agg (pgc (s:Int) lv ve vk).toArray] w fun e w'=>e=.returned (.tuple #[])∧SpAx w' S J P base (gvT t j (s:Int)) j∧KS base w w':=by
 have hlo:=spcOK.lo h
 obtain⟨ea,en,ec,rfl⟩:=hve
 obtain⟨ka,kn,kc,rfl⟩:=hvk
 unfold gT pgc
 have W1:Below w.heap.size w ((w.alloc (.cells #[.pointer (some ⟨S,0,none⟩)] 87)).alloc (.cells #[.int .i64 (s:Int),.int .i64 (lv:Int),.slice ea en ec,.slice ka kn kc] 133)):=((Below.refl _ w).alloc (Nat.le_refl _) _).alloc (by simp) _
 have k0:Blk ((w.alloc (.cells #[.pointer (some ⟨S,0,none⟩)] 87)).alloc (.cells #[.int .i64 (s:Int),.int .i64 (lv:Int),.slice ea en ec,.slice ka kn kc] 133)) w.heap.size 87 [.pointer (some ⟨S,0,none⟩)]:=(Blk.newAt w w.heap.size 87 #[.pointer (some ⟨S,0,none⟩)] [.pointer (some ⟨S,0,none⟩)] rfl rfl).alloc _
 have k1:Blk ((w.alloc (.cells #[.pointer (some ⟨S,0,none⟩)] 87)).alloc (.cells #[.int .i64 (s:Int),.int .i64 (lv:Int),.slice ea en ec,.slice ka kn kc] 133)) (w.heap.size+1) 133 [.int .i64 (s:Int),.int .i64 (lv:Int),.slice ea en ec,.slice ka kn kc]:=Blk.newAt _ (w.heap.size+1) 133 _ _ (by simp) rfl
 have HG:=codGive _ S J P base m t j (s:Int) (SpAx.keep h (KeepT.of_below W1)) hf (by omega) (by omega)
 rw[hz] at HG
 have c0:=k0.cell 0
 have c1:=k1.cell 0
 simp only[List.getElem?_cons_zero] at c0 c1
 have HK1:Hid (KS base w ((w.alloc (.cells #[.pointer (some ⟨S,0,none⟩)] 87)).alloc (.cells #[.int .i64 (s:Int),.int .i64 (lv:Int),.slice ea en ec,.slice ka kn kc] 133))):=KS.of_below W1 hlo
 have HNy:=needYes13 0
 clear h hf k0 k1 W1 hz
 go_enter Tryz.func71,Tryz.ntmps71
 go_wp2_with fail
 refine HG.mono ?_
 rintro e y1 ⟨rfl,hA1,hk1⟩
 go_wp2_with (go_at_call 99;refine(HNy _).mono ?_;rintro x w2 ⟨rfl,hww⟩;rw[hww];clear hww w2)
 go_end0
 exact⟨rfl,hA1,HK1.out.trans hk1⟩
theorem pgAdd (w:World)(S J P base m:Nat)(t:Tl)(j:Jl)(at_:Int)(p:Pg)(ve vk:Value)(L:List Eq3)(h:SpAx w S J P base t j)(hf:Fit t j m)(hp:PgR fl w p ve vk L)(hs:PgS p)(hE:tkE t j=0)(hF:Fit (tkT t j) j m)(hn:tkV t j<j.p.n)(hz:spWrE (tkT t j) j (tkV t j:Int) (pgB p)=0)(hfl:fl≤base:=by omega):
  Calls Tryz.prog 66 #[gT S,.agg (pgc at_ p.lv ve vk).toArray] w fun e w'=>e=.returned (.int .i64 (tkV t j:Int))∧SpAx w' S J P base (addT t j (pgB p)) j∧KS base w w':=by
 have hlo:=spcOK.lo h
 have hn2:=hf.few.n
 obtain⟨ea,ec,ka,kc,rfl,rfl⟩:=hp.forms
 unfold gT addT
 have W1:Below w.heap.size w ((w.alloc (.cells #[.pointer (some ⟨S,0,none⟩)] 87)).alloc (.cells #[.int .i64 at_,.int .i64 (p.lv:Int),.slice ea p.es.length ec,.slice ka p.ks.length kc] 133)):=((Below.refl _ w).alloc (Nat.le_refl _) _).alloc (by simp) _
 have k0:Blk ((w.alloc (.cells #[.pointer (some ⟨S,0,none⟩)] 87)).alloc (.cells #[.int .i64 at_,.int .i64 (p.lv:Int),.slice ea p.es.length ec,.slice ka p.ks.length kc] 133)) w.heap.size 87 [.pointer (some ⟨S,0,none⟩)]:=(Blk.newAt w w.heap.size 87 #[.pointer (some ⟨S,0,none⟩)] [.pointer (some ⟨S,0,none⟩)] rfl rfl).alloc _
 have k1:Blk ((w.alloc (.cells #[.pointer (some ⟨S,0,none⟩)] 87)).alloc (.cells #[.int .i64 at_,.int .i64 (p.lv:Int),.slice ea p.es.length ec,.slice ka p.ks.length kc] 133)) (w.heap.size+1) 133 [.int .i64 at_,.int .i64 (p.lv:Int),.slice ea p.es.length ec,.slice ka p.ks.length kc]:=Blk.newAt _ (w.heap.size+1) 133 _ _ (by simp) rfl
 have HG:=codTake _ S J P base m t j (SpAx.keep h (KeepT.of_below W1)) hf
 rw[hE] at HG
 have c0:=k0.cell 0
 simp only[List.getElem?_cons_zero] at c0
 have HK1:Hid (KS base w ((w.alloc (.cells #[.pointer (some ⟨S,0,none⟩)] 87)).alloc (.cells #[.int .i64 at_,.int .i64 (p.lv:Int),.slice ea p.es.length ec,.slice ka p.ks.length kc] 133))):=KS.of_below W1 hlo
 have HB0:=mkHid k0
 have HB1:=mkHid k1
 have HPr:=mkHid (hp.below W1)
 have HNy:=needYes13 0
 have hne:w.heap.size≠w.heap.size+1:=by omega
 have HWr:Hid (∀W,SpAx W S J P base (tkT t j) j→PgR fl W p (.slice ea p.es.length ec) (.slice ka p.ks.length kc) L→Calls Tryz.prog 100 #[.agg #[.pointer (some ⟨S,0,none⟩)],.agg #[.int .i64 (tkV t j:Int),.int .i64 (p.lv:Int),.slice ea p.es.length ec,.slice ka p.ks.length kc]] W fun e w'=>e=.returned (.tuple #[])∧SpAx w' S J P base (spWr (tkT t j) j (tkV t j:Int) (pgB p)) j∧KS base W w'):=fun W h1 h2=>pgWrite W S J P base m (tkT t j) j (tkV t j) p _ _ L h1 hF h2 hs (by omega) hz
 unfold pgc at *
 clear h hf k0 k1 W1 hz hs hp hF hE
 generalize tkV t j=sv at *
 generalize spWr (tkT t j) j (sv:Int) (pgB p)=tn at *
 generalize tkT t j=tt at *
 go_enter Tryz.func66,Tryz.ntmps66
 go_wp2_with fail
 refine HG.mono ?_
 rintro e y1 ⟨rfl,hA1,hk1⟩
 have HA1:=mkHid hA1
 have HKy:=mkHid hk1
 have HBy0:=mkHid (hk1.o.blk HB0.out (by decide))
 have HBy1:=mkHid (hk1.o.blk HB1.out (by decide))
 have HPy:=mkHid (HPr.out.keep (hk1.ue hfl))
 have d0:=HBy1.out.cell 0
 simp only[List.getElem?_cons_zero] at d0
 have f0:=HBy1.out.frozen 0
 have hg:=grown_set y1 (w.heap.size+1) 0 (.int .i64 (sv:Int))
 have HBz1:=mkHid (HBy1.out.set 0 (.int .i64 (sv:Int)))
 have HBz0:=mkHid (HBy0.out.other ⟨w.heap.size+1,0,none⟩ (.int .i64 (sv:Int)) hne)
 have HPz:=mkHid (HPy.out.keep (KeepU.grown1 HBy1.out (by decide) hg (by omega)))
 have HAz:=mkHid (SpAx.keep13 HA1.out (KeepT.grown1 HBy1.out (by decide) hg))
 clear HG hA1 hk1 hg
 have z0:=HBz0.out.cell 0
 have z1:=HBz1.out.cell 0
 have z2:=HBz1.out.cell 1
 have z3:=HBz1.out.cell 2
 have z4:=HBz1.out.cell 3
 simp only[gZ0,gZ1,List.set_cons_zero] at z0 z1 z2 z3 z4
 have HWz:=HWr.out _ HAz.out HPz.out
 go_wp2_with (go_at_call 99;refine(HNy _).mono ?_;rintro x w2 ⟨rfl,hww⟩;rw[hww];clear hww w2)
 refine HWz.mono ?_
 rintro e y3 ⟨rfl,hA3,hk3⟩
 go_wp2_with fail
 go_ret
 exact⟨rfl,hA3,KS.mid (HK1.out.trans HKy.out) (grown_set y1 (w.heap.size+1) 0 _) (by omega) hlo hk3⟩
end
section
open Go.RowKit
variable {fl:Nat}
theorem pgFirst (w:World)(S:Nat)(at_:Int)(ve vk:Value)(L:List Eq3)(x:Eq3)(hr:RdN fl w ve L)(hx:L[0]?=some x):
  Calls Tryz.prog 112 #[gT S,.agg (pgc at_ 0 ve vk).toArray] w fun e w'=>e=.returned (.slice x.2.a x.1.k.length x.2.c)∧Below w.heap.size w w':=by
 unfold gT
 obtain⟨a,cap,rfl,hc,_⟩:=hr.form
 have W1:Below w.heap.size w ((w.alloc (.cells #[.pointer (some ⟨S,0,none⟩)] 87)).alloc (.cells (pgc at_ 0 (.slice a L.length cap) vk).toArray 133)):=((Below.refl _ w).alloc (Nat.le_refl _) _).alloc (by simp) _
 have k1:Blk ((w.alloc (.cells #[.pointer (some ⟨S,0,none⟩)] 87)).alloc (.cells (pgc at_ 0 (.slice a L.length cap) vk).toArray 133)) (w.heap.size+1) 133 (pgc at_ 0 (.slice a L.length cap) vk):=Blk.newAt _ (w.heap.size+1) 133 _ _ (by simp) rfl
 obtain⟨-,h0,g,off,rfl,d0,-,-⟩:=(hr.keep (KeepU.of_below W1)).at_ 0 x hx
 unfold pgc at *
 have c1:=k1.cell 1
 have c2:=k1.cell 2
 simp only[gZ0,gZ1] at c1 c2
 have HW1:=mkHid W1
 have hn:(0:Int)<(L.length:Int):=by omega
 clear k1 W1 hr hx
 simp only[Int.natCast_zero,Nat.zero_mul,Nat.add_zero] at *
 generalize x.2.a=qa at *
 generalize x.2.c=qc at *
 generalize x.1.k.length=n1 at *
 generalize L.length=n at *
 go_enter Tryz.func112,Tryz.ntmps112
 go_wp2_with fail
 go_loopg [7] 1 (fun _ _ wr=>wr=((w.alloc (.cells #[.pointer (some ⟨S,0,none⟩)] 87)).alloc (.cells #[.int .i64 at_,.int .i64 0,.slice (some ⟨g,off,none⟩) n cap,vk] 133)))
 case atStart=>rfl
 case round =>
  subst hrel
  go_wp2_with fail
  go_ret
  exact⟨rfl,HW1.out⟩
theorem codSearch (w:World)(n:Nat)(f:Nat)(cap:Array Value)(c:Nat→Bool)(hn:n≤1000000)(hcl:∀W k,Below w.heap.size w W→k<n→Calls Tryz.prog f (#[.int .i64 ((k:Nat):Int)]++cap) W fun e w'=>e=.returned (.bool (c k))∧Below W.heap.size W w')(hf:∀args w,(callFunc f args).run Tryz.prog w=.ok (.enter f args) w):
  Calls Tryz.prog 109 #[.int .i64 (n:Int),.func (.func f) #[] cap] w fun e w'=>(∃i:Nat,e=.returned (.int .i64 (i:Int))∧i≤n∧(0<i→c (i-1)=false)∧(i<n→c i=true))∧Below w.heap.size w w':=by
 have HC:Hid (∀W k,Below w.heap.size w W→k<n→Calls Tryz.prog f (#[.int .i64 ((k:Nat):Int)]++cap) W fun e w'=>e=.returned (.bool (c k))∧Below W.heap.size W w'):=hcl
 clear hcl
 go_enter Tryz.func109,Tryz.ntmps109
 go_wp2
 go_loopg [5,6] n (fun kx s5 s6 wr=>∃lo hi:Nat,s5=.int .i64 (lo:Int)∧s6=.int .i64 (hi:Int)∧lo≤hi∧hi≤n∧hi-lo≤kx∧Hid (Below w.heap.size w wr)∧Hid (0<lo→c (lo-1)=false)∧Hid (hi<n→c hi=true))
 case atStart=>exact⟨0,n,rfl,rfl,Nat.zero_le _,Nat.le_refl _,by omega,Below.refl _ _,fun h=>absurd h (Nat.lt_irrefl 0),fun h=>absurd h (Nat.lt_irrefl _)⟩
 case round =>
  obtain⟨lo,hi,rfl,rfl,hlh,hin,hg,HB,HI,HJ⟩:=hrel
  by_cases hlt:lo<hi
  ·have HCk:=HC.out wr ((lo+hi)/2) HB.out (by omega)
   rw[show (((lo+hi)/2:Nat):Int)=((lo:Int)+(hi:Int))/2 by omega] at HCk
   generalize hck:c ((lo+hi)/2)=b at HCk
   have HCb:=mkHid hck
   clear hck
   cases b with
   | false =>
    go_wp2_with (go_at_fn f;refine HCk.mono ?_;rintro e w' ⟨rfl,hb1⟩)
    go_roundg (hi-((lo+hi)/2+1))
    case measure=>omega
    case rel=>exact⟨(lo+hi)/2+1,hi,by rw[show ((lo:Int)+(hi:Int))/2+1=(((lo+hi)/2+1:Nat):Int) by omega],rfl,by omega,hin,Nat.le_refl _,HB.out.trans (hb1.mono HB.out.size),fun _=>by rw[Nat.add_sub_cancel];exact HCb.out,HJ⟩
   | true =>
    go_wp2_with (go_at_fn f;refine HCk.mono ?_;rintro e w' ⟨rfl,hb1⟩)
    go_roundg ((lo+hi)/2-lo)
    case measure=>omega
    case rel=>exact⟨lo,(lo+hi)/2,rfl,by rw[show ((lo:Int)+(hi:Int))/2=(((lo+hi)/2:Nat):Int) by omega],by omega,by omega,Nat.le_refl _,HB.out.trans (hb1.mono HB.out.size),HI,fun _=>HCb.out⟩
  ·obtain rfl:hi=lo:=by omega
   go_wp2
   go_ret
   exact⟨⟨hi,rfl,hin,HI.out,HJ.out⟩,HB.out⟩
end
section
open Go.RowKit
def KidL (t:Tl)(j:Jl)(ks:List Nat)(lf:Nat→List Et):Prop:=∀i s,ks[i]?=some s→51≤s∧s<j.p.n∧pgOf (spRdB t j (s:Int))=some ⟨0,lf i,[]⟩∧lf i≠[]
theorem pgLess (w:World)(S J P base m G Pb Kb:Nat)(t:Tl)(j:Jl)(at_:Int)(ve vk:Value)(ks:List Nat)(lf:Nat→List Et)(ka:Option Addr)(kn kc:Nat)(key:List UInt8)(k k1:Nat)(hk1:k+1=k1)(h:SpAx w S J P base t j)(hf:Fit t j m)
  (hG:Blk w G 87 [.pointer (some ⟨S,0,none⟩)]) (hP:Blk w Pb 133 [.int .i64 at_,.int .i64 1,ve,vk]) (hK:Blk w Kb 33 [.slice ka kn kc]) (hz:RdZ w vk ks) (hve:∃a n c,ve=.slice a n c) (hkey:IsB w ka kn kc key) (hl:KidL t j ks lf) (hk:k1<ks.length) (hks:ks.length≤1000):
  Calls Tryz.prog 110 #[.int .i64 (k:Int),.pointer (some ⟨G,0,none⟩),.pointer (some ⟨Pb,0,none⟩),.pointer (some ⟨Kb,0,none⟩)] w fun e w'=>e=.returned (.bool (decide (0<Lib.compareBytes (fstK (lf k1)) key)))∧Below w.heap.size w w':=by
 obtain⟨s,hs⟩:∃s,ks[k1]?=some s:=⟨_,List.getElem?_eq_getElem hk⟩
 obtain⟨h51,hn,hpg,hne⟩:=hl _ s hs
 obtain⟨ea,en,ec,rfl⟩:=hve
 have hzz:=hz
 obtain⟨za,zc,rfl,_⟩:=hz
 have HD:Below w.heap.size w w.drew:=Below.drew (Below.refl _ w)
 have HCt:Hid (∀W,Below w.heap.size w W→W.cell? ⟨G,0,none⟩=some (.pointer (some ⟨S,0,none⟩))∧W.cell? ⟨Pb,0,none⟩=some (.int .i64 at_)∧W.cell? ⟨Pb,1,none⟩=some (.int .i64 1)∧W.cell? ⟨Pb,2,none⟩=some (.slice ea en ec)∧W.cell? ⟨Pb,3,none⟩=some (.slice za ks.length zc)∧W.cell? ⟨Kb,0,none⟩=some (.slice ka kn kc)):=fun W hW=>⟨(hG.on hW).cell 0,(hP.on hW).cell 0,(hP.on hW).cell 1,(hP.on hW).cell 2,(hP.on hW).cell 3,(hK.on hW).cell 0⟩
 have HKd:=pgKid w.drew S J P base m t j at_ 1 (.slice ea en ec) (.slice za ks.length zc) ks k1 s ⟨0,lf k1,[]⟩ (SpAx.keep h (KeepT.of_below HD)) hf (hzz.keep (KeepO.of_below HD)) hs h51 hn hpg rfl (by omega)
 have HFs:=fun W at2 ve2 vk2 L2 x (hr:RdN 0 W ve2 L2) (hx:L2[0]?=some x)=>pgFirst W S at2 ve2 vk2 L2 x hr hx
 have HKy:Hid (∀W,Below w.heap.size w W→IsB W ka kn kc key):=fun W hW=>hkey.below hW rfl
 have hw1:IntKind.i64.wrap ((k:Int)+1)=(k1:Int):=by rw[show (k:Int)+1=(k1:Int) by omega];exact wrapi64_in _ (by omega) (by omega)
 obtain⟨e0,l0,hle⟩:∃e0 l0,lf k1=e0::l0:=by cases hq:lf k1 with|nil=>exact absurd hq hne|cons a b=>exact⟨a,b,rfl⟩
 have HFk:Hid (fstK (lf k1)=e0.k):=by unfold Hid fstK;rw[hle];rfl
 unfold gT pgc at *
 simp only[Int.natCast_one] at HKd
 clear h hf hG hP hK hzz hkey hl hs hpg hne hk hk1
 generalize hrb:decide (0<Lib.compareBytes (fstK (lf k1)) key)=rb
 have HRb:Hid (decide (0<Lib.compareBytes e0.k key)=rb):=by unfold Hid;rw[←hrb,HFk.out]
 clear hrb HFk
 go_enter Tryz.func110,Tryz.ntmps110
 go_wp2_with fail
 refine lk0 (fun W=>W.cell? ⟨G,0,none⟩=some (.pointer (some ⟨S,0,none⟩))∧W.cell? ⟨Pb,0,none⟩=some (.int .i64 at_)∧W.cell? ⟨Pb,1,none⟩=some (.int .i64 1)∧W.cell? ⟨Pb,2,none⟩=some (.slice ea en ec)∧W.cell? ⟨Pb,3,none⟩=some (.slice za ks.length zc)∧W.cell? ⟨Kb,0,none⟩=some (.slice ka kn kc)) 10 (HCt.out _ HD) (fun hHeld=>?_)
 have HDh:=mkHid HD
 clear HD
 generalize w.drew=Y1 at *
 refine lkT 6 0 (.agg #[.pointer (some ⟨S,0,none⟩)]) rfl (Or.inl ⟨by rfl,?_⟩) hHeld ?_
 ·intro w hSw;obtain⟨s0,s1,s2,s3,s4,s5⟩:=hSw;go_simp
 (try simp only[Act.put,sIx,sZ0,sZ1])
 refine lkT 7 1 (.agg #[.pointer (some ⟨S,0,none⟩)]) rfl (Or.inl ⟨by rfl,?_⟩) hHeld ?_
 ·intro w hSw;obtain⟨s0,s1,s2,s3,s4,s5⟩:=hSw;go_simp
 (try simp only[Act.put,sIx,sZ0,sZ1])
 refine lkT 8 2 (.agg #[.int .i64 at_,.int .i64 1,.slice ea en ec,.slice za ks.length zc]) rfl (Or.inl ⟨by rfl,?_⟩) hHeld ?_
 ·intro w hSw;obtain⟨s0,s1,s2,s3,s4,s5⟩:=hSw;go_simp
 (try simp only[Act.put,sIx,sZ0,sZ1])
 refine lkT 9 3 ?_ rfl (Or.inl ⟨by rfl,?_⟩) hHeld ?_
 rotate_left
 ·intro w hSw;obtain⟨s0,s1,s2,s3,s4,s5⟩:=hSw;go_simp;with_reducible rfl
 (try simp only[Act.put,sIx,sZ0,sZ1])
 refine lkT 10 4 (.int .i64 (k1:Int)) rfl (Or.inl ⟨by rfl,?_⟩) hHeld ?_
 ·intro w hSw;obtain⟨s0,s1,s2,s3,s4,s5⟩:=hSw;go_simp
 (try simp only[Act.put,sIx,sZ0,sZ1])
 refine lkT 13 7 (.slice ka kn kc) rfl (Or.inl ⟨by rfl,?_⟩) hHeld ?_
 ·intro w hSw;obtain⟨s0,s1,s2,s3,s4,s5⟩:=hSw;go_simp
 (try simp only[Act.put,sIx,sZ0,sZ1])
 refine lk1 5 rfl (fun K hK=>?_)
 go_simp
 go_wp2_with (go_at_call 72;refine HKd.mono ?_;rintro e y2 ⟨⟨v2,ve2,vk2,L2,rfl,hp2⟩,hb2⟩)
 have HB2:=mkHid (HDh.out.trans (hb2.mono HDh.out.size))
 refine hK.out _ _ (HCt.out _ HB2.out) (fun hHeld=>?_)
 (try simp only[Act.put,sIx,sZ0,sZ1])
 clear hK K
 obtain⟨x,hx,hxe⟩:∃x,L2[0]?=some x∧x.1=e0:=by
  have h1:=hp2.es
  rw[hle] at h1
  cases L2 with
  | nil=>cases h1
  | cons a b=>exact⟨a,rfl,(List.cons.inj h1).1⟩
 have hv2:=hp2.v
 subst hv2
 have HP2:=mkHid hp2
 have HF2:=HFs y2 (s:Int) ve2 vk2 L2 x hp2.r.e hx
 unfold pgc at HF2
 clear HFs hb2 hp2
 refine lk1 6 rfl (fun K hK=>?_)
 go_simp
 go_wp2_with (go_at_call 112;refine HF2.mono ?_;rintro e y3 ⟨rfl,hb3⟩)
 have HB3:=mkHid (HB2.out.trans (hb3.mono HB2.out.size))
 have HIx:Hid (IsB y3 x.2.a x.1.k.length x.2.c x.1.k):=(((HP2.out.r.e.is x (List.mem_of_getElem? hx)).keep (KeepU.of_below hb3)).is).k
 refine hK.out _ _ (HCt.out _ HB3.out) (fun hHeld=>?_)
 (try simp only[Act.put,sIx,sZ0,sZ1])
 clear hK K HF2
 have HC:=codCompare x.2.a ka x.1.k.length kn x.2.c kc x.1.k key y3 HIx.out (HKy.out _ HB3.out)
 rw[hxe] at HC
 refine lk1 8 rfl (fun K hK=>?_)
 go_simp
 go_wp2_with (go_at_call 111;refine HC.mono ?_;rintro e y4 ⟨rfl,hw4⟩;rw[hw4];clear hw4)
 refine hK.out _ _ (HCt.out _ HB3.out) (fun hHeld=>?_)
 (try simp only[Act.put,sIx,sZ0,sZ1])
 clear hK K HC
 generalize Lib.compareBytes e0.k key=cz at *
 refine lkT 15 9 (.bool rb) rfl (Or.inl ⟨by rfl,?_⟩) hHeld ?_
 ·intro w hSw;obtain⟨s0,s1,s2,s3,s4,s5⟩:=hSw;go_simp;first|(rw[←HRb.out];done)|(simp[←HRb.out];done)|exact HRb.out
 (try simp only[Act.put,sIx,sZ0,sZ1])
 refine lkZ rfl (fun K hK=>?_)
 go_simp
 refine hK.out _ _ ?_
 simp only[Exit.then]
 (try simp only[Act.put,sIx,sZ0,sZ1])
 clear hK K hHeld
 go_wp2_with fail
 go_ret
 exact⟨rfl,HB3.out⟩
theorem pgFind (w:World)(S J P base m:Nat)(t:Tl)(j:Jl)(at_:Int)(ve vk:Value)(ks:List Nat)(lf:Nat→List Et)(ka:Option Addr)(kn kc:Nat)(key:List UInt8)(h:SpAx w S J P base t j)(hf:Fit t j m)
  (hz:RdZ w vk ks) (hve:∃a n c,ve=.slice a n c) (hkey:IsB w ka kn kc key) (hl:KidL t j ks lf) (hks:ks.length≤1000) (hk0:0<ks.length):
  Calls Tryz.prog 73 #[gT S,.agg (pgc at_ 1 ve vk).toArray,.slice ka kn kc] w fun e w'=>(∃i:Nat,e=.returned (.int .i64 (i:Int))∧i<ks.length∧(0<i→Op.bytesLess key (fstK (lf i))=false)∧(i+1<ks.length→Op.bytesLess key (fstK (lf (i+1)))=true))∧Below w.heap.size w w':=by
 obtain⟨ea,en,ec,rfl⟩:=hve
 have hzz:=hz
 obtain⟨za,zc,rfl,_⟩:=hz
 unfold gT pgc
 simp only[Int.natCast_one]
 have W1:Below w.heap.size w (((w.alloc (.cells #[.pointer (some ⟨S,0,none⟩)] 87)).alloc (.cells #[.int .i64 at_,.int .i64 1,.slice ea en ec,.slice za ks.length zc] 133)).alloc (.cells #[.slice ka kn kc] 33)):=(((Below.refl _ w).alloc (Nat.le_refl _) _).alloc (by simp) _).alloc (by simp;omega) _
 have k0:Blk (((w.alloc (.cells #[.pointer (some ⟨S,0,none⟩)] 87)).alloc (.cells #[.int .i64 at_,.int .i64 1,.slice ea en ec,.slice za ks.length zc] 133)).alloc (.cells #[.slice ka kn kc] 33)) w.heap.size 87 [.pointer (some ⟨S,0,none⟩)]:=((Blk.newAt w w.heap.size 87 #[.pointer (some ⟨S,0,none⟩)] [.pointer (some ⟨S,0,none⟩)] rfl rfl).alloc _).alloc _
 have k1:Blk (((w.alloc (.cells #[.pointer (some ⟨S,0,none⟩)] 87)).alloc (.cells #[.int .i64 at_,.int .i64 1,.slice ea en ec,.slice za ks.length zc] 133)).alloc (.cells #[.slice ka kn kc] 33)) (w.heap.size+1) 133 [.int .i64 at_,.int .i64 1,.slice ea en ec,.slice za ks.length zc]:=(Blk.newAt _ (w.heap.size+1) 133 #[.int .i64 at_,.int .i64 1,.slice ea en ec,.slice za ks.length zc] [.int .i64 at_,.int .i64 1,.slice ea en ec,.slice za ks.length zc] (by simp) rfl).alloc _
 have k2:Blk (((w.alloc (.cells #[.pointer (some ⟨S,0,none⟩)] 87)).alloc (.cells #[.int .i64 at_,.int .i64 1,.slice ea en ec,.slice za ks.length zc] 133)).alloc (.cells #[.slice ka kn kc] 33)) (w.heap.size+2) 33 [.slice ka kn kc]:=Blk.newAt _ (w.heap.size+2) 33 _ _ (by simp) rfl
 generalize hW:((w.alloc (.cells #[.pointer (some ⟨S,0,none⟩)] 87)).alloc (.cells #[.int .i64 at_,.int .i64 1,.slice ea en ec,.slice za ks.length zc] 133)).alloc (.cells #[.slice ka kn kc] 33)=Y0 at *
 have HSe:=codSearch Y0 (ks.length-1) 110 #[.pointer (some ⟨w.heap.size,0,none⟩),.pointer (some ⟨w.heap.size+1,0,none⟩),.pointer (some ⟨w.heap.size+2,0,none⟩)] (fun k=>decide (0<Lib.compareBytes (fstK (lf (k+1))) key)) (by omega) (fun W k hW hk=>by
   have hB:=W1.trans (hW.mono W1.size)
   exact pgLess W S J P base m w.heap.size (w.heap.size+1) (w.heap.size+2) t j at_ _ _ ks lf ka kn kc key k (k+1) rfl (SpAx.keep h (KeepT.of_below hB)) hf (k0.on hW) (k1.on hW) (k2.on hW) (hzz.keep (KeepO.of_below hB)) ⟨_,_,_,rfl⟩ (hkey.below hB rfl) hl (by omega) hks)
  (fun args W=>by simp[callFunc,Tryz.func110];rfl)
 have c3:=k1.cell 3
 simp only[gZ0,gZ1] at c3
 have hw1:IntKind.i64.wrap ((ks.length:Int)-1)=((ks.length-1:Nat):Int):=by rw[show (ks.length:Int)-1=((ks.length-1:Nat):Int) by omega];exact wrapi64_in _ (by omega) (by omega)
 have hmf:=mkF0
 have HW1:=mkHid W1
 clear h hf k0 k1 k2 W1 hzz hkey hl
 obtain⟨n1,hn1⟩:∃n1,ks.length-1=n1:=⟨_,rfl⟩
 rw[hn1] at HSe hw1
 have HN1:=mkHid hn1
 clear hn1
 go_enter Tryz.func73,Tryz.ntmps73
 go_wp2_with fail
 refine HSe.mono ?_
 rintro e y1 ⟨⟨i,rfl,hi,hlo,hhi⟩,hb1⟩
 go_wp2_with fail
 go_ret
 have hn:=HN1.out
 refine⟨⟨i,rfl,by omega,fun h0=>?_,fun h0=>?_⟩,HW1.out.trans (hb1.mono HW1.out.size)⟩
 ·have:=hlo h0
  rw[show i-1+1=i by omega] at this
  have h2:=of_decide_eq_false this
  rw[cb_gt] at h2
  exact Bool.eq_false_iff.2 h2
 ·have:=of_decide_eq_true (hhi (by omega))
  exact(cb_gt _ _).1 this
variable {fl:Nat}
theorem codKeepFits (w:World)(S J P base m:Nat)(t:Tl)(j:Jl)(s:Nat)(p:Pg)(ve vk:Value)(L:List Eq3)(h:SpAx w S J P base t j)(hf:Fit t j m)(hp:PgR fl w p ve vk L)(hs:PgS p)(hsn:s≤4096)(hz:spWrE t j (s:Int) (pgB p)=0):
  Calls Tryz.prog 104 #[gT S,.agg (pgc (s:Int) p.lv ve vk).toArray] w fun e w'=>e=.returned (.int .i64 0)∧SpAx w' S J P base (spWr t j (s:Int) (pgB p)) j∧KS base w w':=by
 have hlo:=spcOK.lo h
 unfold gT
 have W1:Below w.heap.size w ((w.alloc (.cells #[.pointer (some ⟨S,0,none⟩)] 87)).alloc (.cells (pgc (s:Int) p.lv ve vk).toArray 133)):=((Below.refl _ w).alloc (Nat.le_refl _) _).alloc (by simp) _
 have k0:Blk ((w.alloc (.cells #[.pointer (some ⟨S,0,none⟩)] 87)).alloc (.cells (pgc (s:Int) p.lv ve vk).toArray 133)) w.heap.size 87 [.pointer (some ⟨S,0,none⟩)]:=(Blk.newAt w w.heap.size 87 #[.pointer (some ⟨S,0,none⟩)] [.pointer (some ⟨S,0,none⟩)] rfl rfl).alloc _
 have k1:Blk ((w.alloc (.cells #[.pointer (some ⟨S,0,none⟩)] 87)).alloc (.cells (pgc (s:Int) p.lv ve vk).toArray 133)) (w.heap.size+1) 133 (pgc (s:Int) p.lv ve vk):=Blk.newAt _ (w.heap.size+1) 133 _ _ (by simp) rfl
 have hp0:=hp.below W1
 have hA0:=SpAx.keep h (KeepT.of_below W1)
 have hK0:KS base w ((w.alloc (.cells #[.pointer (some ⟨S,0,none⟩)] 87)).alloc (.cells (pgc (s:Int) p.lv ve vk).toArray 133)):=KS.of_below W1 hlo
 generalize hW:(w.alloc (.cells #[.pointer (some ⟨S,0,none⟩)] 87)).alloc (.cells (pgc (s:Int) p.lv ve vk).toArray 133)=Y0 at *
 have HFi:=codFits (s:Int) p ve vk L Y0 hp0 hs.f
 rw[decide_eq_true (show szP p≤509 from hs.sz)] at HFi
 have HWr:Hid (∀W,Below Y0.heap.size Y0 W→Calls Tryz.prog 100 #[.agg #[.pointer (some ⟨S,0,none⟩)],.agg (pgc (s:Int) p.lv ve vk).toArray] W fun e w'=>e=.returned (.tuple #[])∧SpAx w' S J P base (spWr t j (s:Int) (pgB p)) j∧KS base W w'):=fun W hW =>
  pgWrite W S J P base m t j s p ve vk L (SpAx.keep hA0 (KeepT.of_below hW)) hf (hp0.below hW) hs hsn hz
 unfold pgc at *
 have c0:=k0.cell 0
 have d0:=k1.cell 0
 have d1:=k1.cell 1
 have d2:=k1.cell 2
 have d3:=k1.cell 3
 simp only[gZ0,gZ1] at c0 d0 d1 d2 d3
 have HK0:=mkHid hK0
 have HB0:=mkHid k0
 have HB1:=mkHid k1
 have HLo:Hid (base≤Y0.heap.size):=spcOK.lo hA0
 clear h hf hp hs hp0 hA0 hK0 k0 k1 W1
 go_enter Tryz.func104,Tryz.ntmps104
 go_upto_region 1 with fail
 (try rw[hW])
 clear hW
 go_upto_region 2 with(go_at_call 145;refine HFi.mono ?_;rintro e y1 ⟨rfl,hb1⟩)
 have HWr1:=HWr.out y1 hb1
 have hk1:=(HK0.out.trans (KS.of_below hb1 HLo.out))
 have KB0:=HB0.out.on hb1
 have KB1:=HB1.out.on hb1
 have c0:=KB0.cell 0
 have d0:=KB1.cell 0
 have d1:=KB1.cell 1
 have d2:=KB1.cell 2
 have d3:=KB1.cell 3
 simp only[gZ0,gZ1] at c0 d0 d1 d2 d3
 have HK1:=mkHid hk1
 clear HFi hb1 hk1 KB0 KB1 HWr
 go_wp2_with (go_at_call 100;refine HWr1.mono ?_;rintro e y2 ⟨rfl,hA2,hk2⟩;have HA2:=mkHid hA2;have HK2:=mkHid hk2;clear hA2 hk2)
 go_ret
 exact⟨rfl,HA2.out,HK1.out.trans HK2.out⟩
end
section
open Go.RowKit
theorem codClone13 (a:Option Addr)(n c:Nat)(l:List UInt8)(w:World)(h:IsB w a n c l)(hn:n≤1000000):
  Calls Tryz.prog 75 #[.slice a n c] w fun e w'=>(∃v,e=.returned v∧OwnB w' w.heap.size v l)∧Below w.heap.size w w':=by
 cases a with
 | none =>
  have h0:=h.nil rfl
  have h1:=h.le
  have h2:=h.len_eq
  have hl:l=[]:=List.eq_nil_of_length_eq_zero (by omega)
  have hn0:n=0:=by omega
  subst hl hn0 h0
  clear h h1 h2
  have hE:∀W,(binOp .eql 33 (.slice none 0 0) (.slice none 0 0)).run Tryz.prog W=.ok (.bool true) W:=fun W=>Lib.run_eql_slice_nil (P:=Tryz.prog) W 33 5 none 0 0 0 0 Tryz.underlying33
  go_enter Tryz.func75,Tryz.ntmps75
  go_wp2_with fail
  go_ret
  exact⟨⟨_,rfl,OwnB.nil _ _⟩,Below.refl _ _⟩
 | some ad =>
  have hY:Below w.heap.size w (w.alloc (.cells #[] 5)):=(Below.refl _ w).alloc (Nat.le_refl _) _
  have HO:Hid (OwnB (w.alloc (.cells #[] 5)) w.heap.size (.slice (some ⟨w.heap.size,0,none⟩) 0 0) []):=OwnB.empty w w.heap.size (Nat.le_refl _)
  have HI:=mkHid (h.below hY rfl)
  have HY:=mkHid hY
  have hl:=h.len_eq
  clear h hY
  have hE:∀W,(binOp .eql 33 (.slice (some ad) n c) (.slice none 0 0)).run Tryz.prog W=.ok (.bool false) W:=fun W=>Lib.run_eql_slice_nil (P:=Tryz.prog) W 33 5 (some ad) n c 0 0 Tryz.underlying33
  go_enter Tryz.func75,Tryz.ntmps75
  go_wp2_with (at_builtin;refine list_appS _ rfl (.tmp 5) (.tmp 6) rfl w.heap.size _ [] rfl HO.out (some ad) n c l rfl HI.out (by simp only[List.length_nil];omega) HY.out.size ?_;intro v2 V2 ho2 hg2;rw[List.nil_append] at ho2;have HD2:=mkHid (HY.out.grown hg2 HY.out.size (fun j hj=>(World.ownsRow.lt HO.out j hj).1)))
  go_ret
  exact⟨⟨_,rfl,ho2⟩,HD2.out⟩
theorem node_kids {t:Tl}{j:Jl}{m:Nat}{s:Nat}{ps:Ps}(h:NdAt t j s ps)(hk:Tk t j m ((s:Int):: secsP ps)):KidL t j (ps.map (·.1)) (fun i=>(ps.getD i (0,[])).2):=fun i x hx=>by
 rw[List.getElem?_map] at hx
 obtain⟨p,hp,rfl⟩:=Option.map_eq_some_iff.1 hx
 have hpm:=List.mem_of_getElem? hp
 have hl:=h.lf p hpm
 have hr:=hk.rng (p.1:Int) (List.mem_cons_of_mem _ (List.mem_map.2 ⟨p,hpm,rfl⟩))
 have hg:(ps.getD i (0,[])).2=p.2:=by rw[List.getD_eq_getElem?_getD,hp];rfl
 show _∧_∧pgOf _=some ⟨0,(ps.getD i (0,[])).2,[]⟩∧(ps.getD i (0,[])).2≠[]
 rw[hg]
 exact⟨by omega,by omega,by rw[hl.rd];exact pg_leaf hl.ok,hl.ok.ne⟩
theorem node_cut {t:Tl}{j:Jl}{s:Nat}{ps:Ps}{key:List UInt8}(h:NdAt t j s ps)(hs:SrtE (entsP ps)){i:Nat}(hi:i<ps.length)(h1:0<i→Op.bytesLess key (fstK (ps.getD i (0,[])).2)=false)(h2:i+1<ps.length→Op.bytesLess key (fstK (ps.getD (i+1) (0,[])).2)=true):
  ∃A p B,ps=A++p::B∧A.length=i∧ps.getD i (0,[])=p∧p∈ps∧AllLt (entsP A) key∧AllGt (entsP B) key:=by
 have hp:ps.getD i (0,[])=ps[i]:=by simp[hi]
 have e:ps=ps.take i++ps[i]::ps.drop (i+1):=by rw[List.getElem_cons_drop,List.take_append_drop]
 refine⟨ps.take i,ps[i],ps.drop (i+1),e,by rw[List.length_take];omega,hp,List.getElem_mem hi,?_⟩
 rw[e] at hs
 refine kid_cut hs (h.lf _ (List.getElem_mem hi)).ok.ne (fun hA=>?_) (fun q B' hq=>?_)
 ·rw[←hp]
  refine h1 ?_
  rcases Nat.eq_zero_or_pos i with h0|h0
  ·exact absurd (by rw[h0,List.take_zero]) hA
  ·exact h0
 ·have hl:i+1<ps.length:=by
   have:(ps.drop (i+1)).length=B'.length+1:=by rw[hq];rfl
   rw[List.length_drop] at this
   omega
  have hq2:ps.getD (i+1) (0,[])=q:=by
   have h3:(ps.drop (i+1))[0]?=some q:=by rw[hq];rfl
   rw[List.getElem?_drop,Nat.add_zero] at h3
   rw[List.getD_eq_getElem?_getD,h3];rfl
  have hqm:q∈ps:=List.mem_of_mem_drop (by rw[hq];exact List.mem_cons_self)
  exact⟨(h.lf q hqm).ok.ne,by rw[←hq2];exact h2 hl⟩
inductive GtAt (t:Tl) (j:Jl) (m:Nat) (w wr:World) (Bp:Nat) (l:List Et) (key:List UInt8):Nat→Prop
 | leaf (at_:Int) (l':List Et) (ve vk:Value) (L:List Eq3) (hB:Blk wr Bp 133 [.int .i64 at_,.int .i64 0,ve,vk]) (hp:PgR 0 wr ⟨0,l',[]⟩ ve vk L) (hl:LfOk l') (hg:getE13 l key=getE13 l' key) (hh:hasE13 l key=hasE13 l' key):GtAt t j m w wr Bp l key 0
 | node (s:Nat) (ps:Ps) (ve vk:Value) (hB:Blk wr Bp 133 [.int .i64 (s:Int),.int .i64 1,ve,vk]) (hz:RdZ wr vk (ps.map (·.1))) (hve:∃a n c,ve=.slice a n c) (hn:NdAt t j s ps) (hl:l=entsP ps) (hk:Tk t j m ((s:Int):: secsP ps)):GtAt t j m w wr Bp l key 1
theorem store_pg {w:World}{B:Nat}{c0 c1 c2 c3 d0 d1 d2 d3:Value}(h:Blk w B 133 [c0,c1,c2,c3]):Blk ((((w.setCell ⟨B,0,none⟩ d0).setCell ⟨B,1,none⟩ d1).setCell ⟨B,2,none⟩ d2).setCell ⟨B,3,none⟩ d3) B 133 [d0,d1,d2,d3]:=(((h.set 0 d0).set 1 d1).set 2 d2).set 3 d3
theorem pgGet (w:World)(S J P base m:Nat)(t:Tl)(j:Jl)(root:Nat)(l:List Et)(SS:List Int)(ka:Option Addr)(kn kc:Nat)(key:List UInt8)(h:SpAx w S J P base t j)(hk:Tk t j m SS)(ht:TR t j root l SS)(hkey:IsB w ka kn kc key):
  Calls Tryz.prog 49 #[gT S,.int .i64 (root:Int),.slice ka kn kc] w fun e w'=>(∃v,e=.returned (.tuple #[v,.bool (hasE13 l key)])∧IsV w' v (getE13 l key))∧Below w.heap.size w w':=by
 have hf:=hk.fit
 rcases ht.2 with⟨rfl,rfl,rfl⟩|hcase
 ·unfold gT
  go_enter Tryz.func49,Tryz.ntmps49
  go_wp2_with fail
  go_ret2
  exact⟨⟨_,rfl,IsV.nil _⟩,(Below.refl _ w).alloc (Nat.le_refl _) _⟩
 ·have hroot:51≤root∧root<j.p.n:=by
   have:(root:Int)∈SS:=by
    rcases hcase with⟨h1,_⟩|⟨ps,_,_,h1⟩
    ·rw[h1];exact List.mem_cons_self
    ·rw[h1];exact List.mem_cons_self
   have:=hk.rng _ this
   omega
  have hn2:=hf.few.n
  obtain⟨pp,hpp,hfirst⟩:∃pp:Pg,pgOf (spRdB t j (root:Int))=some pp∧((pp=⟨0,l,[]⟩∧LfOk l)∨∃ps,pp=⟨1,[],ps.map (·.1)⟩∧NdAt t j root ps∧l=entsP ps∧SS=(root:Int):: secsP ps):=by
   rcases hcase with⟨_,h2⟩|⟨ps,h1,h2,h3⟩
   ·exact⟨_,by rw[h2.rd];exact pg_leaf h2.ok,.inl ⟨rfl,h2.ok⟩⟩
   ·refine⟨⟨1,[],ps.map (·.1)⟩,?_,.inr ⟨ps,rfl,h1,h2,h3⟩⟩
    rw[h1.rd]
    refine pg_node (by rw[List.length_map];exact h1.n) (by rw[List.length_map];exact h1.n2) (fun i hi=>?_)
    obtain⟨p,hp,rfl⟩:=List.mem_map.1 hi
    have:=hk.rng (p.1:Int) (by rw[h3];exact List.mem_cons_of_mem _ (List.mem_map.2 ⟨p,hp,rfl⟩))
    omega
  have hY:Below w.heap.size w (w.alloc (.cells #[.pointer (some ⟨S,0,none⟩)] 87)):=(Below.refl _ w).alloc (Nat.le_refl _) _
  have kG:=Blk.new w 87 [.pointer (some ⟨S,0,none⟩)]
  have HRd:=pgRead _ S J P base m t j root pp (SpAx.keep h (KeepT.of_below hY)) hf hroot.1 hroot.2 hpp
  unfold gT at *
  have c0:=kG.cell 0
  simp only[List.getElem?_cons_zero] at c0
  have hr0:¬(root:Int)=0:=by omega
  have HKG:=mkHid kG
  have HY:=mkHid hY
  have HSx:Hid (∀W,Below w.heap.size w W→SpAx W S J P base t j):=fun W hW=>SpAx.keep h (KeepT.of_below hW)
  have HKy:Hid (∀W,Below w.heap.size w W→IsB W ka kn kc key):=fun W hW=>hkey.below hW rfl
  have HTk:=mkHid hk
  have HTs:=mkHid ht.1
  have HFst:=mkHid hfirst
  clear h hk ht hkey hcase hfirst kG hY
  go_enter Tryz.func49,Tryz.ntmps49
  go_wp2_with fail
  refine HRd.mono ?_
  rintro e y1 ⟨⟨v1,ve1,vk1,L1,rfl,hp1⟩,hb1⟩
  have hv1:=hp1.v
  obtain⟨ea1,ec1,he1,_⟩:=hp1.e.form
  obtain⟨ka1,kc1,hk1,_⟩:=hp1.k.isZ
  rw[List.length_map] at hk1
  subst he1 hk1 hv1
  unfold pgc
  have hB1:=HY.out.trans (hb1.mono HY.out.size)
  have hAl:=(Below.refl _ y1).alloc (Nat.le_refl _) (.cells #[.int .i64 (root:Int),.int .i64 (pp.lv:Int),.slice ea1 L1.length ec1,.slice ka1 pp.ks.length kc1] 133)
  have HB2:=mkHid (hB1.trans (hAl.mono hB1.size))
  have HKG2:=mkHid ((HKG.out.on hb1).on hAl)
  have hsz:w.heap.size+1≤y1.heap.size:=Nat.le_trans HKG.out.lt hb1.size
  have HG0:Hid (∃q,q≤1∧GtAt t j m w (y1.alloc (.cells #[.int .i64 (root:Int),.int .i64 (pp.lv:Int),.slice ea1 L1.length ec1,.slice ka1 pp.ks.length kc1] 133)) y1.heap.size l key q):=by
   have hnb:=Blk.new y1 133 [.int .i64 (root:Int),.int .i64 (pp.lv:Int),.slice ea1 L1.length ec1,.slice ka1 pp.ks.length kc1]
   have hpr:=(hp1.below hAl).r
   rcases HFst.out with⟨e,hl⟩|⟨ps,e,hn,hl,hSS⟩
   ·subst e
    exact⟨0,by omega,.leaf _ l _ _ L1 hnb hpr hl rfl rfl⟩
   ·subst e
    exact⟨1,by omega,.node root ps _ _ hnb hpr.k ⟨_,_,_,rfl⟩ hn hl (hSS▸HTk.out)⟩
  clear HRd hp1 hAl hB1 hb1 HY HKG c0
  go_wp2_with fail
  generalize y1.alloc (.cells #[.int .i64 (root:Int),.int .i64 (pp.lv:Int),.slice ea1 L1.length ec1,.slice ka1 pp.ks.length kc1] 133)=Z at *
  generalize y1.heap.size=Bp at *
  go_loopg [17] 1 (fun kx _ wr=>Hid (Below w.heap.size w wr)∧Hid (Blk wr w.heap.size 87 [.pointer (some ⟨S,0,none⟩)])∧Hid (∃q,q≤kx∧GtAt t j m w wr Bp l key q))
  case atStart=>exact⟨HB2,HKG2,HG0⟩
  case round =>
   clear HB2 HKG2 HG0
   obtain⟨HB,HKG,HG⟩:=hrel
   obtain⟨q,hq,hG⟩:=HG.out
   cases hG with
   | leaf at2 l' ve2 vk2 L2 hB2 hp2 hl2 hg2 hh2 =>
    obtain⟨ea2,ec2,ka2,kc2,he2,hk2⟩:=hp2.forms
    subst he2 hk2
    change PgR 0 wr ⟨0,l',[]⟩ (.slice ea2 l'.length ec2) (.slice ka2 0 kc2) L2 at hp2
    change Blk wr Bp 133 [.int .i64 at2,.int .i64 0,.slice ea2 l'.length ec2,.slice ka2 0 kc2] at hB2
    have HPR:=mkHid hp2
    have HBk:=mkHid hB2
    have b0:=hB2.cell 0
    have b1:=hB2.cell 1
    have b2:=hB2.cell 2
    have b3:=hB2.cell 3
    simp only[gZ0,gZ1] at b0 b1 b2 b3
    have hes:L2.map Prod.fst=l':=hp2.es
    have HF:=codFind13 at2 0 (.slice ea2 l'.length ec2) (.slice ka2 0 kc2) L2 ka kn kc key wr hp2.e (by rw[hes];exact hl2.srt) (HKy.out wr HB.out) (by rw[←List.length_map (f:=Prod.fst),hes];have:=hl2.len;omega)
    rw[hes,←hh2] at HF
    unfold pgc at HF
    simp only[Int.natCast_zero] at HF
    have HGe:=mkHid hg2
    have HHe:=mkHid hh2
    have HEs:=mkHid hes
    have hlen:L2.length=l'.length:=by rw[←hes,List.length_map]
    have HLf:=mkHid hl2
    clear hp2 hB2 HG hg2 hh2 hl2 hes
    cases hhas:hasE13 l key with
    | false =>
     rw[hhas] at HF
     have HGn:Hid (getE13 l key=[]):=by
      unfold Hid
      unfold getE13
      unfold hasE13 at hhas
      rw[hhas]
      rfl
     go_wp2_with fail
     refine HF.mono ?_
     rintro e y3 ⟨rfl,hb3⟩
     go_wp2_with fail
     go_ret2
     exact⟨⟨_,by rw[hhas];rfl,by rw[HGn.out];exact IsV.nil _⟩,HB.out.trans (hb3.mono HB.out.size)⟩
    | true =>
     rw[hhas] at HF
     have hh2:hasE13 l' key=true:=by rw[←HHe.out];exact hhas
     have hat:atE l' key<l'.length:=by
      unfold hasE13 isE at hh2
      rw[Bool.and_eq_true,decide_eq_true_eq] at hh2
      exact hh2.1
     have HGv:Hid (getE13 l key=(l'.getD (atE l' key) et0).v):=by
      unfold Hid
      rw[HGe.out]
      unfold getE13
      unfold hasE13 at hh2
      rw[if_pos hh2]
     obtain⟨x,hx⟩:∃x,L2[atE l' key]?=some x:=⟨_,List.getElem?_eq_getElem (by omega)⟩
     have hxe:l'.getD (atE l' key) et0=x.1:=by have:=getD_map L2 (atE l' key) x hx;rw[HEs.out] at this;exact this
     rw[hxe] at HGv
     have HPy:Hid (∀W,Below wr.heap.size wr W→RdN 0 W (.slice ea2 l'.length ec2) L2):=fun W hW=>HPR.out.e.keep (KeepU.of_below hW)
     have hvl:x.1.v.length≤1000000:=by
      have:=item_facts (HLf.out.ok x.1 (by rw[←HEs.out];exact List.mem_map.2 ⟨x,List.mem_of_getElem? hx,rfl⟩))
      omega
     generalize atE l' key=ai at *
     generalize l'.length=n' at *
     have hai:(ai:Int)<(n':Int):=by omega
     have hai0:(0:Int)≤(ai:Int):=by omega
     go_wp2_with fail
     refine HF.mono ?_
     rintro e y3 ⟨rfl,hb3⟩
     obtain⟨-,-,g,off,hae,d0,d1,hIE⟩:=(HPy.out y3 hb3).at_ ai x hx
     subst hae
     have p2:y3.cell? ⟨Bp,2,none⟩=some (.slice (some ⟨g,off,none⟩) n' ec2):=(HBk.out.on hb3).cell 2
     have HCl:=codClone13 x.2.b x.1.v.length x.2.d x.1.v y3 hIE.v hvl
     have HB3:=mkHid (HB.out.trans (hb3.mono HB.out.size))
     clear HF hb3 b0 b1 b2 b3 hIE
     generalize x.1.v=xv at *
     go_wp2_with fail
     refine HCl.mono ?_
     rintro e y4 ⟨⟨v4,rfl,ho4⟩,hb4⟩
     obtain⟨va4,vc4,hv4,hi4⟩:=ho4.isB
     subst hv4
     go_wp2_with fail
     go_ret2
     exact⟨⟨_,by rw[hhas];rfl,by rw[HGv.out];exact⟨va4,vc4,rfl,hi4⟩⟩,HB3.out.trans (hb4.mono HB3.out.size)⟩
   | node s2 ps ve2 vk2 hB2 hz2 hve2 hn2 hl2 hk2 =>
    obtain⟨ea2,en2,ec2,he2⟩:=hve2
    have hzz:=hz2
    obtain⟨za,zc,hzv,_⟩:=hz2
    subst he2 hzv
    have hps:ps.length≤254:=hn2.n2
    have hps2:2≤ps.length:=hn2.n
    have HKl:=mkHid (node_kids hn2 hk2)
    have HNd:=mkHid hn2
    have HLp:=mkHid hl2
    have b1:wr.cell? ⟨Bp,1,none⟩=some (.int .i64 1):=hB2.cell 1
    have HBp:=mkHid hB2
    have HZp:=mkHid hzz
    have HD:Below wr.heap.size wr wr.drew:=Below.drew (Below.refl _ wr)
    have HFd:=pgFind wr.drew S J P base m t j (s2:Int) (.slice ea2 en2 ec2) (.slice za (ps.map (·.1)).length zc) (ps.map (·.1)) _ ka kn kc key (HSx.out _ (HB.out.trans (HD.mono HB.out.size))) hf (hzz.keep (KeepO.of_below HD)) ⟨_,_,_,rfl⟩ (HKy.out _ (HB.out.trans (HD.mono HB.out.size))) HKl.out (by rw[List.length_map];omega) (by rw[List.length_map];omega)
    have HDd:=mkHid HD
    unfold gT pgc at HFd
    simp only[Int.natCast_one] at HFd
    obtain⟨nz,hnz⟩:∃nz,(ps.map (·.1)).length=nz:=⟨_,rfl⟩
    rw[hnz] at HFd HBp HZp
    have HNz:=mkHid hnz
    have HCt:Hid (∀W,Below wr.heap.size wr W→W.cell? ⟨w.heap.size,0,none⟩=some (.pointer (some ⟨S,0,none⟩))∧W.cell? ⟨Bp,0,none⟩=some (.int .i64 (s2:Int))∧W.cell? ⟨Bp,1,none⟩=some (.int .i64 1)∧W.cell? ⟨Bp,2,none⟩=some (.slice ea2 en2 ec2)∧W.cell? ⟨Bp,3,none⟩=some (.slice za nz zc)):=fun W hW=>⟨(HKG.out.on hW).cell 0,(HBp.out.on hW).cell 0,(HBp.out.on hW).cell 1,(HBp.out.on hW).cell 2,(HBp.out.on hW).cell 3⟩
    clear hB2 hzz hn2 hl2 hk2 HG hnz HD
    go_wp2_with fail
    refine lk0 (fun W=>W.cell? ⟨w.heap.size,0,none⟩=some (.pointer (some ⟨S,0,none⟩))∧W.cell? ⟨Bp,0,none⟩=some (.int .i64 (s2:Int))∧W.cell? ⟨Bp,1,none⟩=some (.int .i64 1)∧W.cell? ⟨Bp,2,none⟩=some (.slice ea2 en2 ec2)∧W.cell? ⟨Bp,3,none⟩=some (.slice za nz zc)) 7 (HCt.out _ HDd.out) (fun hHeld=>?_)
    generalize wr.drew=Y1 at *
    refine lkT 19 0 (.agg #[.pointer (some ⟨S,0,none⟩)]) rfl (Or.inl ⟨by rfl,?_⟩) hHeld ?_
    ·intro w hSw;obtain⟨s0,s1,s2,s3,s4⟩:=hSw;go_simp
    (try simp only[Act.put,sIx,sZ0,sZ1])
    refine lkT 20 1 (.agg #[.int .i64 (s2:Int),.int .i64 1,.slice ea2 en2 ec2,.slice za nz zc]) rfl (Or.inl ⟨by rfl,?_⟩) hHeld ?_
    ·intro w hSw;obtain⟨s0,s1,s2,s3,s4⟩:=hSw;go_simp
    (try simp only[Act.put,sIx,sZ0,sZ1])
    refine lkT 21 2 (.agg #[.pointer (some ⟨S,0,none⟩)]) rfl (Or.inl ⟨by rfl,?_⟩) hHeld ?_
    ·intro w hSw;obtain⟨s0,s1,s2,s3,s4⟩:=hSw;go_simp
    (try simp only[Act.put,sIx,sZ0,sZ1])
    refine lkT 22 3 (.agg #[.int .i64 (s2:Int),.int .i64 1,.slice ea2 en2 ec2,.slice za nz zc]) rfl (Or.inl ⟨by rfl,?_⟩) hHeld ?_
    ·intro w hSw;obtain⟨s0,s1,s2,s3,s4⟩:=hSw;go_simp
    (try simp only[Act.put,sIx,sZ0,sZ1])
    refine lkT 23 4 ?_ rfl (Or.inl ⟨by rfl,?_⟩) hHeld ?_
    rotate_left
    ·intro w hSw;obtain⟨s0,s1,s2,s3,s4⟩:=hSw;go_simp;with_reducible rfl
    (try simp only[Act.put,sIx,sZ0,sZ1])
    refine lk1 5 rfl (fun K hK=>?_)
    go_simp
    go_wp2_with (go_at_call 73;refine HFd.mono ?_;rintro e y2 ⟨⟨i,rfl,hi,hlo,hhi⟩,hb2⟩)
    have hb2':=HDd.out.trans (hb2.mono HDd.out.size)
    have HB2:=mkHid hb2'
    refine hK.out _ _ (HCt.out _ hb2') (fun hHeld=>?_)
    (try simp only[Act.put,sIx,sZ0,sZ1])
    clear hK K HFd
    have hi2:i<ps.length:=by rw[←List.length_map (f:=fun p:Nat × List Et=>p.1),HNz.out];exact hi
    obtain⟨A,p,B,hpe,hAl,hpi,hpm,hlt,hgt⟩:=node_cut (key:=key) HNd.out (HLp.out▸HTs.out) hi2 hlo (fun h=>hhi (by rw[←HNz.out,List.length_map];exact h))
    have hks:(ps.map (·.1))[i]?=some p.1:=by
     rw[List.getElem?_map,List.getElem?_eq_getElem hi2]
     have:ps.getD i (0,[])=ps[i]:=by simp[hi2]
     rw[←this,hpi];rfl
    obtain⟨q51,qn,qpg,_⟩:=HKl.out i p.1 hks
    change pgOf (spRdB t j (p.1:Int))=some ⟨0,(ps.getD i (0,[])).2,[]⟩ at qpg
    rw[hpi] at qpg
    have HKd:=pgKid y2 S J P base m t j (s2:Int) 1 (.slice ea2 en2 ec2) (.slice za nz zc) (ps.map (·.1)) i p.1 ⟨0,p.2,[]⟩ (HSx.out _ (HB.out.trans (hb2'.mono HB.out.size))) hf (HZp.out.keep (KeepO.of_below hb2')) hks q51 qn qpg rfl (by omega)
    unfold gT pgc at HKd
    simp only[Int.natCast_one] at HKd
    have HEq:Hid (getE13 l key=getE13 p.2 key∧hasE13 l key=hasE13 p.2 key∧LfOk p.2):=by
     have e1:l=entsP A++(p.2++entsP B):=by rw[HLp.out,hpe,entsP_append,entsP]
     rw[e1]
     exact⟨mid_get hlt hgt,mid_has hlt hgt,(HNd.out.lf p hpm).ok⟩
    clear hlo hhi hpe hpm hlt hgt hks qpg hb2 hb2' hpi
    refine lk1 6 rfl (fun K hK=>?_)
    go_simp
    go_wp2_with (go_at_call 72;refine HKd.mono ?_;rintro e y3 ⟨⟨v3,ve3,vk3,L3,rfl,hp3⟩,hb3⟩)
    have hb3':=HB2.out.trans (hb3.mono HB2.out.size)
    have HB3:=mkHid hb3'
    refine hK.out _ _ (HCt.out _ hb3') (fun hHeld=>?_)
    (try simp only[Act.put,sIx,sZ0,sZ1])
    clear hK K HKd
    obtain⟨ea3,ec3,he3,_⟩:=hp3.e.form
    obtain⟨ka3,kc3,hk3,_⟩:=hp3.k.isZ
    have hv3:=hp3.v
    subst he3 hk3 hv3
    have HP3:=mkHid hp3
    have a:=HBp.out.on hb3'
    have a0:=a.cell 0
    have a1:=a.cell 1
    have a2:=a.cell 2
    have a3:=a.cell 3
    simp only[gZ0,gZ1] at a0 a1 a2 a3
    have f0:=a.frozen 0
    have f1:=a.frozen 1
    have f2:=a.frozen 2
    have f3:=a.frozen 3
    have HAb:=mkHid a
    clear hp3 hb3 hb3' a
    unfold pgc
    simp only[List.length_map,Int.natCast_zero]
    refine lkZ rfl (fun K hK=>?_)
    go_simp
    refine hK.out _ _ (NoPanic.normal ?_)
    (try simp only[Act.put,sIx,sZ0,sZ1])
    clear hK K hHeld a0 a1 a2 a3 f0 f1 f2 f3
    have hg3:=grown4 y3 Bp (.int .i64 (p.1:Int)) (.int .i64 0) (.slice ea3 L3.length ec3) (.slice ka3 0 kc3)
    have hB9:Below w.heap.size w ((((y3.setCell ⟨Bp,0,none⟩ (.int .i64 (p.1:Int))).setCell ⟨Bp,1,none⟩ (.int .i64 0)).setCell ⟨Bp,2,none⟩ (.slice ea3 L3.length ec3)).setCell ⟨Bp,3,none⟩ (.slice ka3 0 kc3)):=by
     have h1:=HB.out.trans (HB3.out.mono HB.out.size)
     exact h1.grown hg3 h1.size (fun k e=>by have:=Option.some.inj e;omega)
    have hK9:Blk ((((y3.setCell ⟨Bp,0,none⟩ (.int .i64 (p.1:Int))).setCell ⟨Bp,1,none⟩ (.int .i64 0)).setCell ⟨Bp,2,none⟩ (.slice ea3 L3.length ec3)).setCell ⟨Bp,3,none⟩ (.slice ka3 0 kc3)) w.heap.size 87 [.pointer (some ⟨S,0,none⟩)]:=(hg3.block w.heap.size (HKG.out.on HB3.out).lt (fun e=>by have:=Option.some.inj e;omega)).trans (HKG.out.on HB3.out)
    have hG9:GtAt t j m w ((((y3.setCell ⟨Bp,0,none⟩ (.int .i64 (p.1:Int))).setCell ⟨Bp,1,none⟩ (.int .i64 0)).setCell ⟨Bp,2,none⟩ (.slice ea3 L3.length ec3)).setCell ⟨Bp,3,none⟩ (.slice ka3 0 kc3)) Bp l key 0 :=
     .leaf _ p.2 _ _ L3 (store_pg HAb.out) ((HP3.out.keep (KeepO.grown1 HAb.out (by decide) hg3)).r) HEq.out.2.2 HEq.out.1 HEq.out.2.1
    have HB9:=mkHid hB9
    have HK9:=mkHid hK9
    have HG9:Hid (∃q,q≤0∧GtAt t j m w ((((y3.setCell ⟨Bp,0,none⟩ (.int .i64 (p.1:Int))).setCell ⟨Bp,1,none⟩ (.int .i64 0)).setCell ⟨Bp,2,none⟩ (.slice ea3 L3.length ec3)).setCell ⟨Bp,3,none⟩ (.slice ka3 0 kc3)) Bp l key q):=⟨0,Nat.le_refl _,hG9⟩
    clear hB9 hK9 hG9 hg3
    generalize (((y3.setCell ⟨Bp,0,none⟩ (.int .i64 (p.1:Int))).setCell ⟨Bp,1,none⟩ (.int .i64 0)).setCell ⟨Bp,2,none⟩ (.slice ea3 L3.length ec3)).setCell ⟨Bp,3,none⟩ (.slice ka3 0 kc3)=Z9 at *
    go_wp2_with fail
    go_roundg 0
    case measure=>omega
    case rel=>exact⟨HB9,HK9,HG9⟩
theorem idle13 (E:Nat)(w:World):
  CallsD Tryz.prog 64 #[.pointer (some ⟨E,0,none⟩)] .returning w fun e u' w'=>e=.returned (.tuple #[])∧u'=.returning∧w'=w:=by
 refine callsD_of_wpS Tryz.func64 rfl fun c₀ cs hu=>?_
 apply wpS_seq
 apply wpS_region
 simp[wpOpsS,go_sem,recoverD,hu,Tryz.ntmps64,Exit.thenS]
 apply wpS_seq
 apply wpS_region
 simp[wpOpsS,go_sem,Exit.thenS]
 refine wpS_cond (t:=false) (by simp[Act.eval,Array.replicate]) ?_
 simp only[Bool.false_eq_true,if_false]
 refine wpS_of_wp (wp_skip ?_)
 cases c₀
 simp_all [bodyPostS,results,Tryz.results64]
theorem load_er13 (w:World)(g:Nat)(v:Value)(h:Blk w g 30 [v]):(loadVar 30 ⟨g,0,none⟩).run Tryz.prog w=.ok v w:=by
 have hc:w.cell? ⟨g,0,none⟩=some v:=h.cell 0
 simp[loadVar,go_sem,hc]
theorem guardRet (tmps:Array Value)(k:Value)(w1:World)(N:Nat)(R:Ending→World→Prop)
  (h2:tmps.getD 2 undef=.pointer (some ⟨N,0,none⟩)) (KE:Blk w1 N 30 [k]) (hR:R (.returned k) w1):
  bodyPostD Tryz.prog Tryz.f41 R .ret { tmps:=tmps,defers:=[{ target:=.fn (.func 64) #[.pointer (some ⟨N,0,none⟩)],args:=#[] }] } w1:=by
 refine leaves_cons (f:=64) (args:=#[.pointer (some ⟨N,0,none⟩)]) (by simp) (by simp[go_sem]) ?_
 refine(idle13 N w1).mono ?_
 rintro e u' w'' ⟨rfl,rfl,rfl⟩
 exact⟨_,results_cell1 (P:=Tryz.prog) rfl tmps w'' N _ h2 (load_er13 w'' N _ KE),hR⟩
theorem guardYes (f:Nat)(cap:Array Value)(w:World)(R:World→Prop)(hB:∀W,R W→Blk W w.heap.size 30 [.int .i64 0])(hf:∀args w,(callFunc f args).run Tryz.prog w=.ok (.enter f args) w)
  (hdo:Calls Tryz.prog f cap (w.alloc (.cells #[.int .i64 0] 30)) fun e w'=>e=.returned (.tuple #[])∧R w'):
  Calls Tryz.prog 41 #[.func (.func f) #[] cap] w fun e w'=>∃w1,R w1∧e=.returned (.int .i64 0)∧w'=w1.setCell ⟨w.heap.size,0,none⟩ (.int .i64 0):=by
 have hmf:=mkF0
 go_enter_defers Tryz.func41,Tryz.ntmps41
 go_wp2_with (go_at_fn f;refine hdo.mono ?_;rintro x w1 ⟨rfl,hR⟩;have KE:=hB w1 hR;have q1:w1.cell? ⟨w.heap.size,0,none⟩=some (.int .i64 0):=KE.cell 0;have f1:=KE.frozen 0)
 exact guardRet _ _ _ w.heap.size _ rfl (KE.set 0 _) ⟨w1,hR,rfl,rfl⟩
theorem load_sl13 (w:World)(g:Nat)(v:Value)(h:Blk w g 33 [v]):(loadVar 33 ⟨g,0,none⟩).run Tryz.prog w=.ok v w:=by
 have hc:w.cell? ⟨g,0,none⟩=some v:=h.cell 0
 simp[loadVar,go_sem,hc]
theorem load_bo13 (w:World)(g:Nat)(v:Value)(h:Blk w g 4 [v]):(loadVar 4 ⟨g,0,none⟩).run Tryz.prog w=.ok v w:=by
 have hc:w.cell? ⟨g,0,none⟩=some v:=h.cell 0
 simp[loadVar,go_sem,hc]
theorem results_cct {P:Program}{fn:Func}{p u q:Tmp}{ty tu:TypeId}(h:fn.results=#[.cell p ty,.cell u tu,.tmp q])(tmps:Array Value)(w:World)(g g2:Nat)(x v:Value)
  (hp:tmps.getD p undef=.pointer (some ⟨g,0,none⟩)) (hl:(loadVar ty ⟨g,0,none⟩).run P w=.ok x w)
  (hp2:tmps.getD u undef=.pointer (some ⟨g2,0,none⟩)) (hl2:(loadVar tu ⟨g2,0,none⟩).run P w=.ok v w):
  (results fn tmps).run P w=.ok (.tuple #[x,v,tmps.getD q undef]) w:=by
 have q1:tmps[p]?.getD undef=.pointer (some ⟨g,0,none⟩):=by simpa using hp
 have q2:tmps[u]?.getD undef=.pointer (some ⟨g2,0,none⟩):=by simpa using hp2
 simp only[results,h]
 simp[Sem.run_bind,Result.andThen,q1,q2,asAddr,hl,hl2]
theorem isB_ne13 {w:World}{a:Option Addr}{len cap:Nat}{l:List UInt8}{B t:Nat}{v:Value}(h:IsB w a len cap l)(hb:Blk w B t [v])(hv:∀n:Int,v≠.int .u8 n):0<len→∀x,a=some x→x.block≠B:=fun hp x hx e=>by
 obtain⟨b,off,e1,hc⟩:=h.cells hp
 have h0:=hc 0 hp
 rw[hx] at e1
 have e2:=Option.some.inj e1
 subst e2
 change b=B at e
 subst e
 rw[Nat.add_zero,cell_of_row w b off _ _ _ hb] at h0
 cases off with
 | zero=>exact hv _ (Option.some.inj h0)
 | succ n=>simp at h0
structure GvAt (W:World)(N S:Nat)(root:Int)(kv:Value)(v h:Value):Prop where
 t:Blk W N 26 [.pointer (some ⟨S,0,none⟩)]
 r:Blk W (N+1) 3 [.int .i64 root]
 k:Blk W (N+2) 33 [kv]
 v:Blk W (N+3) 33 [v]
 h:Blk W (N+4) 4 [h]
theorem GvAt.on {W W':World}{N S:Nat}{root:Int}{kv v h:Value}(g:GvAt W N S root kv v h)(hb:Below W.heap.size W W'):GvAt W' N S root kv v h:=⟨g.t.on hb,g.r.on hb,g.k.on hb,g.v.on hb,g.h.on hb⟩
theorem codGet1 (w:World)(S J P base m N:Nat)(t:Tl)(j:Jl)(root:Nat)(l:List Et)(SS:List Int)(ka:Option Addr)(kn kc:Nat)(key:List UInt8)(h:SpAx w S J P base t j)(hk:Tk t j m SS)(ht:TR t j root l SS)(hkey:IsB w ka kn kc key)(hg:GvAt w N S (root:Int) (.slice ka kn kc) (.slice none 0 0) (.bool false))(hE:Blk w (N+5) 30 [.int .i64 0]):
  Calls Tryz.prog 48 #[.pointer (some ⟨N,0,none⟩),.pointer (some ⟨N+1,0,none⟩),.pointer (some ⟨N+2,0,none⟩),.pointer (some ⟨N+3,0,none⟩),.pointer (some ⟨N+4,0,none⟩)] w fun e w'=>e=.returned (.tuple #[])∧∃v,GvAt w' N S (root:Int) (.slice ka kn kc) v (.bool (hasE13 l key))∧IsV w' v (getE13 l key)∧Blk w' (N+5) 30 [.int .i64 0]∧Below N w w':=by
 have HG:=pgGet w S J P base m t j root l SS ka kn kc key h hk ht hkey
 unfold gT at HG
 have c0:w.cell? ⟨N,0,none⟩=some (.pointer (some ⟨S,0,none⟩)):=hg.t.cell 0
 have c1:w.cell? ⟨N+1,0,none⟩=some (.int .i64 (root:Int)):=hg.r.cell 0
 have c2:w.cell? ⟨N+2,0,none⟩=some (.slice ka kn kc):=hg.k.cell 0
 have HGv:=mkHid hg
 have HE:=mkHid hE
 clear h hk ht hkey hg hE
 generalize hasE13 l key=hh at *
 generalize getE13 l key=gg at *
 go_enter Tryz.func48,Tryz.ntmps48
 go_wp2_with fail
 refine HG.mono ?_
 rintro e y1 ⟨⟨v1,rfl,hv1⟩,hb1⟩
 obtain⟨va,vc,rfl,hi⟩:=hv1
 have g1:=HGv.out.on hb1
 have e1:=HE.out.on hb1
 have a3:=g1.v.cell 0
 have a4:=g1.h.cell 0
 simp only[List.getElem?_cons_zero] at a3 a4
 have f3:=g1.v.frozen 0
 have f4:=g1.h.frozen 0
 have HG1:=mkHid g1
 have HE1:=mkHid e1
 have HI1:=mkHid hi
 have HB1:=mkHid hb1
 clear HG hb1 hi g1 e1
 go_wp2_with fail
 go_end0
 refine⟨rfl,.slice va gg.length vc,?_⟩
 have i1:=HI1.out.setOther (N+3) 0 (.slice va gg.length vc) (isB_ne13 HI1.out HG1.out.v (fun n e=>by cases e))
 have h4:Blk (y1.setCell ⟨N+3,0,none⟩ (.slice va gg.length vc)) (N+4) 4 [.bool false]:=HG1.out.h.other _ _ (by show N+4≠N+3;omega)
 have i2:=i1.setOther (N+4) 0 (.bool hh) (isB_ne13 i1 h4 (fun n e=>by cases e))
 refine⟨⟨(HG1.out.t.other _ _ (by show N≠N+3;omega)).other _ _ (by show N≠N+4;omega),(HG1.out.r.other _ _ (by show N+1≠N+3;omega)).other _ _ (by show N+1≠N+4;omega),(HG1.out.k.other _ _ (by show N+2≠N+3;omega)).other _ _ (by show N+2≠N+4;omega),(HG1.out.v.set 0 _).other _ _ (by show N+3≠N+4;omega),h4.set 0 _⟩,⟨va,vc,rfl,i2⟩,(HE1.out.other _ _ (by show N+5≠N+3;omega)).other _ _ (by show N+5≠N+4;omega),?_⟩
 exact((HB1.out.mono (Nat.le_of_lt HGv.out.t.lt)).setCell (p:=⟨N+3,0,none⟩) (by show N≤N+3;omega) _).setCell (p:=⟨N+4,0,none⟩) (by show N≤N+4;omega) _
def GetPost (l:List Et)(key:List UInt8)(w:World)(e:Ending)(w':World):Prop:=(∃v h,e=.returned (.tuple #[v,.bool h,.int .i64 (if keyOk key=true then 0 else 1)])∧(keyOk key=true→h=hasE13 l key∧IsV w' v (getE13 l key)))∧Below w.heap.size w w'
theorem codGet13 (w:World)(S J P base m:Nat)(t:Tl)(j:Jl)(root:Nat)(l:List Et)(SS:List Int)(ka:Option Addr)(kn kc:Nat)(key:List UInt8)(h:SpAx w S J P base t j)(hk:Tk t j m SS)(ht:TR t j root l SS)(hkey:IsB w ka kn kc key):
  Calls Tryz.prog 19 #[.pointer (some ⟨S,0,none⟩),.int .i64 (root:Int),.slice ka kn kc] w (GetPost l key w):=by
 have hkn:=hkey.len_eq
 have HIK:=codIsKey ka kn kc
 have hko:decide (1≤kn∧kn≤100)=keyOk key:=by unfold keyOk;rw[hkn]
 rw[hko] at HIK
 clear hko
 have hmf:=mkF0
 obtain⟨Y0,hY0⟩:∃Y0,Y0=((((w.alloc (.cells #[.pointer (some ⟨S,0,none⟩)] 26)).alloc (.cells #[.int .i64 (root:Int)] 3)).alloc (.cells #[.slice ka kn kc] 33)).alloc (.cells #[.slice none 0 0] 33)).alloc (.cells #[.bool false] 4):=⟨_,rfl⟩
 have hB0:Below w.heap.size w Y0:=by rw[hY0];exact(((((Below.refl _ w).alloc (Nat.le_refl _) _).alloc (by simp) _).alloc (by simp;omega) _).alloc (by simp;omega) _).alloc (by simp;omega) _
 have hG0:GvAt Y0 w.heap.size S (root:Int) (.slice ka kn kc) (.slice none 0 0) (.bool false):=by
  rw[hY0]
  exact⟨((((Blk.newAt w w.heap.size 26 _ [.pointer (some ⟨S,0,none⟩)] rfl rfl).alloc _).alloc _).alloc _).alloc _,(((Blk.newAt _ (w.heap.size+1) 3 _ [.int .i64 (root:Int)] (by simp) rfl).alloc _).alloc _).alloc _,((Blk.newAt _ (w.heap.size+2) 33 _ [.slice ka kn kc] (by simp) rfl).alloc _).alloc _,(Blk.newAt _ (w.heap.size+3) 33 _ [.slice none 0 0] (by simp) rfl).alloc _,Blk.newAt _ (w.heap.size+4) 4 _ [.bool false] (by simp) rfl⟩
 have hs0:Y0.heap.size=w.heap.size+5:=by rw[hY0];simp
 have hA:=(Below.refl _ Y0).alloc (Nat.le_refl _) (.cells #[.int .i64 0] 30)
 have hBA:=hB0.trans (hA.mono hB0.size)
 have hEA:Blk (Y0.alloc (.cells #[.int .i64 0] 30)) (w.heap.size+5) 30 [.int .i64 0]:=Blk.newAt Y0 (w.heap.size+5) 30 _ [.int .i64 0] hs0 rfl
 have HGd:=guardYes 48 #[.pointer (some ⟨w.heap.size,0,none⟩),.pointer (some ⟨w.heap.size+1,0,none⟩),.pointer (some ⟨w.heap.size+2,0,none⟩),.pointer (some ⟨w.heap.size+3,0,none⟩),.pointer (some ⟨w.heap.size+4,0,none⟩)] Y0
  (fun W=>∃v,GvAt W w.heap.size S (root:Int) (.slice ka kn kc) v (.bool (hasE13 l key))∧IsV W v (getE13 l key)∧Blk W (w.heap.size+5) 30 [.int .i64 0]∧Below w.heap.size (Y0.alloc (.cells #[.int .i64 0] 30)) W)
  (fun W ⟨_,_,_,hE,_⟩=>by rw[hs0];exact hE) (fun args W=>by simp[callFunc,Tryz.func48];rfl)
  (codGet1 _ S J P base m w.heap.size t j root l SS ka kn kc key (SpAx.keep h (KeepT.of_below hBA)) hk ht (hkey.below hBA rfl) (hG0.on hA) hEA)
 have HB0:=mkHid hB0
 have HBA:=mkHid hBA
 have HG0:=mkHid hG0
 have c0:=hG0.t.cell 0
 have c2:=hG0.k.cell 0
 have c3:=hG0.v.cell 0
 have c4:=hG0.h.cell 0
 simp only[List.getElem?_cons_zero] at c0 c2 c3 c4
 have f3:=hG0.v.frozen 0
 have f4:=hG0.h.frozen 0
 have hn34:w.heap.size+3≠w.heap.size+4:=by omega
 clear h hk ht hkey hB0 hG0 hA hBA hEA
 have hY0':=hY0.symm
 clear hY0
 cases hko:keyOk key with
 | false =>
  rw[hko] at HIK
  clear HGd
  go_enter Tryz.func19,Tryz.ntmps19
  go_wp2_with (go_at_call 39;refine(HIK _).mono ?_;rintro e w8 ⟨rfl,hw8⟩;rw[hw8];clear hw8)
  have kV:Blk ((Y0.setCell ⟨w.heap.size+3,0,none⟩ (.slice none 0 0)).setCell ⟨w.heap.size+4,0,none⟩ (.bool false)) (w.heap.size+3) 33 [.slice none 0 0]:=(HG0.out.v.set 0 _).other _ _ hn34
  have kH:Blk ((Y0.setCell ⟨w.heap.size+3,0,none⟩ (.slice none 0 0)).setCell ⟨w.heap.size+4,0,none⟩ (.bool false)) (w.heap.size+4) 4 [.bool false]:=(HG0.out.h.other _ _ (Ne.symm hn34)).set 0 _
  refine bodyPost_ret (results_cct (P:=Tryz.prog) rfl _ _ (w.heap.size+3) (w.heap.size+4) _ _ rfl (load_sl13 _ _ _ kV) rfl (load_bo13 _ _ _ kH)) rfl ?_
  refine⟨⟨_,false,by rw[hko];rfl,fun h=>by rw[hko] at h;cases h⟩,?_⟩
  exact(HB0.out.setCell (p:=⟨w.heap.size+3,0,none⟩) (by show w.heap.size≤w.heap.size+3;omega) _).setCell (p:=⟨w.heap.size+4,0,none⟩) (by show w.heap.size≤w.heap.size+4;omega) _
 | true =>
  rw[hko] at HIK
  go_enter Tryz.func19,Tryz.ntmps19
  go_wp2_with (go_at_call 39;refine(HIK _).mono ?_;rintro e w8 ⟨rfl,hw8⟩;rw[hw8];clear hw8)
  refine HGd.mono ?_
  rintro e y1 ⟨w1,⟨v,hg,hv,hE,hb⟩,rfl,hy1⟩
  rw[hs0] at hy1
  obtain⟨va,vc,rfl,hi⟩:=hv
  have hi1:=hi.setOther (w.heap.size+5) 0 (.int .i64 0) (isB_ne13 hi hE (fun n e=>by cases e))
  rw[←hy1] at hi1
  have kV:Blk y1 (w.heap.size+3) 33 [.slice va (getE13 l key).length vc]:=by rw[hy1];exact hg.v.other _ _ (by show w.heap.size+3≠w.heap.size+5;omega)
  have kH:Blk y1 (w.heap.size+4) 4 [.bool (hasE13 l key)]:=by rw[hy1];exact hg.h.other _ _ (by show w.heap.size+4≠w.heap.size+5;omega)
  have hb1:Below w.heap.size w y1:=by
   have h1:=HBA.out.trans hb
   rw[hy1]
   exact h1.setCell (p:=⟨w.heap.size+5,0,none⟩) (by show w.heap.size≤w.heap.size+5;omega) _
  have HKV:=mkHid kV
  have HKH:=mkHid kH
  have HI1:=mkHid hi1
  have HB1:=mkHid hb1
  have d3:=kV.cell 0
  have d4:=kH.cell 0
  simp only[List.getElem?_cons_zero] at d3 d4
  have q3:=kV.frozen 0
  have q4:=kH.frozen 0
  clear HGd hg hi hE hb hi1 kV kH hb1 hy1 c0 c2 c3 c4 f3 f4
  generalize hge:getE13 l key=gg at *
  generalize hhe:hasE13 l key=hh at *
  have HGe:=mkHid hge
  have HHe:=mkHid hhe.symm
  clear hge hhe
  go_wp2_with fail
  go_region
  all_goals
   go_wp2
  have i1:=HI1.out.setOther (w.heap.size+3) 0 (.slice va gg.length vc) (isB_ne13 HI1.out HKV.out (fun n e=>by cases e))
  have kH2:Blk (y1.setCell ⟨w.heap.size+3,0,none⟩ (.slice va gg.length vc)) (w.heap.size+4) 4 [.bool hh]:=HKH.out.other _ _ (Ne.symm hn34)
  have i2:=i1.setOther (w.heap.size+4) 0 (.bool hh) (isB_ne13 i1 kH2 (fun n e=>by cases e))
  have kV3:Blk ((y1.setCell ⟨w.heap.size+3,0,none⟩ (.slice va gg.length vc)).setCell ⟨w.heap.size+4,0,none⟩ (.bool hh)) (w.heap.size+3) 33 [.slice va gg.length vc]:=(HKV.out.set 0 _).other _ _ hn34
  have kH3:Blk ((y1.setCell ⟨w.heap.size+3,0,none⟩ (.slice va gg.length vc)).setCell ⟨w.heap.size+4,0,none⟩ (.bool hh)) (w.heap.size+4) 4 [.bool hh]:=kH2.set 0 _
  have hb3:Below w.heap.size w ((y1.setCell ⟨w.heap.size+3,0,none⟩ (.slice va gg.length vc)).setCell ⟨w.heap.size+4,0,none⟩ (.bool hh)):=(HB1.out.setCell (p:=⟨w.heap.size+3,0,none⟩) (by show w.heap.size≤w.heap.size+3;omega) _).setCell (p:=⟨w.heap.size+4,0,none⟩) (by show w.heap.size≤w.heap.size+4;omega) _
  have kV4:Blk ((y1.setCell ⟨w.heap.size+3,0,none⟩ (.slice va gg.length vc)).setCell ⟨w.heap.size+4,0,none⟩ (.bool hh)).drew (w.heap.size+3) 33 [.slice va gg.length vc]:=kV3
  have kH4:Blk ((y1.setCell ⟨w.heap.size+3,0,none⟩ (.slice va gg.length vc)).setCell ⟨w.heap.size+4,0,none⟩ (.bool hh)).drew (w.heap.size+4) 4 [.bool hh]:=kH3
  refine bodyPost_ret (results_cct (P:=Tryz.prog) rfl _ _ (w.heap.size+3) (w.heap.size+4) _ _ rfl (load_sl13 _ _ _ kV4) rfl (load_bo13 _ _ _ kH4)) rfl ?_
  unfold GetPost
  rw[hko]
  exact⟨⟨_,hh,rfl,fun _=>⟨HHe.out,by rw[HGe.out];exact⟨va,vc,rfl,i2.drewN 1⟩⟩⟩,hb3.drew⟩
end
end Go.Proofs.YtpecobmfabmpkaaGreatDoor
