/- PtQ PtR PtS PuE0 -/
import Derived.Test.YtpecobmfabmpkaaGreatDoorM22
set_option maxRecDepth 20000
set_option maxHeartbeats 4000000
namespace Go.Proofs.YtpecobmfabmpkaaGreatDoor
open Go.RowKit
variable {fl:Nat}
structure PgS (p:Pg):Prop where
  f:PgF p
  n:p.es.length+p.ks.length≤254
  sz:szL p.es+2 * p.ks.length≤509
  k:∀ i∈p.ks,i<65536
  e:∀ e∈p.es,e.k.length≤255∧e.v.length≤255
theorem KS.ue {base:Nat}{w w':World}(h:KS base w w')(hle:fl≤base):KeepU fl UE w w':=KeepU.ofB (h.o.less (by decide)) h.b hle
abbrev T13:List TypeId:=[30,4,133,64,87,144,50,215,3,33]
theorem SpAx.keep13 {w w':World}{S J P base:Nat}{t:Tl}{j:Jl}(h:SpAx w S J P base t j)(hk:KeepT T13 w w'):SpAx w' S J P base t j:=by
  obtain ⟨T,g,c,h⟩:=h
  obtain ⟨M,tr,ht⟩:=h.ta
  exact ⟨T,g,c,⟨M,tr,⟨hk.blk ht.ja.blk (by decide),ht.ja.low,ht.ja.d.keep hk (by decide) (by decide) (by decide),ht.ja.seq⟩,hk.blk ht.blk (by decide),ht.low,ht.lowM,ownM_keep ht.own hk,ht.sort,ht.ok,ht.over⟩,hk.blk h.blk (by decide),h.low,own_keepO (KeepO.ofT (us:=[5]) hk (by decide)) h.own (by decide)⟩
theorem KeepT.grown1 {ts:List TypeId}{w w':World}{B ty:Nat}{cs:List Value}(hB:Blk w B ty cs)(ht:ty∈ts)(hg:w.grownBy w' (some B)):KeepT ts w w' :=
  ⟨hg.size,fun k o hk hno=>(hg.block k (Array.getElem?_eq_some_iff.1 hk).1 (fun e=>by
    have e2:=Option.some.inj e
    subst e2
    unfold Blk at hB
    rw [hk] at hB
    exact hno _ _ _ (Option.some.inj hB) ht)).trans hk⟩
theorem KS.mid {base:Nat}{w a b c:World}{B:Nat}(h1:KS base w a)(hg:a.grownBy b (some B))(hB:w.heap.size≤B)(hlo:base≤w.heap.size)(h3:KS base b c):KS base w c :=
  ⟨⟨Nat.le_trans h1.o.size (Nat.le_trans hg.size h3.o.size),fun k x t fz hk ht=>by
      have h4:=h1.o.same k x t fz hk ht
      have hkl:=(Array.getElem?_eq_some_iff.1 hk).1
      exact h3.o.same k x t fz ((hg.block k (Array.getElem?_eq_some_iff.1 h4).1 (fun e=>by have:=Option.some.inj e;omega)).trans h4) ht,
    fun k o hk ho=>by
      have h4:=h1.o.ctl k o hk ho
      have hkl:=(Array.getElem?_eq_some_iff.1 hk).1
      exact h3.o.ctl k o ((hg.block k (Array.getElem?_eq_some_iff.1 h4).1 (fun e=>by have:=Option.some.inj e;omega)).trans h4) ho⟩,
   (h1.b.grown hg (Nat.le_trans hlo h1.o.size) (fun k e=>by have:=Option.some.inj e;omega)).trans h3.b⟩
theorem pgB_len (p:Pg):(pgB p).length=512:=pad512_len _
theorem pgWrite (w:World)(S J P base m:Nat)(t:Tl)(j:Jl)(s:Nat)(p:Pg)(ve vk:Value)(L:List Eq3)(h:SpAx w S J P base t j)(hf:Fit t j m)(hp:PgR fl w p ve vk L)(hs:PgS p)(hsn:s≤4096)(hz:spWrE t j (s:Int) (pgB p)=0):
    Calls Tryz.prog 100 #[gT S,.agg (pgc (s:Int) p.lv ve vk).toArray] w fun e w'=>e=.returned (.tuple #[])∧SpAx w' S J P base (spWr t j (s:Int) (pgB p)) j∧KS base w w':=by
  have hlo:=spcOK.lo h
  unfold gT
  obtain ⟨ea,ec,ka,kc,rfl,rfl⟩:=hp.forms
  have W1:Below w.heap.size w ((w.alloc (.cells #[.pointer (some ⟨S,0,none⟩)] 87)).alloc (.cells #[.int .i64 (s:Int),.int .i64 (p.lv:Int),.slice ea p.es.length ec,.slice ka p.ks.length kc] 133)):=((Below.refl _ w).alloc (Nat.le_refl _) _).alloc (by simp) _
  have k0:Blk ((w.alloc (.cells #[.pointer (some ⟨S,0,none⟩)] 87)).alloc (.cells #[.int .i64 (s:Int),.int .i64 (p.lv:Int),.slice ea p.es.length ec,.slice ka p.ks.length kc] 133)) w.heap.size 87 [.pointer (some ⟨S,0,none⟩)]:=(Blk.newAt w w.heap.size 87 #[.pointer (some ⟨S,0,none⟩)] [.pointer (some ⟨S,0,none⟩)] rfl rfl).alloc _
  have k1:Blk ((w.alloc (.cells #[.pointer (some ⟨S,0,none⟩)] 87)).alloc (.cells #[.int .i64 (s:Int),.int .i64 (p.lv:Int),.slice ea p.es.length ec,.slice ka p.ks.length kc] 133)) (w.heap.size+1) 133 [.int .i64 (s:Int),.int .i64 (p.lv:Int),.slice ea p.es.length ec,.slice ka p.ks.length kc]:=Blk.newAt _ (w.heap.size+1) 133 _ _ (by simp) rfl
  generalize hW:(w.alloc (.cells #[.pointer (some ⟨S,0,none⟩)] 87)).alloc (.cells #[.int .i64 (s:Int),.int .i64 (p.lv:Int),.slice ea p.es.length ec,.slice ka p.ks.length kc] 133)=Y0 at *
  have HCt:Hid (∀ W,KS base Y0 W→W.cell? ⟨w.heap.size,0,none⟩=some (.pointer (some ⟨S,0,none⟩))∧W.cell? ⟨w.heap.size+1,0,none⟩=some (.int .i64 (s:Int))∧W.cell? ⟨w.heap.size+1,1,none⟩=some (.int .i64 (p.lv:Int))∧W.cell? ⟨w.heap.size+1,2,none⟩=some (.slice ea p.es.length ec)∧W.cell? ⟨w.heap.size+1,3,none⟩=some (.slice ka p.ks.length kc)):=fun W hW=>⟨(hW.o.blk k0 (by decide)).cell 0,(hW.o.blk k1 (by decide)).cell 0,(hW.o.blk k1 (by decide)).cell 1,(hW.o.blk k1 (by decide)).cell 2,(hW.o.blk k1 (by decide)).cell 3⟩
  have hD:Below Y0.heap.size Y0 Y0.drew:=Below.drew (Below.refl _ Y0)
  have HSe:=codSector (s:Int) p _ _ L Y0.drew ((hp.below W1).below hD) hs.f hs.n hs.sz hs.k hs.e
  have HK0:Hid (KS base w Y0.drew∧KS base Y0 Y0.drew):=⟨KS.of_below (W1.trans (hD.mono W1.size)) hlo,KS.of_below hD (Nat.le_trans hlo W1.size)⟩
  have HWr:Hid (∀ W v,Below Y0.drew.heap.size Y0.drew W→SecU W v (pgB p)→Calls Tryz.prog 33 #[.pointer (some ⟨S,0,none⟩),.int .i64 (s:Int),v] W fun e w'=>e=.returned (.int .i64 0)∧SpAx w' S J P base (spWr t j (s:Int) (pgB p)) j∧KS base W w'):=fun W v hWb hv=>by
    obtain ⟨g,rfl,hB⟩:=hv.isB
    have:=codSWrite W S J P base m t j (s:Int) (some ⟨g,0,none⟩) 512 (pgB p) (SpAx.keep h (KeepT.of_below (W1.trans ((hD.trans (hWb.mono hD.size)).mono W1.size)))) hf (by omega) (by omega) (by rw [pgB_len];omega) (fun W2 h2 _=>hB W2 h2)
    rw [hz] at this
    exact this
  have HLo:Hid (base≤Y0.drew.heap.size):=Nat.le_trans hlo W1.size
  have HNy:=needYes13 0
  have HSeU:=mkHid HSe
  clear hp hs h hf k0 k1 W1 hz hD HSe
  unfold pgc at *
  go_enter Tryz.func100,Tryz.ntmps100
  go_wp2_with fail
  refine lk0 (fun W=>W.cell? ⟨w.heap.size,0,none⟩=some (.pointer (some ⟨S,0,none⟩))∧W.cell? ⟨w.heap.size+1,0,none⟩=some (.int .i64 (s:Int))∧W.cell? ⟨w.heap.size+1,1,none⟩=some (.int .i64 (p.lv:Int))∧W.cell? ⟨w.heap.size+1,2,none⟩=some (.slice ea p.es.length ec)∧W.cell? ⟨w.heap.size+1,3,none⟩=some (.slice ka p.ks.length kc)) 7 (HCt.out _ HK0.out.2) (fun hHeld=>?_)
  generalize hY1:Y0.drew=Y1 at *
  refine lkT 5 0 ?_ rfl (Or.inl ⟨by rfl,?_⟩) hHeld ?_
  rotate_left
  · intro w hSw;obtain ⟨s0,s1,s2,s3,s4⟩:=hSw;go_simp;with_reducible rfl
  (try simp only [Act.put,sIx,sZ0,sZ1])
  refine lkT 6 1 (.pointer (some ⟨S,0,none⟩)) rfl (Or.inl ⟨by rfl,?_⟩) hHeld ?_
  · intro w hSw;obtain ⟨s0,s1,s2,s3,s4⟩:=hSw;go_simp
  (try simp only [Act.put,sIx,sZ0,sZ1])
  refine lkT 7 2 ?_ rfl (Or.inl ⟨by rfl,?_⟩) hHeld ?_
  rotate_left
  · intro w hSw;obtain ⟨s0,s1,s2,s3,s4⟩:=hSw;go_simp;with_reducible rfl
  (try simp only [Act.put,sIx,sZ0,sZ1])
  refine lkT 8 3 (.int .i64 (s:Int)) rfl (Or.inl ⟨by rfl,?_⟩) hHeld ?_
  · intro w hSw;obtain ⟨s0,s1,s2,s3,s4⟩:=hSw;go_simp
  (try simp only [Act.put,sIx,sZ0,sZ1])
  refine lkT 9 4 (.agg #[.int .i64 (s:Int),.int .i64 (p.lv:Int),.slice ea p.es.length ec,.slice ka p.ks.length kc]) rfl (Or.inl ⟨by rfl,?_⟩) hHeld ?_
  · intro w hSw;obtain ⟨s0,s1,s2,s3,s4⟩:=hSw;go_simp
  (try simp only [Act.put,sIx,sZ0,sZ1])
  refine lk1 5 rfl (fun K hK=>?_)
  go_simp
  go_wp2_with (go_at_call 139;refine HSeU.out.mono ?_;rintro e y2 ⟨⟨v2,rfl,hv2⟩,hb2⟩)
  have HK2:Hid (KS base Y1 y2):=KS.of_below hb2 HLo.out
  have HWy:=HWr.out y2 v2 hb2 hv2
  refine hK.out _ _ (HCt.out _ (HK0.out.2.trans HK2.out)) (fun hHeld=>?_)
  (try simp only [Act.put,sIx,sZ0,sZ1])
  clear hK K HSeU
  refine lk1 6 rfl (fun K hK=>?_)
  go_simp
  go_wp2_with (go_at_call 33;refine HWy.mono ?_;rintro e y3 ⟨rfl,hA3,hk3⟩)
  have HK3:=mkHid hk3
  have HA3:=mkHid hA3
  refine hK.out _ _ (HCt.out _ ((HK0.out.2.trans HK2.out).trans HK3.out)) (fun hHeld=>?_)
  (try simp only [Act.put,sIx,sZ0,sZ1])
  clear hK K HWy
  refine lkZ rfl (fun K hK=>?_)
  go_simp
  refine hK.out _ _ ?_
  simp only [Exit.then]
  (try simp only [Act.put,sIx,sZ0,sZ1])
  clear hK K hHeld
  go_wp2_with (go_at_call 99;refine (HNy _).mono ?_;rintro x w2 ⟨rfl,hww⟩;rw [hww];clear hww w2)
  go_end0
  exact ⟨rfl,HA3.out,(HK0.out.1.trans HK2.out).trans HK3.out⟩
theorem pgGive (w:World)(S J P base m:Nat)(t:Tl)(j:Jl)(s:Nat)(lv:Nat)(ve vk:Value)(h:SpAx w S J P base t j)(hf:Fit t j m)(hsn:s≤4096)(hz:gvE t j (s:Int)=0)(hve:∃ a n c,ve=.slice a n c)(hvk:∃ a n c,vk=.slice a n c):
    Calls Tryz.prog 71 #[gT S,.agg (pgc (s:Int) lv ve vk).toArray] w fun e w'=>e=.returned (.tuple #[])∧SpAx w' S J P base (gvT t j (s:Int)) j∧KS base w w':=by
  have hlo:=spcOK.lo h
  obtain ⟨ea,en,ec,rfl⟩:=hve
  obtain ⟨ka,kn,kc,rfl⟩:=hvk
  unfold gT pgc
  have W1:Below w.heap.size w ((w.alloc (.cells #[.pointer (some ⟨S,0,none⟩)] 87)).alloc (.cells #[.int .i64 (s:Int),.int .i64 (lv:Int),.slice ea en ec,.slice ka kn kc] 133)):=((Below.refl _ w).alloc (Nat.le_refl _) _).alloc (by simp) _
  have k0:Blk ((w.alloc (.cells #[.pointer (some ⟨S,0,none⟩)] 87)).alloc (.cells #[.int .i64 (s:Int),.int .i64 (lv:Int),.slice ea en ec,.slice ka kn kc] 133)) w.heap.size 87 [.pointer (some ⟨S,0,none⟩)]:=(Blk.newAt w w.heap.size 87 #[.pointer (some ⟨S,0,none⟩)] [.pointer (some ⟨S,0,none⟩)] rfl rfl).alloc _
  have k1:Blk ((w.alloc (.cells #[.pointer (some ⟨S,0,none⟩)] 87)).alloc (.cells #[.int .i64 (s:Int),.int .i64 (lv:Int),.slice ea en ec,.slice ka kn kc] 133)) (w.heap.size+1) 133 [.int .i64 (s:Int),.int .i64 (lv:Int),.slice ea en ec,.slice ka kn kc]:=Blk.newAt _ (w.heap.size+1) 133 _ _ (by simp) rfl
  have HG:=codGive _ S J P base m t j (s:Int) (SpAx.keep h (KeepT.of_below W1)) hf (by omega) (by omega)
  rw [hz] at HG
  have c0:=k0.cell 0
  have c1:=k1.cell 0
  simp only [List.getElem?_cons_zero] at c0 c1
  have HK1:Hid (KS base w ((w.alloc (.cells #[.pointer (some ⟨S,0,none⟩)] 87)).alloc (.cells #[.int .i64 (s:Int),.int .i64 (lv:Int),.slice ea en ec,.slice ka kn kc] 133))):=KS.of_below W1 hlo
  have HNy:=needYes13 0
  clear h hf k0 k1 W1 hz
  go_enter Tryz.func71,Tryz.ntmps71
  go_wp2_with fail
  refine HG.mono ?_
  rintro e y1 ⟨rfl,hA1,hk1⟩
  go_wp2_with (go_at_call 99;refine (HNy _).mono ?_;rintro x w2 ⟨rfl,hww⟩;rw [hww];clear hww w2)
  go_end0
  exact ⟨rfl,hA1,HK1.out.trans hk1⟩
theorem pgAdd (w:World)(S J P base m:Nat)(t:Tl)(j:Jl)(at_:Int)(p:Pg)(ve vk:Value)(L:List Eq3)(h:SpAx w S J P base t j)(hf:Fit t j m)(hp:PgR fl w p ve vk L)(hs:PgS p)(hE:tkE t j=0)(hF:Fit (tkT t j) j m)(hn:tkV t j<j.p.n)(hz:spWrE (tkT t j) j (tkV t j:Int) (pgB p)=0)(hfl:fl≤base:=by omega):
    Calls Tryz.prog 66 #[gT S,.agg (pgc at_ p.lv ve vk).toArray] w fun e w'=>e=.returned (.int .i64 (tkV t j:Int))∧SpAx w' S J P base (addT t j (pgB p)) j∧KS base w w':=by
  have hlo:=spcOK.lo h
  have hn2:=hf.few.n
  obtain ⟨ea,ec,ka,kc,rfl,rfl⟩:=hp.forms
  unfold gT addT
  have W1:Below w.heap.size w ((w.alloc (.cells #[.pointer (some ⟨S,0,none⟩)] 87)).alloc (.cells #[.int .i64 at_,.int .i64 (p.lv:Int),.slice ea p.es.length ec,.slice ka p.ks.length kc] 133)):=((Below.refl _ w).alloc (Nat.le_refl _) _).alloc (by simp) _
  have k0:Blk ((w.alloc (.cells #[.pointer (some ⟨S,0,none⟩)] 87)).alloc (.cells #[.int .i64 at_,.int .i64 (p.lv:Int),.slice ea p.es.length ec,.slice ka p.ks.length kc] 133)) w.heap.size 87 [.pointer (some ⟨S,0,none⟩)]:=(Blk.newAt w w.heap.size 87 #[.pointer (some ⟨S,0,none⟩)] [.pointer (some ⟨S,0,none⟩)] rfl rfl).alloc _
  have k1:Blk ((w.alloc (.cells #[.pointer (some ⟨S,0,none⟩)] 87)).alloc (.cells #[.int .i64 at_,.int .i64 (p.lv:Int),.slice ea p.es.length ec,.slice ka p.ks.length kc] 133)) (w.heap.size+1) 133 [.int .i64 at_,.int .i64 (p.lv:Int),.slice ea p.es.length ec,.slice ka p.ks.length kc]:=Blk.newAt _ (w.heap.size+1) 133 _ _ (by simp) rfl
  have HG:=codTake _ S J P base m t j (SpAx.keep h (KeepT.of_below W1)) hf
  rw [hE] at HG
  have c0:=k0.cell 0
  simp only [List.getElem?_cons_zero] at c0
  have HK1:Hid (KS base w ((w.alloc (.cells #[.pointer (some ⟨S,0,none⟩)] 87)).alloc (.cells #[.int .i64 at_,.int .i64 (p.lv:Int),.slice ea p.es.length ec,.slice ka p.ks.length kc] 133))):=KS.of_below W1 hlo
  have HB0:=mkHid k0
  have HB1:=mkHid k1
  have HPr:=mkHid (hp.below W1)
  have HNy:=needYes13 0
  have hne:w.heap.size≠w.heap.size+1:=by omega
  have HWr:Hid (∀ W,SpAx W S J P base (tkT t j) j→PgR fl W p (.slice ea p.es.length ec) (.slice ka p.ks.length kc) L→Calls Tryz.prog 100 #[.agg #[.pointer (some ⟨S,0,none⟩)],.agg #[.int .i64 (tkV t j:Int),.int .i64 (p.lv:Int),.slice ea p.es.length ec,.slice ka p.ks.length kc]] W fun e w'=>e=.returned (.tuple #[])∧SpAx w' S J P base (spWr (tkT t j) j (tkV t j:Int) (pgB p)) j∧KS base W w'):=fun W h1 h2=>pgWrite W S J P base m (tkT t j) j (tkV t j) p _ _ L h1 hF h2 hs (by omega) hz
  unfold pgc at *
  clear h hf k0 k1 W1 hz hs hp hF hE
  generalize tkV t j=sv at *
  generalize spWr (tkT t j) j (sv:Int) (pgB p)=tn at *
  generalize tkT t j=tt at *
  go_enter Tryz.func66,Tryz.ntmps66
  go_wp2_with fail
  refine HG.mono ?_
  rintro e y1 ⟨rfl,hA1,hk1⟩
  have HA1:=mkHid hA1
  have HKy:=mkHid hk1
  have HBy0:=mkHid (hk1.o.blk HB0.out (by decide))
  have HBy1:=mkHid (hk1.o.blk HB1.out (by decide))
  have HPy:=mkHid (HPr.out.keep (hk1.ue hfl))
  have d0:=HBy1.out.cell 0
  simp only [List.getElem?_cons_zero] at d0
  have f0:=HBy1.out.frozen 0
  have hg:=grown_set y1 (w.heap.size+1) 0 (.int .i64 (sv:Int))
  have HBz1:=mkHid (HBy1.out.set 0 (.int .i64 (sv:Int)))
  have HBz0:=mkHid (HBy0.out.other ⟨w.heap.size+1,0,none⟩ (.int .i64 (sv:Int)) hne)
  have HPz:=mkHid (HPy.out.keep (KeepU.grown1 HBy1.out (by decide) hg (by omega)))
  have HAz:=mkHid (SpAx.keep13 HA1.out (KeepT.grown1 HBy1.out (by decide) hg))
  clear HG hA1 hk1 hg
  have z0:=HBz0.out.cell 0
  have z1:=HBz1.out.cell 0
  have z2:=HBz1.out.cell 1
  have z3:=HBz1.out.cell 2
  have z4:=HBz1.out.cell 3
  simp only [gZ0,gZ1,List.set_cons_zero] at z0 z1 z2 z3 z4
  have HWz:=HWr.out _ HAz.out HPz.out
  go_wp2_with (go_at_call 99;refine (HNy _).mono ?_;rintro x w2 ⟨rfl,hww⟩;rw [hww];clear hww w2)
  refine HWz.mono ?_
  rintro e y3 ⟨rfl,hA3,hk3⟩
  go_wp2_with fail
  go_ret
  exact ⟨rfl,hA3,KS.mid (HK1.out.trans HKy.out) (grown_set y1 (w.heap.size+1) 0 _) (by omega) hlo hk3⟩
end Go.Proofs.YtpecobmfabmpkaaGreatDoor
namespace Go.Proofs.YtpecobmfabmpkaaGreatDoor
open Go.RowKit
variable {fl:Nat}
theorem pgFirst (w:World)(S:Nat)(at_:Int)(ve vk:Value)(L:List Eq3)(x:Eq3)(hr:RdN fl w ve L)(hx:L[0]?=some x):
  Calls Tryz.prog 112 #[gT S,.agg (pgc at_ 0 ve vk).toArray] w fun e w'=>e=.returned (.slice x.2.a x.1.k.length x.2.c)∧Below w.heap.size w w':=by
 unfold gT
 obtain ⟨a,cap,rfl,hc,_⟩:=hr.form
 have W1:Below w.heap.size w ((w.alloc (.cells #[.pointer (some ⟨S,0,none⟩)] 87)).alloc (.cells (pgc at_ 0 (.slice a L.length cap) vk).toArray 133)):=((Below.refl _ w).alloc (Nat.le_refl _) _).alloc (by simp) _
 have k1:Blk ((w.alloc (.cells #[.pointer (some ⟨S,0,none⟩)] 87)).alloc (.cells (pgc at_ 0 (.slice a L.length cap) vk).toArray 133)) (w.heap.size+1) 133 (pgc at_ 0 (.slice a L.length cap) vk):=Blk.newAt _ (w.heap.size+1) 133 _ _ (by simp) rfl
 obtain ⟨-,h0,g,off,rfl,d0,-,-⟩:=(hr.keep (KeepU.of_below W1)).at_ 0 x hx
 unfold pgc at *
 have c1:=k1.cell 1
 have c2:=k1.cell 2
 simp only [gZ0,gZ1] at c1 c2
 have HW1:=mkHid W1
 have hn:(0:Int)<(L.length:Int):=by omega
 clear k1 W1 hr hx
 simp only [Int.natCast_zero,Nat.zero_mul,Nat.add_zero] at *
 generalize x.2.a=qa at *
 generalize x.2.c=qc at *
 generalize x.1.k.length=n1 at *
 generalize L.length=n at *
 go_enter Tryz.func112,Tryz.ntmps112
 go_wp2_with fail
 go_loopg [7] 1 (fun _ _ wr=>wr=((w.alloc (.cells #[.pointer (some ⟨S,0,none⟩)] 87)).alloc (.cells #[.int .i64 at_,.int .i64 0,.slice (some ⟨g,off,none⟩) n cap,vk] 133)))
 case atStart=>rfl
 case round =>
  subst hrel
  go_wp2_with fail
  go_ret
  exact ⟨rfl,HW1.out⟩
theorem codSearch (w:World)(n:Nat)(f:Nat)(cap:Array Value)(c:Nat→Bool)(hn:n≤1000000)(hcl:∀ W k,Below w.heap.size w W→k<n→Calls Tryz.prog f (#[.int .i64 ((k:Nat):Int)]++cap) W fun e w'=>e=.returned (.bool (c k))∧Below W.heap.size W w')(hf:∀ args w,(callFunc f args).run Tryz.prog w=.ok (.enter f args) w):
  Calls Tryz.prog 109 #[.int .i64 (n:Int),.func (.func f) #[] cap] w fun e w'=>(∃ i:Nat,e=.returned (.int .i64 (i:Int))∧i≤n∧(0<i→c (i-1)=false)∧(i<n→c i=true))∧Below w.heap.size w w':=by
 have HC:Hid (∀ W k,Below w.heap.size w W→k<n→Calls Tryz.prog f (#[.int .i64 ((k:Nat):Int)]++cap) W fun e w'=>e=.returned (.bool (c k))∧Below W.heap.size W w'):=hcl
 clear hcl
 go_enter Tryz.func109,Tryz.ntmps109
 go_wp2
 go_loopg [5,6] n (fun kx s5 s6 wr=>∃ lo hi:Nat,s5=.int .i64 (lo:Int)∧s6=.int .i64 (hi:Int)∧lo≤hi∧hi≤n∧hi-lo≤kx∧Hid (Below w.heap.size w wr)∧Hid (0<lo→c (lo-1)=false)∧Hid (hi<n→c hi=true))
 case atStart=>exact ⟨0,n,rfl,rfl,Nat.zero_le _,Nat.le_refl _,by omega,Below.refl _ _,fun h=>absurd h (Nat.lt_irrefl 0),fun h=>absurd h (Nat.lt_irrefl _)⟩
 case round =>
  obtain ⟨lo,hi,rfl,rfl,hlh,hin,hg,HB,HI,HJ⟩:=hrel
  by_cases hlt:lo<hi
  ·have HCk:=HC.out wr ((lo+hi)/2) HB.out (by omega)
   rw [show (((lo+hi)/2:Nat):Int)=((lo:Int)+(hi:Int))/2 by omega] at HCk
   generalize hck:c ((lo+hi)/2)=b at HCk
   have HCb:=mkHid hck
   clear hck
   cases b with
   | false =>
    go_wp2_with (go_at_fn f;refine HCk.mono ?_;rintro e w' ⟨rfl,hb1⟩)
    go_roundg (hi-((lo+hi)/2+1))
    case measure=>omega
    case rel=>exact ⟨(lo+hi)/2+1,hi,by rw [show ((lo:Int)+(hi:Int))/2+1=(((lo+hi)/2+1:Nat):Int) by omega],rfl,by omega,hin,Nat.le_refl _,HB.out.trans (hb1.mono HB.out.size),fun _=>by rw [Nat.add_sub_cancel];exact HCb.out,HJ⟩
   | true =>
    go_wp2_with (go_at_fn f;refine HCk.mono ?_;rintro e w' ⟨rfl,hb1⟩)
    go_roundg ((lo+hi)/2-lo)
    case measure=>omega
    case rel=>exact ⟨lo,(lo+hi)/2,rfl,by rw [show ((lo:Int)+(hi:Int))/2=(((lo+hi)/2:Nat):Int) by omega],by omega,by omega,Nat.le_refl _,HB.out.trans (hb1.mono HB.out.size),HI,fun _=>HCb.out⟩
  ·obtain rfl:hi=lo:=by omega
   go_wp2
   go_ret
   exact ⟨⟨hi,rfl,hin,HI.out,HJ.out⟩,HB.out⟩
end Go.Proofs.YtpecobmfabmpkaaGreatDoor
namespace Go.Proofs.YtpecobmfabmpkaaGreatDoor
open Go.RowKit
def KidL (t:Tl)(j:Jl)(ks:List Nat)(lf:Nat→List Et):Prop:=∀ i s,ks[i]?=some s→51≤s∧s<j.p.n∧pgOf (spRdB t j (s:Int))=some ⟨0,lf i,[]⟩∧lf i≠[]
theorem pgLess (w:World)(S J P base m G Pb Kb:Nat)(t:Tl)(j:Jl)(at_:Int)(ve vk:Value)(ks:List Nat)(lf:Nat→List Et)(ka:Option Addr)(kn kc:Nat)(key:List UInt8)(k k1:Nat)(hk1:k+1=k1)(h:SpAx w S J P base t j)(hf:Fit t j m)
  (hG:Blk w G 87 [.pointer (some ⟨S,0,none⟩)]) (hP:Blk w Pb 133 [.int .i64 at_,.int .i64 1,ve,vk]) (hK:Blk w Kb 33 [.slice ka kn kc]) (hz:RdZ w vk ks) (hve:∃ a n c,ve=.slice a n c) (hkey:IsB w ka kn kc key) (hl:KidL t j ks lf) (hk:k1<ks.length) (hks:ks.length≤1000):
  Calls Tryz.prog 110 #[.int .i64 (k:Int),.pointer (some ⟨G,0,none⟩),.pointer (some ⟨Pb,0,none⟩),.pointer (some ⟨Kb,0,none⟩)] w fun e w'=>e=.returned (.bool (decide (0<Lib.compareBytes (fstK (lf k1)) key)))∧Below w.heap.size w w':=by
 obtain ⟨s,hs⟩:∃ s,ks[k1]?=some s:=⟨_,List.getElem?_eq_getElem hk⟩
 obtain ⟨h51,hn,hpg,hne⟩:=hl _ s hs
 obtain ⟨ea,en,ec,rfl⟩:=hve
 have hzz:=hz
 obtain ⟨za,zc,rfl,_⟩:=hz
 have HD:Below w.heap.size w w.drew:=Below.drew (Below.refl _ w)
 have HCt:Hid (∀ W,Below w.heap.size w W→W.cell? ⟨G,0,none⟩=some (.pointer (some ⟨S,0,none⟩))∧W.cell? ⟨Pb,0,none⟩=some (.int .i64 at_)∧W.cell? ⟨Pb,1,none⟩=some (.int .i64 1)∧W.cell? ⟨Pb,2,none⟩=some (.slice ea en ec)∧W.cell? ⟨Pb,3,none⟩=some (.slice za ks.length zc)∧W.cell? ⟨Kb,0,none⟩=some (.slice ka kn kc)):=fun W hW=>⟨(hG.on hW).cell 0,(hP.on hW).cell 0,(hP.on hW).cell 1,(hP.on hW).cell 2,(hP.on hW).cell 3,(hK.on hW).cell 0⟩
 have HKd:=pgKid w.drew S J P base m t j at_ 1 (.slice ea en ec) (.slice za ks.length zc) ks k1 s ⟨0,lf k1,[]⟩ (SpAx.keep h (KeepT.of_below HD)) hf (hzz.keep (KeepO.of_below HD)) hs h51 hn hpg rfl (by omega)
 have HFs:=fun W at2 ve2 vk2 L2 x (hr:RdN 0 W ve2 L2) (hx:L2[0]?=some x)=>pgFirst W S at2 ve2 vk2 L2 x hr hx
 have HKy:Hid (∀ W,Below w.heap.size w W→IsB W ka kn kc key):=fun W hW=>hkey.below hW rfl
 have hw1:IntKind.i64.wrap ((k:Int)+1)=(k1:Int):=by rw [show (k:Int)+1=(k1:Int) by omega];exact wrapi64_in _ (by omega) (by omega)
 obtain ⟨e0,l0,hle⟩:∃ e0 l0,lf k1=e0::l0:=by cases hq:lf k1 with|nil=>exact absurd hq hne|cons a b=>exact ⟨a,b,rfl⟩
 have HFk:Hid (fstK (lf k1)=e0.k):=by unfold Hid fstK;rw [hle];rfl
 unfold gT pgc at *
 simp only [Int.natCast_one] at HKd
 clear h hf hG hP hK hzz hkey hl hs hpg hne hk hk1
 generalize hrb:decide (0<Lib.compareBytes (fstK (lf k1)) key)=rb
 have HRb:Hid (decide (0<Lib.compareBytes e0.k key)=rb):=by unfold Hid;rw [←hrb,HFk.out]
 clear hrb HFk
 go_enter Tryz.func110,Tryz.ntmps110
 go_wp2_with fail
 refine lk0 (fun W=>W.cell? ⟨G,0,none⟩=some (.pointer (some ⟨S,0,none⟩))∧W.cell? ⟨Pb,0,none⟩=some (.int .i64 at_)∧W.cell? ⟨Pb,1,none⟩=some (.int .i64 1)∧W.cell? ⟨Pb,2,none⟩=some (.slice ea en ec)∧W.cell? ⟨Pb,3,none⟩=some (.slice za ks.length zc)∧W.cell? ⟨Kb,0,none⟩=some (.slice ka kn kc)) 10 (HCt.out _ HD) (fun hHeld=>?_)
 have HDh:=mkHid HD
 clear HD
 generalize w.drew=Y1 at *
 refine lkT 6 0 (.agg #[.pointer (some ⟨S,0,none⟩)]) rfl (Or.inl ⟨by rfl,?_⟩) hHeld ?_
 ·intro w hSw;obtain ⟨s0,s1,s2,s3,s4,s5⟩:=hSw;go_simp
 (try simp only [Act.put,sIx,sZ0,sZ1])
 refine lkT 7 1 (.agg #[.pointer (some ⟨S,0,none⟩)]) rfl (Or.inl ⟨by rfl,?_⟩) hHeld ?_
 ·intro w hSw;obtain ⟨s0,s1,s2,s3,s4,s5⟩:=hSw;go_simp
 (try simp only [Act.put,sIx,sZ0,sZ1])
 refine lkT 8 2 (.agg #[.int .i64 at_,.int .i64 1,.slice ea en ec,.slice za ks.length zc]) rfl (Or.inl ⟨by rfl,?_⟩) hHeld ?_
 ·intro w hSw;obtain ⟨s0,s1,s2,s3,s4,s5⟩:=hSw;go_simp
 (try simp only [Act.put,sIx,sZ0,sZ1])
 refine lkT 9 3 ?_ rfl (Or.inl ⟨by rfl,?_⟩) hHeld ?_
 rotate_left
 ·intro w hSw;obtain ⟨s0,s1,s2,s3,s4,s5⟩:=hSw;go_simp;with_reducible rfl
 (try simp only [Act.put,sIx,sZ0,sZ1])
 refine lkT 10 4 (.int .i64 (k1:Int)) rfl (Or.inl ⟨by rfl,?_⟩) hHeld ?_
 ·intro w hSw;obtain ⟨s0,s1,s2,s3,s4,s5⟩:=hSw;go_simp
 (try simp only [Act.put,sIx,sZ0,sZ1])
 refine lkT 13 7 (.slice ka kn kc) rfl (Or.inl ⟨by rfl,?_⟩) hHeld ?_
 ·intro w hSw;obtain ⟨s0,s1,s2,s3,s4,s5⟩:=hSw;go_simp
 (try simp only [Act.put,sIx,sZ0,sZ1])
 refine lk1 5 rfl (fun K hK=>?_)
 go_simp
 go_wp2_with (go_at_call 72;refine HKd.mono ?_;rintro e y2 ⟨⟨v2,ve2,vk2,L2,rfl,hp2⟩,hb2⟩)
 have HB2:=mkHid (HDh.out.trans (hb2.mono HDh.out.size))
 refine hK.out _ _ (HCt.out _ HB2.out) (fun hHeld=>?_)
 (try simp only [Act.put,sIx,sZ0,sZ1])
 clear hK K
 obtain ⟨x,hx,hxe⟩:∃ x,L2[0]?=some x∧x.1=e0:=by
  have h1:=hp2.es
  rw [hle] at h1
  cases L2 with
  | nil=>cases h1
  | cons a b=>exact ⟨a,rfl,(List.cons.inj h1).1⟩
 have hv2:=hp2.v
 subst hv2
 have HP2:=mkHid hp2
 have HF2:=HFs y2 (s:Int) ve2 vk2 L2 x hp2.r.e hx
 unfold pgc at HF2
 clear HFs hb2 hp2
 refine lk1 6 rfl (fun K hK=>?_)
 go_simp
 go_wp2_with (go_at_call 112;refine HF2.mono ?_;rintro e y3 ⟨rfl,hb3⟩)
 have HB3:=mkHid (HB2.out.trans (hb3.mono HB2.out.size))
 have HIx:Hid (IsB y3 x.2.a x.1.k.length x.2.c x.1.k):=(((HP2.out.r.e.is x (List.mem_of_getElem? hx)).keep (KeepU.of_below hb3)).is).k
 refine hK.out _ _ (HCt.out _ HB3.out) (fun hHeld=>?_)
 (try simp only [Act.put,sIx,sZ0,sZ1])
 clear hK K HF2
 have HC:=codCompare x.2.a ka x.1.k.length kn x.2.c kc x.1.k key y3 HIx.out (HKy.out _ HB3.out)
 rw [hxe] at HC
 refine lk1 8 rfl (fun K hK=>?_)
 go_simp
 go_wp2_with (go_at_call 111;refine HC.mono ?_;rintro e y4 ⟨rfl,hw4⟩;rw [hw4];clear hw4)
 refine hK.out _ _ (HCt.out _ HB3.out) (fun hHeld=>?_)
 (try simp only [Act.put,sIx,sZ0,sZ1])
 clear hK K HC
 generalize Lib.compareBytes e0.k key=cz at *
 refine lkT 15 9 (.bool rb) rfl (Or.inl ⟨by rfl,?_⟩) hHeld ?_
 ·intro w hSw;obtain ⟨s0,s1,s2,s3,s4,s5⟩:=hSw;go_simp;first|(rw [←HRb.out];done)|(simp [←HRb.out];done)|exact HRb.out
 (try simp only [Act.put,sIx,sZ0,sZ1])
 refine lkZ rfl (fun K hK=>?_)
 go_simp
 refine hK.out _ _ ?_
 simp only [Exit.then]
 (try simp only [Act.put,sIx,sZ0,sZ1])
 clear hK K hHeld
 go_wp2_with fail
 go_ret
 exact ⟨rfl,HB3.out⟩
theorem pgFind (w:World)(S J P base m:Nat)(t:Tl)(j:Jl)(at_:Int)(ve vk:Value)(ks:List Nat)(lf:Nat→List Et)(ka:Option Addr)(kn kc:Nat)(key:List UInt8)(h:SpAx w S J P base t j)(hf:Fit t j m)
  (hz:RdZ w vk ks) (hve:∃ a n c,ve=.slice a n c) (hkey:IsB w ka kn kc key) (hl:KidL t j ks lf) (hks:ks.length≤1000) (hk0:0<ks.length):
  Calls Tryz.prog 73 #[gT S,.agg (pgc at_ 1 ve vk).toArray,.slice ka kn kc] w fun e w'=>(∃ i:Nat,e=.returned (.int .i64 (i:Int))∧i<ks.length∧(0<i→Op.bytesLess key (fstK (lf i))=false)∧(i+1<ks.length→Op.bytesLess key (fstK (lf (i+1)))=true))∧Below w.heap.size w w':=by
 obtain ⟨ea,en,ec,rfl⟩:=hve
 have hzz:=hz
 obtain ⟨za,zc,rfl,_⟩:=hz
 unfold gT pgc
 simp only [Int.natCast_one]
 have W1:Below w.heap.size w (((w.alloc (.cells #[.pointer (some ⟨S,0,none⟩)] 87)).alloc (.cells #[.int .i64 at_,.int .i64 1,.slice ea en ec,.slice za ks.length zc] 133)).alloc (.cells #[.slice ka kn kc] 33)):=(((Below.refl _ w).alloc (Nat.le_refl _) _).alloc (by simp) _).alloc (by simp;omega) _
 have k0:Blk (((w.alloc (.cells #[.pointer (some ⟨S,0,none⟩)] 87)).alloc (.cells #[.int .i64 at_,.int .i64 1,.slice ea en ec,.slice za ks.length zc] 133)).alloc (.cells #[.slice ka kn kc] 33)) w.heap.size 87 [.pointer (some ⟨S,0,none⟩)]:=((Blk.newAt w w.heap.size 87 #[.pointer (some ⟨S,0,none⟩)] [.pointer (some ⟨S,0,none⟩)] rfl rfl).alloc _).alloc _
 have k1:Blk (((w.alloc (.cells #[.pointer (some ⟨S,0,none⟩)] 87)).alloc (.cells #[.int .i64 at_,.int .i64 1,.slice ea en ec,.slice za ks.length zc] 133)).alloc (.cells #[.slice ka kn kc] 33)) (w.heap.size+1) 133 [.int .i64 at_,.int .i64 1,.slice ea en ec,.slice za ks.length zc]:=(Blk.newAt _ (w.heap.size+1) 133 #[.int .i64 at_,.int .i64 1,.slice ea en ec,.slice za ks.length zc] [.int .i64 at_,.int .i64 1,.slice ea en ec,.slice za ks.length zc] (by simp) rfl).alloc _
 have k2:Blk (((w.alloc (.cells #[.pointer (some ⟨S,0,none⟩)] 87)).alloc (.cells #[.int .i64 at_,.int .i64 1,.slice ea en ec,.slice za ks.length zc] 133)).alloc (.cells #[.slice ka kn kc] 33)) (w.heap.size+2) 33 [.slice ka kn kc]:=Blk.newAt _ (w.heap.size+2) 33 _ _ (by simp) rfl
 generalize hW:((w.alloc (.cells #[.pointer (some ⟨S,0,none⟩)] 87)).alloc (.cells #[.int .i64 at_,.int .i64 1,.slice ea en ec,.slice za ks.length zc] 133)).alloc (.cells #[.slice ka kn kc] 33)=Y0 at *
 have HSe:=codSearch Y0 (ks.length-1) 110 #[.pointer (some ⟨w.heap.size,0,none⟩),.pointer (some ⟨w.heap.size+1,0,none⟩),.pointer (some ⟨w.heap.size+2,0,none⟩)] (fun k=>decide (0<Lib.compareBytes (fstK (lf (k+1))) key)) (by omega) (fun W k hW hk=>by
   have hB:=W1.trans (hW.mono W1.size)
   exact pgLess W S J P base m w.heap.size (w.heap.size+1) (w.heap.size+2) t j at_ _ _ ks lf ka kn kc key k (k+1) rfl (SpAx.keep h (KeepT.of_below hB)) hf (k0.on hW) (k1.on hW) (k2.on hW) (hzz.keep (KeepO.of_below hB)) ⟨_,_,_,rfl⟩ (hkey.below hB rfl) hl (by omega) hks)
  (fun args W=>by simp [callFunc,Tryz.func110];rfl)
 have c3:=k1.cell 3
 simp only [gZ0,gZ1] at c3
 have hw1:IntKind.i64.wrap ((ks.length:Int)-1)=((ks.length-1:Nat):Int):=by rw [show (ks.length:Int)-1=((ks.length-1:Nat):Int) by omega];exact wrapi64_in _ (by omega) (by omega)
 have hmf:∀ (fn:Fn) (first cap:Array Value) (w:World),(Instr.makeFunc fn first cap).run Tryz.prog w=.ok (.func fn first cap) w:=fun _ _ _ _=>rfl
 have HW1:=mkHid W1
 clear h hf k0 k1 k2 W1 hzz hkey hl
 obtain ⟨n1,hn1⟩:∃ n1,ks.length-1=n1:=⟨_,rfl⟩
 rw [hn1] at HSe hw1
 have HN1:=mkHid hn1
 clear hn1
 go_enter Tryz.func73,Tryz.ntmps73
 go_wp2_with fail
 refine HSe.mono ?_
 rintro e y1 ⟨⟨i,rfl,hi,hlo,hhi⟩,hb1⟩
 go_wp2_with fail
 go_ret
 have hn:=HN1.out
 refine ⟨⟨i,rfl,by omega,fun h0=>?_,fun h0=>?_⟩,HW1.out.trans (hb1.mono HW1.out.size)⟩
 ·have:=hlo h0
  rw [show i-1+1=i by omega] at this
  have h2:=of_decide_eq_false this
  rw [cb_gt] at h2
  exact Bool.eq_false_iff.2 h2
 ·have:=of_decide_eq_true (hhi (by omega))
  exact (cb_gt _ _).1 this
variable {fl:Nat}
theorem codKeepFits (w:World)(S J P base m:Nat)(t:Tl)(j:Jl)(s:Nat)(p:Pg)(ve vk:Value)(L:List Eq3)(h:SpAx w S J P base t j)(hf:Fit t j m)(hp:PgR fl w p ve vk L)(hs:PgS p)(hsn:s≤4096)(hz:spWrE t j (s:Int) (pgB p)=0):
  Calls Tryz.prog 104 #[gT S,.agg (pgc (s:Int) p.lv ve vk).toArray] w fun e w'=>e=.returned (.int .i64 0)∧SpAx w' S J P base (spWr t j (s:Int) (pgB p)) j∧KS base w w':=by
 have hlo:=spcOK.lo h
 unfold gT
 have W1:Below w.heap.size w ((w.alloc (.cells #[.pointer (some ⟨S,0,none⟩)] 87)).alloc (.cells (pgc (s:Int) p.lv ve vk).toArray 133)):=((Below.refl _ w).alloc (Nat.le_refl _) _).alloc (by simp) _
 have k0:Blk ((w.alloc (.cells #[.pointer (some ⟨S,0,none⟩)] 87)).alloc (.cells (pgc (s:Int) p.lv ve vk).toArray 133)) w.heap.size 87 [.pointer (some ⟨S,0,none⟩)]:=(Blk.newAt w w.heap.size 87 #[.pointer (some ⟨S,0,none⟩)] [.pointer (some ⟨S,0,none⟩)] rfl rfl).alloc _
 have k1:Blk ((w.alloc (.cells #[.pointer (some ⟨S,0,none⟩)] 87)).alloc (.cells (pgc (s:Int) p.lv ve vk).toArray 133)) (w.heap.size+1) 133 (pgc (s:Int) p.lv ve vk):=Blk.newAt _ (w.heap.size+1) 133 _ _ (by simp) rfl
 have hp0:=hp.below W1
 have hA0:=SpAx.keep h (KeepT.of_below W1)
 have hK0:KS base w ((w.alloc (.cells #[.pointer (some ⟨S,0,none⟩)] 87)).alloc (.cells (pgc (s:Int) p.lv ve vk).toArray 133)):=KS.of_below W1 hlo
 generalize hW:(w.alloc (.cells #[.pointer (some ⟨S,0,none⟩)] 87)).alloc (.cells (pgc (s:Int) p.lv ve vk).toArray 133)=Y0 at *
 have HFi:=codFits (s:Int) p ve vk L Y0 hp0 hs.f
 rw [decide_eq_true (show szP p≤509 from hs.sz)] at HFi
 have HWr:Hid (∀ W,Below Y0.heap.size Y0 W→Calls Tryz.prog 100 #[.agg #[.pointer (some ⟨S,0,none⟩)],.agg (pgc (s:Int) p.lv ve vk).toArray] W fun e w'=>e=.returned (.tuple #[])∧SpAx w' S J P base (spWr t j (s:Int) (pgB p)) j∧KS base W w'):=fun W hW =>
  pgWrite W S J P base m t j s p ve vk L (SpAx.keep hA0 (KeepT.of_below hW)) hf (hp0.below hW) hs hsn hz
 unfold pgc at *
 have c0:=k0.cell 0
 have d0:=k1.cell 0
 have d1:=k1.cell 1
 have d2:=k1.cell 2
 have d3:=k1.cell 3
 simp only [gZ0,gZ1] at c0 d0 d1 d2 d3
 have HK0:=mkHid hK0
 have HB0:=mkHid k0
 have HB1:=mkHid k1
 have HLo:Hid (base≤Y0.heap.size):=spcOK.lo hA0
 clear h hf hp hs hp0 hA0 hK0 k0 k1 W1
 go_enter Tryz.func104,Tryz.ntmps104
 go_upto_region 1 with fail
 (try rw [hW])
 clear hW
 go_upto_region 2 with (go_at_call 145;refine HFi.mono ?_;rintro e y1 ⟨rfl,hb1⟩)
 have HWr1:=HWr.out y1 hb1
 have hk1:=(HK0.out.trans (KS.of_below hb1 HLo.out))
 have KB0:=HB0.out.on hb1
 have KB1:=HB1.out.on hb1
 have c0:=KB0.cell 0
 have d0:=KB1.cell 0
 have d1:=KB1.cell 1
 have d2:=KB1.cell 2
 have d3:=KB1.cell 3
 simp only [gZ0,gZ1] at c0 d0 d1 d2 d3
 have HK1:=mkHid hk1
 clear HFi hb1 hk1 KB0 KB1 HWr
 go_wp2_with (go_at_call 100;refine HWr1.mono ?_;rintro e y2 ⟨rfl,hA2,hk2⟩;have HA2:=mkHid hA2;have HK2:=mkHid hk2;clear hA2 hk2)
 go_ret
 exact ⟨rfl,HA2.out,HK1.out.trans HK2.out⟩
end Go.Proofs.YtpecobmfabmpkaaGreatDoor
