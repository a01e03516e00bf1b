/- PuH PuI PuJ PvO -/
import Derived.Test.YtpecobmfabmpkaaGreatDoorM30
import Derived.Test.YtpecobmfabmpkaaGreatDoorM29
set_option maxRecDepth 20000
set_option maxHeartbeats 4000000
namespace Go.Proofs.YtpecobmfabmpkaaGreatDoor
open Go.RowKit
variable {fl:Nat}
theorem rdN_one {w:World}{B:Nat}{e:Et}{q:EtA}(hB:Blk w B 64 (etc2 e q))(he:EtQ fl w e q):RdN fl w (.slice (some ⟨B,0,none⟩) 1 1) [(e,q)] :=
 ⟨⟨_,1,rfl,Nat.le_refl _,fun _=>⟨B,0,_,_,rfl,hB,fun i u hu=>by
  rw [Nat.zero_add]
  refine (hB.cell i).trans ?_
  have h2:ets [((e,q):Eq3)]=etc2 e q:=by simp [ets]
  rw [←h2]
  exact hu⟩⟩,fun x hx=>by rw [List.mem_singleton.1 hx];exact he⟩
theorem rdZ_two {w:World}{B a b:Nat}(hB:Blk w B 3 [.int .i64 (a:Int),.int .i64 (b:Int)]):RdZ w (.slice (some ⟨B,0,none⟩) 2 2) [a,b] :=
 ⟨_,2,rfl,Nat.le_refl _,fun _=>⟨B,0,_,_,rfl,hB,fun i hi=>by
  rw [Nat.zero_add]
  refine (hB.cell i).trans ?_
  rcases i with _|_|i
  ·rfl
  ·rfl
  ·simp only [List.length_cons,List.length_nil] at hi
   omega⟩⟩
def PutT (w:World)(S J P base m:Nat)(t:Tl)(j:Jl)(l:List Et)(e:Et)(r:Ending)(w':World):Prop :=
 (∃ t' root' S',r=.returned (.int .i64 ((root':Nat):Int))∧SpAx w' S J P base t' j∧Tk t' j m S'∧TR t' j root' (putE13 l e.k e.v) S'∧t'.l.length≤t.l.length+7)∧KS base w w'
theorem pgPut0 (w:World)(S J P base m:Nat)(t:Tl)(j:Jl)(e:Et)(q:EtA)(h:SpAx w S J P base t j)(hk:Tk t j m [])(he:EtQ fl w e q)(hit:itemOk e.k e.v=true)(hroom:t.l.length+8≤48)(hdisk:2<j.p.n-51)(hfl:fl≤base:=by omega):
  Calls Tryz.prog 43 #[gT S,.int .i64 0,.agg (etc2 e q).toArray] w (PutT w S J P base m t j [] e):=by
 have hlo:=spcOK.lo h
 have hFR:FR t j m ([]++[]) []:=⟨hk,fun p hp=>by cases hp⟩
 have hL1:LfOk [e]:=one_leaf hit
 obtain ⟨a1,a2,a3,a4,a5,a6,a7⟩:=hFR.add (by omega) (by simp;omega) hL1
 unfold gT
 have W1:Below w.heap.size w ((w.alloc (.cells #[.pointer (some ⟨S,0,none⟩)] 87)).alloc (.cells (etc2 e q).toArray 64)):=((Below.refl _ w).alloc (Nat.le_refl _) _).alloc (by simp) _
 have k0:Blk ((w.alloc (.cells #[.pointer (some ⟨S,0,none⟩)] 87)).alloc (.cells (etc2 e q).toArray 64)) w.heap.size 87 [.pointer (some ⟨S,0,none⟩)]:=(Blk.newAt w w.heap.size 87 #[.pointer (some ⟨S,0,none⟩)] [.pointer (some ⟨S,0,none⟩)] rfl rfl).alloc _
 have k2:Blk ((w.alloc (.cells #[.pointer (some ⟨S,0,none⟩)] 87)).alloc (.cells (etc2 e q).toArray 64)) (w.heap.size+1) 64 (etc2 e q):=Blk.newAt _ (w.heap.size+1) 64 _ _ (by simp) rfl
 generalize hW:(w.alloc (.cells #[.pointer (some ⟨S,0,none⟩)] 87)).alloc (.cells (etc2 e q).toArray 64)=Y0 at *
 have W2:Below w.heap.size w (Y0.alloc (.cells (etc2 e q).toArray 64)):=W1.alloc W1.size _
 have hAd:=pgAdd (Y0.alloc (.cells (etc2 e q).toArray 64)) S J P base m t j 0 ⟨0,[e],[]⟩ (.slice (some ⟨Y0.heap.size,0,none⟩) 1 1) (.slice none 0 0) [(e,q)] (SpAx.keep h (KeepT.of_below W2)) hk.fit ⟨rdN_one (Blk.new Y0 64 (etc2 e q)) (he.below W2),RdZ.nil _,rfl⟩ (pgS_leaf13 hL1) a1 a2 a4 (by rw [pgB_leaf];exact a5)
 rw [pgB_leaf] at hAd
 unfold gT pgc at hAd
 have HR:Hid (Tk (addT t j (leafB [e])) j m [(tkV t j:Int)]∧TR (addT t j (leafB [e])) j (tkV t j) [e] [(tkV t j:Int)]∧(addT t j (leafB [e])).l.length≤t.l.length+7):=by
  have:=a6.leaf
  exact ⟨this.2,this.1,by omega⟩
 have HK0:=mkHid (KS.of_below (base:=base) W2 hlo)
 unfold etc2 at *
 have c0:=k0.cell 0
 have e0:=k2.cell 0
 have e1:=k2.cell 1
 simp only [gZ0,gZ1] at c0 e0 e1
 clear h hk he hit hFR hL1 a1 a2 a3 a4 a5 a6 a7 W1 W2 k0 k2
 unfold PutT
 have HPut:Hid (putE13 [] e.k e.v=[e]):=put_nil e.k e.v
 rw [HPut.out]
 go_enter Tryz.func43,Tryz.ntmps43
 go_upto_region 1 with fail
 (try rw [hW])
 clear hW
 go_wp2_with (go_at_call 66;refine hAd.mono ?_;rintro r6 y6 ⟨rfl,hA6,hk6⟩;have HA6:=mkHid (And.intro hA6 hk6);clear hA6 hk6)
 go_ret
 exact ⟨⟨_,_,_,rfl,HA6.out.1,HR.out.1,HR.out.2.1,HR.out.2.2⟩,HK0.out.trans HA6.out.2⟩
end Go.Proofs.YtpecobmfabmpkaaGreatDoor
namespace Go.Proofs.YtpecobmfabmpkaaGreatDoor
open Go.RowKit
variable {fl:Nat}
theorem pgPutL (w:World)(S J P base m:Nat)(t:Tl)(j:Jl)(s:Nat)(l:List Et)(e:Et)(q:EtA)(h:SpAx w S J P base t j)(hk:Tk t j m [(s:Int)])(hl:LfAt t j s l)(he:EtQ fl w e q)(hit:itemOk e.k e.v=true)(hroom:t.l.length+8≤48)(hdisk:3<j.p.n-51)(hfl:fl≤base:=by omega):
  Calls Tryz.prog 43 #[gT S,.int .i64 (s:Int),.agg (etc2 e q).toArray] w (PutT w S J P base m t j l e):=by
 have hlo:=spcOK.lo h
 have hf:=hk.fit
 have hn2:=hf.few.n
 have hsr:=hk.rng (s:Int) List.mem_cons_self
 have hFR:FR t j m ([]++(s,l):: []) []:=FR.ofLeaf hl hk
 unfold gT
 have W1:Below w.heap.size w ((w.alloc (.cells #[.pointer (some ⟨S,0,none⟩)] 87)).alloc (.cells (etc2 e q).toArray 64)):=((Below.refl _ w).alloc (Nat.le_refl _) _).alloc (by simp) _
 have k0:Blk ((w.alloc (.cells #[.pointer (some ⟨S,0,none⟩)] 87)).alloc (.cells (etc2 e q).toArray 64)) w.heap.size 87 [.pointer (some ⟨S,0,none⟩)]:=(Blk.newAt w w.heap.size 87 #[.pointer (some ⟨S,0,none⟩)] [.pointer (some ⟨S,0,none⟩)] rfl rfl).alloc _
 have k2:Blk ((w.alloc (.cells #[.pointer (some ⟨S,0,none⟩)] 87)).alloc (.cells (etc2 e q).toArray 64)) (w.heap.size+1) 64 (etc2 e q):=Blk.newAt _ (w.heap.size+1) 64 _ _ (by simp) rfl
 generalize hW:(w.alloc (.cells #[.pointer (some ⟨S,0,none⟩)] 87)).alloc (.cells (etc2 e q).toArray 64)=Y0 at *
 have hA0:=SpAx.keep h (KeepT.of_below W1)
 have he0:=he.below W1
 have HRd:=pgRead Y0 S J P base m t j s ⟨0,l,[]⟩ hA0 hf (by omega) (by omega) (by rw [hl.rd];exact pg_leaf hl.ok)
 have HIL:Hid (∀ Y2 v ve vk L,Below Y0.heap.size Y0 Y2→PgO Y2 Y0.heap.size (s:Int) ⟨0,l,[]⟩ v ve vk L→Calls Tryz.prog 68 #[gT S,v,.agg (etc2 e q).toArray] Y2 fun r w'=>(∃ b t',r=.returned (.int .i64 b)∧SpAx w' S J P base t' j∧KeepPost t j m [] [] [] s (putE13 l e.k e.v) b t')∧KS base Y0 w'∧PgKeep Y2 w'):=fun Y2 v ve vk L hb hp =>
  codInsLeaf Y2 Y0 S J P base m t j [] [] [] s l v ve vk L e q (SpAx.keep hA0 (KeepT.of_below hb)) hFR (KS.of_below hb (spcOK.lo hA0)) hp (he0.below hb) hit (by omega) (by simp;omega) (spcOK.lo hA0)
 have HK0:=mkHid (KS.of_below (base:=base) W1 hlo)
 have HLo:Hid (base≤Y0.heap.size):=spcOK.lo hA0
 unfold etc2 gT at *
 have HB0:=mkHid k0
 have HB2:=mkHid k2
 have c0:=k0.cell 0
 simp only [List.getElem?_cons_zero] at c0
 have hs0:((s:Int)==0)=false:=by rw [beq_eq_false_iff_ne];omega
 have hs1:¬ s=0:=by omega
 clear h hk he hit hFR W1 k0 k2 hA0 he0 hsr
 unfold PutT
 go_enter Tryz.func43,Tryz.ntmps43
 go_upto_region 1 with fail
 (try rw [hW])
 clear hW
 go_upto_region 3 with fail
 go_upto_region 4 with (go_at_call 67;refine HRd.mono ?_;rintro r1 y1 ⟨⟨v,ve,vk,L,rfl,hp1⟩,hb1⟩;obtain ⟨ea,ec,ka,kc,hve,hvk⟩:=hp1.r.forms;subst hve hvk;obtain rfl:=hp1.v;unfold pgc)
 have W2:Below y1.heap.size y1 (y1.alloc (.cells #[.int .i64 (s:Int),.int .i64 0,.slice ea l.length ec,.slice ka 0 kc] 133)):=(Below.refl _ y1).alloc (Nat.le_refl _) _
 have kp:Blk (y1.alloc (.cells #[.int .i64 (s:Int),.int .i64 0,.slice ea l.length ec,.slice ka 0 kc] 133)) y1.heap.size 133 [.int .i64 (s:Int),.int .i64 0,.slice ea l.length ec,.slice ka 0 kc]:=Blk.new y1 133 [.int .i64 (s:Int),.int .i64 0,.slice ea l.length ec,.slice ka 0 kc]
 have hb2:=hb1.trans (W2.mono hb1.size)
 have hIL:=HIL.out _ _ _ _ L hb2 (hp1.below W2)
 have kb0:=HB0.out.on hb2
 have kb2:=HB2.out.on hb2
 simp only [List.length_nil] at hIL
 unfold pgc at hIL
 generalize hn:l.length=n at hIL kp W2 hb2 hp1 kb0 kb2 ⊢
 generalize y1.alloc (.cells #[.int .i64 (s:Int),.int .i64 0,.slice ea n ec,.slice ka 0 kc] 133)=Y2 at *
 have c0:=kb0.cell 0
 have d0:=kp.cell 0
 have d1:=kp.cell 1
 have d2:=kp.cell 2
 have d3:=kp.cell 3
 have e0:=kb2.cell 0
 have e1:=kb2.cell 1
 simp only [gZ0,gZ1] at c0 d0 d1 d2 d3 e0 e1
 have HKP:=mkHid kp
 have hbz:w.heap.size+1<Y2.heap.size:=kb2.lt
 have hkb2:KS base Y0 Y2:=KS.of_below hb2 HLo.out
 clear hp1 HIL HRd hb1 kb0 kb2 kp HB2 hn
 go_upto_region 5 with (go_at_call 68;refine hIL.mono ?_;rintro r3 y3 ⟨⟨b,t',rfl,hA3,hr3,hkp⟩,hk3,hpk⟩)
 have HA3:=mkHid hA3
 have HK3:=mkHid (HK0.out.trans hk3)
 clear hA3 hIL
 rcases hkp with ⟨rfl,hl3,hF3,hX3⟩|⟨k,c,rfl,hk51,hkn',hl3,hl4,hF3⟩
 ·have HR:=mkHid hF3.leaf
  clear hl3 hF3 hX3 hk3 W2 hb2 HKP hpk
  go_wp2_with fail
  go_ret
  exact ⟨⟨t',s,_,rfl,HA3.out,HR.out.2,HR.out.1,by omega⟩,HK3.out⟩
 have hF3':FR t' j m [(s,(putE13 l e.k e.v).take c),(k,(putE13 l e.k e.v).drop c)] []:=hF3
 obtain ⟨z1,z2,z3,z4,z5,z6,z7,z8⟩:=hF3'.newtop (by omega) (by simp;omega) [s,k]
 have hks6:∀ x∈[s,k],x<65536:=fun x hx=>by
  simp only [List.mem_cons,List.not_mem_nil,or_false] at hx
  rcases hx with rfl|rfl
  ·have:=hF3'.rng (p:=(x,(putE13 l e.k e.v).take c)) List.mem_cons_self
   omega
  ·omega
 have hR:TR (addT t' j (nodeB [s,k])) j (tkV t' j) (putE13 l e.k e.v) ((tkV t' j:Int):: secsP [(s,(putE13 l e.k e.v).take c),(k,(putE13 l e.k e.v).drop c)])∧Tk (addT t' j (nodeB [s,k])) j m ((tkV t' j:Int):: secsP [(s,(putE13 l e.k e.v).take c),(k,(putE13 l e.k e.v).drop c)]):=by
  have hpe:putE13 l e.k e.v=entsP [(s,(putE13 l e.k e.v).take c),(k,(putE13 l e.k e.v).drop c)]:=by
   rw [entsP,entsP,entsP,List.append_nil,List.take_append_drop]
  have hso:SrtE (entsP [(s,(putE13 l e.k e.v).take c),(k,(putE13 l e.k e.v).drop c)]):=by
   rw [←hpe]
   have:=hl.ok.srt.put e.k e.v
   exact this
  have:=z6.node hso (by simp) (by simp) z8
  rw [←hpe] at this
  exact this
 have hAd:=fun W hA hB=>pgAdd (fl:=0) W S J P base m t' j 0 ⟨1,[],[s,k]⟩ (.slice none 0 0) (.slice (some ⟨y3.heap.size,0,none⟩) 2 2) [] hA hF3.tk.fit ⟨rdN_empty _ _ _,rdZ_two hB,rfl⟩ (pgS_node13 (by simp) hks6) z1 z2 z4 (by rw [pgB_node];exact z5)
 rw [pgB_node] at hAd
 have hA4:Below y3.heap.size y3 (y3.alloc (.cells #[.int .i64 (s:Int),.int .i64 (k:Int)] 3)):=(Below.refl _ y3).alloc (Nat.le_refl _) _
 have hAd:=hAd _ (SpAx.keep HA3.out (KeepT.of_below hA4)) (Blk.new y3 3 [.int .i64 (s:Int),.int .i64 (k:Int)])
 unfold gT pgc at hAd
 have kb0:=hk3.o.blk HB0.out (by decide)
 have kp3:=hpk _ _ HKP.out
 have HA4:=mkHid hA4
 have HR:=mkHid hR
 have HZ7:=mkHid z7
 have hk0:((k:Int)==0)=false:=by rw [beq_eq_false_iff_ne];omega
 have hk1:¬ k=0:=by omega
 have c0:=kb0.cell 0
 have d1:=kp3.cell 1
 simp only [gZ0,gZ1] at c0 d1
 have HK4:=mkHid (HK3.out.trans (KS.of_below hA4 (spcOK.lo HA3.out)))
 generalize tkV t' j=kk at *
 generalize addT t' j (nodeB [s,k])=tt at *
 clear hF3 hF3' hR z1 z2 z3 z4 z5 z6 z7 z8 hl3 hl4 hks6 hk3 hkb2 W2 hb2 hA4 hpk kb0 kp3 HKP
 go_wp2_with (go_at_call 66;refine hAd.mono ?_;rintro r6 y6 ⟨rfl,hA6,hk6⟩;have HA6:=mkHid (And.intro hA6 hk6);clear hA6 hk6)
 go_ret
 exact ⟨⟨tt,kk,_,rfl,HA6.out.1,HR.out.2,HR.out.1,by have:=HZ7.out;omega⟩,HK4.out.trans HA6.out.2⟩
end Go.Proofs.YtpecobmfabmpkaaGreatDoor
namespace Go.Proofs.YtpecobmfabmpkaaGreatDoor
open Go.RowKit
variable {fl:Nat}
theorem nd_pg13 {t:Tl}{j:Jl}{m:Nat}{s:Nat}{Q:Ps}(hN:NdAt t j s Q)(hk:Tk t j m ((s:Int):: secsP Q)):pgOf (spRdB t j (s:Int))=some ⟨1,[],Q.map (·.1)⟩:=by
 rw [hN.rd]
 refine pg_node (by have:=hN.n;rw [List.length_map];omega) (by have:=hN.n2;rw [List.length_map];omega) (fun x hx=>?_)
 obtain ⟨p,hp,rfl⟩:=List.mem_map.1 hx
 have:=hk.rng (p.1:Int) (List.mem_cons_of_mem _ (List.mem_map.2 ⟨p,hp,rfl⟩))
 have:=hk.fit.few.n
 omega
theorem pgPutN (w:World)(S J P base m:Nat)(t:Tl)(j:Jl)(s:Nat)(Q:Ps)(e:Et)(q:EtA)(h:SpAx w S J P base t j)(hk:Tk t j m ((s:Int):: secsP Q))(hN:NdAt t j s Q)(hso:SrtE (entsP Q))(he:EtQ fl w e q)(hit:itemOk e.k e.v=true)(hroom:t.l.length+8≤48)(hq:Q.length≤200)(hdisk:Q.length+1<j.p.n-51)(hfl:fl≤base:=by omega):
  Calls Tryz.prog 43 #[gT S,.int .i64 (s:Int),.agg (etc2 e q).toArray] w (PutT w S J P base m t j (entsP Q) e):=by
 have hlo:=spcOK.lo h
 have hf:=hk.fit
 have hn2:=hf.few.n
 have hsr:=hk.rng (s:Int) List.mem_cons_self
 unfold gT
 have W1:Below w.heap.size w ((w.alloc (.cells #[.pointer (some ⟨S,0,none⟩)] 87)).alloc (.cells (etc2 e q).toArray 64)):=((Below.refl _ w).alloc (Nat.le_refl _) _).alloc (by simp) _
 have k0:Blk ((w.alloc (.cells #[.pointer (some ⟨S,0,none⟩)] 87)).alloc (.cells (etc2 e q).toArray 64)) w.heap.size 87 [.pointer (some ⟨S,0,none⟩)]:=(Blk.newAt w w.heap.size 87 #[.pointer (some ⟨S,0,none⟩)] [.pointer (some ⟨S,0,none⟩)] rfl rfl).alloc _
 have k2:Blk ((w.alloc (.cells #[.pointer (some ⟨S,0,none⟩)] 87)).alloc (.cells (etc2 e q).toArray 64)) (w.heap.size+1) 64 (etc2 e q):=Blk.newAt _ (w.heap.size+1) 64 _ _ (by simp) rfl
 generalize hW:(w.alloc (.cells #[.pointer (some ⟨S,0,none⟩)] 87)).alloc (.cells (etc2 e q).toArray 64)=Y0 at *
 have hA0:=SpAx.keep h (KeepT.of_below W1)
 have he0:=he.below W1
 have HRd:=pgRead Y0 S J P base m t j s _ hA0 hf (by omega) (by omega) (nd_pg13 hN hk)
 have HIL:Hid (∀ Y2 v ve vk L,Below Y0.heap.size Y0 Y2→PgO Y2 Y0.heap.size (s:Int) ⟨1,[],Q.map (·.1)⟩ v ve vk L→Calls Tryz.prog 68 #[gT S,v,.agg (etc2 e q).toArray] Y2 fun r w'=>(∃ t' S',r=.returned (.int .i64 0)∧SpAx w' S J P base t' j∧Tk t' j m S'∧TR t' j s (putE13 (entsP Q) e.k e.v) S'∧t'.l.length≤t.l.length+5)∧KS base Y0 w'):=fun Y2 v ve vk L hb hp =>
  codInsNode Y2 Y0 S J P base m t j Q s v ve vk L e q (SpAx.keep hA0 (KeepT.of_below hb)) hN hk hso (KS.of_below hb (spcOK.lo hA0)) hp (he0.below hb) hit (by omega) hq hdisk (spcOK.lo hA0)
 have HK0:=mkHid (KS.of_below (base:=base) W1 hlo)
 have HLo:Hid (base≤Y0.heap.size):=spcOK.lo hA0
 unfold etc2 gT at *
 have HB0:=mkHid k0
 have HB2:=mkHid k2
 have c0:=k0.cell 0
 simp only [List.getElem?_cons_zero] at c0
 have hs0:((s:Int)==0)=false:=by rw [beq_eq_false_iff_ne];omega
 have hs1:¬ s=0:=by omega
 clear h hk he hit W1 k0 k2 hA0 he0 hsr hso hN
 unfold PutT
 generalize hks:Q.map (·.1)=ks at *
 go_enter Tryz.func43,Tryz.ntmps43
 go_upto_region 1 with fail
 (try rw [hW])
 clear hW
 go_upto_region 3 with fail
 go_upto_region 4 with (go_at_call 67;refine HRd.mono ?_;rintro r1 y1 ⟨⟨v,ve,vk,L,rfl,hp1⟩,hb1⟩;obtain ⟨ea,ec,ka,kc,hve,hvk⟩:=hp1.r.forms;subst hve hvk;obtain rfl:=hp1.v;unfold pgc)
 have W2:Below y1.heap.size y1 (y1.alloc (.cells #[.int .i64 (s:Int),.int .i64 1,.slice ea 0 ec,.slice ka ks.length kc] 133)):=(Below.refl _ y1).alloc (Nat.le_refl _) _
 have kp:Blk (y1.alloc (.cells #[.int .i64 (s:Int),.int .i64 1,.slice ea 0 ec,.slice ka ks.length kc] 133)) y1.heap.size 133 [.int .i64 (s:Int),.int .i64 1,.slice ea 0 ec,.slice ka ks.length kc]:=Blk.new y1 133 [.int .i64 (s:Int),.int .i64 1,.slice ea 0 ec,.slice ka ks.length kc]
 have hb2:=hb1.trans (W2.mono hb1.size)
 have hIL:=HIL.out _ _ _ _ L hb2 (hp1.below W2)
 have kb0:=HB0.out.on hb2
 have kb2:=HB2.out.on hb2
 simp only [List.length_nil] at hIL
 unfold pgc at hIL
 generalize ks.length=n at hIL kp W2 hb2 hp1 kb0 kb2 ⊢
 generalize y1.alloc (.cells #[.int .i64 (s:Int),.int .i64 1,.slice ea 0 ec,.slice ka n kc] 133)=Y2 at *
 have c0:=kb0.cell 0
 have d0:=kp.cell 0
 have d1:=kp.cell 1
 have d2:=kp.cell 2
 have d3:=kp.cell 3
 have e0:=kb2.cell 0
 have e1:=kb2.cell 1
 simp only [gZ0,gZ1] at c0 d0 d1 d2 d3 e0 e1
 clear hp1 HIL HRd hb1 kb0 kb2 kp HB2 hks W2 hb2
 go_upto_region 5 with (go_at_call 68;refine hIL.mono ?_;rintro r3 y3 ⟨⟨t',S',rfl,hA3,hk3,ht3,hr3⟩,hks3⟩)
 have HA3:=mkHid (And.intro hA3 (And.intro hk3 ht3))
 have HK3:=mkHid (HK0.out.trans hks3)
 clear hA3 hIL hk3 ht3 hks3
 go_wp2_with fail
 go_ret
 exact ⟨⟨t',s,S',rfl,HA3.out.1,HA3.out.2.1,HA3.out.2.2,by omega⟩,HK3.out⟩
theorem pgPut (w:World)(S J P base m:Nat)(t:Tl)(j:Jl)(root:Nat)(l:List Et)(SS:List Int)(e:Et)(q:EtA)(h:SpAx w S J P base t j)(hk:Tk t j m SS)(ht:TR t j root l SS)(he:EtQ fl w e q)(hit:itemOk e.k e.v=true)(hroom:t.l.length+8≤48)(hl:l.length≤190)(hdisk:SS.length+3<j.p.n-51)(hfl:fl≤base:=by omega):
  Calls Tryz.prog 43 #[gT S,.int .i64 (root:Int),.agg (etc2 e q).toArray] w (PutT w S J P base m t j l e):=by
 rcases ht.2 with ⟨rfl,rfl,rfl⟩|⟨rfl,hL⟩|⟨Q,hN,rfl,rfl⟩
 ·exact pgPut0 w S J P base m t j e q h hk he hit hroom (by simp at hdisk;omega)
 ·exact pgPutL w S J P base m t j root l e q h hk hL he hit hroom (by simp at hdisk;omega)
 ·have h1:=entsP_len (fun p hp=>(hN.lf p hp).ok.ne)
  have h2:(secsP Q).length=Q.length:=List.length_map _
  refine pgPutN w S J P base m t j root Q e q h hk hN ht.1 he hit hroom (by omega) (by simp only [List.length_cons] at hdisk;omega)
end Go.Proofs.YtpecobmfabmpkaaGreatDoor
namespace Go.Proofs.YtpecobmfabmpkaaGreatDoor
open Go.RowKit
def stpC (c:Int)(_:List Et):Int × Bool:=(IntKind.i64.wrap (c+1),true)
def InvC (nB:Nat)(c:Int)(_:Nat)(w:World):Prop:=Blk w nB 3 [.int .i64 c]
theorem eachF_count (ls:List (List Et)):∀ c:Nat,c+ls.length≤1000→eachF stpC (c:Int) ls=(((c+ls.length:Nat):Int),true):=by
 induction ls with
 | nil=>intro c _;rfl
 | cons l ls ih =>
  intro c h
  rw [List.length_cons] at h
  have h1:stpC (c:Int) l=(((c+1:Nat):Int),true):=by
   unfold stpC
   rw [wrapi64_in _ (by omega) (by omega)]
   rfl
  rw [eachF,h1,if_pos rfl,ih (c+1) (by omega),List.length_cons]
  congr 2
  omega
theorem visCount (nB N0 Nl:Nat)(h0:nB<N0)(h1:Nl≤nB):VisOK 79 #[.pointer (some ⟨nB,0,none⟩)] stpC (InvC nB) N0 Nl (fun _=>1000):=by
 refine ⟨fun _ _=>by omega,fun s _ W at_ p ve vk L _ hI hp _ _ _ _=>?_,fun s _ W W' hI hT _=>hT.blk hI (by decide),fun args w=>by simp [callFunc,Tryz.func79];rfl⟩
 obtain ⟨ea,ec,xa,xc,rfl,rfl⟩:=hp.forms
 have W1:Below W.heap.size W (W.alloc (.cells (pgc at_ p.lv (.slice ea p.es.length ec) (.slice xa p.ks.length xc)).toArray 133)):=(Below.refl _ W).alloc (Nat.le_refl _) _
 have hB:Blk W nB 3 [.int .i64 s]:=hI
 have hlt:=hB.lt
 have kn:=hB.on W1
 have c0:=kn.cell 0
 have f0:=kn.frozen 0
 simp only [List.getElem?_cons_zero] at c0
 have HK:=mkHid kn
 have HW1:=mkHid W1
 unfold pgc at *
 generalize hW:W.alloc (.cells _ 133)=Y0 at *
 clear hp hI hB kn W1
 generalize p.es.length=n1 at *
 generalize p.ks.length=n2 at *
 obtain ⟨z,hz⟩:∃ z,IntKind.i64.wrap (s+1)=z:=⟨_,rfl⟩
 have hst:(stpC s p.es)=(z,true):=by unfold stpC;rw [hz]
 rw [hst]
 clear hst
 show Calls Tryz.prog _ #[_,_] W _
 go_enter Tryz.func79,Tryz.ntmps79
 go_upto_region 1 with fail
 (try rw [hW])
 clear hW
 go_wp2_with fail
 go_ret
 have hT:KeepT [3] Y0 (Y0.setCell ⟨nB,0,none⟩ (.int .i64 z)):=(KeepT.refl _ Y0).set HK.out (by decide) 0 _
 have hset:=HK.out.set 0 (.int .i64 z)
 refine ⟨rfl,hset,⟨fun B o hBo hn _=>?_,(KeepT.of_below HW1.out).trans (hT.more (us:=[64,50,3,144]) (by decide)),(HW1.out.mono (by omega)).setCell (p:=⟨nB,0,none⟩) h1 _⟩⟩
 have h2:=(HW1.out.5 B (Array.getElem?_eq_some_iff.1 hBo).1).trans hBo
 exact (Below.heap_setCell _ _ _ _ (by show B≠nB;omega)).trans h2
def CntPost (S:List Int)(w:World)(e:Ending)(w':World):Prop:=e=.returned (.int .i64 (S.length:Int))∧Below w.heap.size w w'
theorem pgCount (w:World)(S J P base m:Nat)(t:Tl)(j:Jl)(root:Nat)(l:List Et)(SS:List Int)(h:SpAx w S J P base t j)(hk:Tk t j m SS)(ht:TR t j root l SS)(hl:l.length≤190):
  Calls Tryz.prog 53 #[gT S,.int .i64 (root:Int)] w (CntPost SS w):=by
 have hf:=hk.fit
 unfold gT
 have W1:Below w.heap.size w ((w.alloc (.cells #[.pointer (some ⟨S,0,none⟩)] 87)).alloc (.cells #[.int .i64 0] 3)):=((Below.refl _ w).alloc (Nat.le_refl _) _).alloc (by simp) _
 have k0:Blk ((w.alloc (.cells #[.pointer (some ⟨S,0,none⟩)] 87)).alloc (.cells #[.int .i64 0] 3)) w.heap.size 87 [.pointer (some ⟨S,0,none⟩)]:=(Blk.newAt w w.heap.size 87 #[.pointer (some ⟨S,0,none⟩)] [.pointer (some ⟨S,0,none⟩)] rfl rfl).alloc _
 have k1:Blk ((w.alloc (.cells #[.pointer (some ⟨S,0,none⟩)] 87)).alloc (.cells #[.int .i64 0] 3)) (w.heap.size+1) 3 [.int .i64 0]:=Blk.newAt _ (w.heap.size+1) 3 _ _ (by simp) rfl
 generalize hW:(w.alloc (.cells #[.pointer (some ⟨S,0,none⟩)] 87)).alloc (.cells #[.int .i64 0] 3)=Y0 at *
 have hs0:Y0.heap.size=w.heap.size+2:=by rw [←hW];simp
 have c0:=k0.cell 0
 have n0:=k1.cell 0
 simp only [List.getElem?_cons_zero] at c0 n0
 have HW:=mkHid hW
 clear hW
 rcases ht.2 with ⟨rfl,rfl,rfl⟩|hcase
 ·have HF:=mkHid W1
  clear h hk k0 k1 W1
  rw [show (((0:Nat)):Int)=0 from rfl]
  go_enter Tryz.func53,Tryz.ntmps53
  go_upto_region 2 with fail
  (try rw [HW.out])
  go_wp2_with fail
  go_ret
  exact ⟨rfl,HF.out⟩
 have hr51:51≤root∧root<j.p.n:=by
  rcases hcase with ⟨rfl,_⟩|⟨Q,_,rfl,rfl⟩
  ·have:=hk.rng (root:Int) List.mem_cons_self;omega
  ·have:=hk.rng (root:Int) List.mem_cons_self;omega
 have hs1:((root:Int)==0)=false:=by rw [beq_eq_false_iff_ne];omega
 have hs2:¬ root=0:=by omega
 obtain ⟨pg,hpg⟩:∃ pg,pgOf (spRdB t j (root:Int))=some pg:=by
  rcases hcase with ⟨rfl,hL⟩|⟨Q,hN,rfl,rfl⟩
  ·exact ⟨_,by rw [hL.rd];exact pg_leaf hL.ok⟩
  ·exact ⟨_,nd_pg13 hN hk⟩
 have W3:Below Y0.heap.size Y0 (Y0.alloc (.cells #[.pointer (some ⟨S,0,none⟩),.slice none 0 0] 144)):=(Below.refl _ Y0).alloc (Nat.le_refl _) _
 have kw:Blk (Y0.alloc (.cells #[.pointer (some ⟨S,0,none⟩),.slice none 0 0] 144)) (w.heap.size+2) 144 [.pointer (some ⟨S,0,none⟩),.slice none 0 0]:=Blk.newAt Y0 (w.heap.size+2) 144 _ _ hs0 rfl
 have k03:=k0.on W3
 have k13:=k1.on W3
 have W13:=W1.trans (W3.mono W1.size)
 generalize hW3:Y0.alloc (.cells #[.pointer (some ⟨S,0,none⟩),.slice none 0 0] 144)=Y3 at *
 have hA3:=SpAx.keep h (KeepT.of_below W13)
 have HRd:=pgRead Y3 S J P base m t j root pg hA3 hf hr51.1 hr51.2 hpg
 have hV:=visCount (w.heap.size+1) (w.heap.size+2) w.heap.size (by omega) (by omega)
 have hY3:w.heap.size+2<Y3.heap.size:=kw.lt
 have HEa:Hid (∀ y4 v ve vk L,Below Y3.heap.size Y3 y4→PgO y4 Y3.heap.size (root:Int) pg v ve vk L→Calls Tryz.prog 76 #[.pointer (some ⟨w.heap.size+2,0,none⟩),v,.slice none 0 0,.func (.func 79) #[] #[.pointer (some ⟨w.heap.size+1,0,none⟩)]] y4 fun e w'=>e=.returned (.bool true)∧Blk w' (w.heap.size+1) 3 [.int .i64 (SS.length:Int)]∧Below w.heap.size w w'):=fun y4 v ve vk L hb hp=>by
  have hn4:=k13.on hb
  have hw4:=kw.on hb
  have hB4:=W13.trans (hb.mono W13.size)
  rcases hcase with ⟨rfl,hL⟩|⟨Q,hN,rfl,rfl⟩
  ·have hpe:pg=⟨0,l,[]⟩:=by
    have h2:=pg_leaf hL.ok
    rw [hL.rd,h2] at hpg
    exact (Option.some.inj hpg).symm
   subst hpe
   obtain rfl:=hp.v
   have h0:=fst_mem hL.ok.ne
   obtain ⟨e1,he1,hk1⟩:=h0
   have:=codEach0 79 #[.pointer (some ⟨w.heap.size+1,0,none⟩)] stpC (InvC (w.heap.size+1)) (w.heap.size+2) w.heap.size (fun _=>1000) hV y4 (w.heap.size+2) S (root:Int) ve vk (.slice none 0 0) l L none 0 0 [] 0 Y3.heap.size (by omega) hn4 hp.e hw4 hp.r hL.ok (fun W _=>isB_none W) (less_nil (by rw [←hk1];exact (item_facts (hL.ok.ok e1 he1)).1)) ⟨none,0,0,rfl⟩ (Nat.le_refl _) (by omega)
   refine this.mono ?_
   rintro e w' ⟨q1,⟨_,_,q2⟩,_,q3⟩
   exact ⟨q1,q2,hB4.trans q3.b⟩
  ·have hpe:pg=⟨1,[],Q.map (·.1)⟩:=by
    rw [nd_pg13 hN hk] at hpg
    exact (Option.some.inj hpg).symm
   subst hpe
   obtain rfl:=hp.v
   have hL0:L=[]:=List.map_eq_nil_iff.1 hp.es
   have hq2:=hN.n
   have hq254:=hN.n2
   have hA4:=SpAx.keep hA3 (KeepT.of_below hb)
   have hrd:=hp.r.e
   rw [hL0] at hrd
   have:=codEach1 (fl:=0) 79 #[.pointer (some ⟨w.heap.size+1,0,none⟩)] stpC (InvC (w.heap.size+1)) (w.heap.size+2) w.heap.size (fun _=>1000) hV y4 S J P base m t j (w.heap.size+2) root Q (root:Int) ve vk none 0 0 [] 0 Y3.heap.size (by show Q.length+1≤1000;omega) hA4 hN hk ht.1 hn4 (by rw [←hL0];exact hp.e) rfl hw4 hrd (own_base hp.k (by omega)) (fun W _=>isB_none W) (Nat.le_refl _) (by omega)
   refine this.mono ?_
   rintro e w' ⟨i,q0,q1,_,q3,⟨_,q4⟩,q5⟩
   have hi0:i=0:=by
    rcases Nat.eq_zero_or_pos i with h0|h0
    ·exact h0
    ·have h2:=q1 h0
     have hlf:=hN.lf (Q.getD i (0,[])) (by rw [show Q.getD i (0,[])=Q[i] by simp [q0]];exact List.getElem_mem _)
     obtain ⟨e1,he1,hk1⟩:=fst_mem hlf.ok.ne
     rw [less_nil (by rw [←hk1];exact (item_facts (hlf.ok.ok e1 he1)).1)] at h2
     cases h2
   subst hi0
   have hst:(stpC 0 []).1=((1:Nat):Int):=by decide
   have hc:=eachF_count (Q.map (·.2)) 1 (by rw [List.length_map];omega)
   rw [List.drop_zero,hst,hc] at q3 q4
   rw [List.length_map] at q4
   refine ⟨q3,?_,hB4.trans q5.b⟩
   have hsl:((root:Int):: secsP Q).length=1+Q.length:=by
    rw [List.length_cons]
    unfold secsP
    rw [List.length_map]
    omega
   rw [hsl]
   exact q4
 have hmf:∀ (fn:Fn) (first cap:Array Value) (w:World),(Instr.makeFunc fn first cap).run Tryz.prog w=.ok (.func fn first cap) w:=fun _ _ _ _=>rfl
 have c3:=k03.cell 0
 have n3:=k13.cell 0
 simp only [List.getElem?_cons_zero] at c3 n3
 clear h hk ht hcase k0 k1 k03 k13 kw W1 W3 W13 hA3 hV hpg hl
 have HW3:=mkHid hW3
 clear hW3
 go_enter Tryz.func53,Tryz.ntmps53
 go_upto_region 2 with fail
 (try rw [HW.out])
 go_upto_region 5 with fail
 (try rw [HW3.out])
 go_upto_region 6 with (first|(go_at_call 67;refine HRd.mono ?_;rintro r4 y4 ⟨⟨v,ve,vk,L,rfl,hp4⟩,hb4⟩;have hEa:=HEa.out y4 v ve vk L hb4 hp4)|(go_at_call 76;refine hEa.mono ?_;rintro r5 y5 ⟨rfl,hn5,hB5⟩))
 have n5:=hn5.cell 0
 simp only [List.getElem?_cons_zero] at n5
 have HB5:=mkHid hB5
 clear hEa HEa hn5 hB5
 go_wp2_with fail
 go_ret
 exact ⟨rfl,HB5.out⟩
end Go.Proofs.YtpecobmfabmpkaaGreatDoor
