/- PuH PuI PuJ PvO PvN2 Tp7 -/
import Derived.Test.YtpecobmfabmpkaaGreatDoorM32
import Derived.Test.YtpecobmfabmpkaaGreatDoorM31
set_option maxRecDepth 20000
set_option maxHeartbeats 6000000
namespace Go.Proofs.YtpecobmfabmpkaaGreatDoor
open Go.RowKit
variable {fl:Nat}
theorem rdN_one {w:World}{B:Nat}{e:Et}{q:EtA}(hB:Blk w B 64 (etc2 e q))(he:EtQ fl w e q):RdN fl w (.slice (some ⟨B,0,none⟩) 1 1) [(e,q)] :=
 ⟨⟨_,1,rfl,Nat.le_refl _,fun _=>⟨B,0,_,_,rfl,hB,fun i u hu=>by
  rw[Nat.zero_add]
  refine(hB.cell i).trans ?_
  have h2:ets [((e,q):Eq3)]=etc2 e q:=by simp[ets]
  rw[←h2]
  exact hu⟩⟩,fun x hx=>by rw[List.mem_singleton.1 hx];exact he⟩
theorem rdZ_two {w:World}{B a b:Nat}(hB:Blk w B 3 [.int .i64 (a:Int),.int .i64 (b:Int)]):RdZ w (.slice (some ⟨B,0,none⟩) 2 2) [a,b] :=
 ⟨_,2,rfl,Nat.le_refl _,fun _=>⟨B,0,_,_,rfl,hB,fun i hi=>by
  rw[Nat.zero_add]
  refine(hB.cell i).trans ?_
  rcases i with _|_|i
  ·rfl
  ·rfl
  ·simp only[List.length_cons,List.length_nil] at hi
   omega⟩⟩
def PutT (w:World)(S J P base m:Nat)(t:Tl)(j:Jl)(l:List Et)(e:Et)(r:Ending)(w':World):Prop :=
 (∃t' root' S',r=.returned (.int .i64 ((root':Nat):Int))∧SpAx w' S J P base t' j∧Tk t' j m S'∧TR t' j root' (putE13 l e.k e.v) S'∧t'.l.length≤t.l.length+7)∧KS base w w'
theorem pgPut0 (w:World)(S J P base m:Nat)(t:Tl)(j:Jl)(e:Et)(q:EtA)(h:SpAx w S J P base t j)(hk:Tk t j m [])(he:EtQ fl w e q)(hit:itemOk e.k e.v=true)(hroom:t.l.length+8≤48)(hdisk:2<j.p.n-51)(hfl:fl≤base:=by omega):
  Calls Tryz.prog 43 #[gT S,.int .i64 0,.agg (etc2 e q).toArray] w (PutT w S J P base m t j [] e):=by
 have hlo:=spcOK.lo h
 have hFR:FR t j m ([]++[]) []:=⟨hk,fun p hp=>by cases hp⟩
 have hL1:LfOk [e]:=one_leaf hit
 obtain⟨a1,a2,a3,a4,a5,a6,a7⟩:=hFR.add (by omega) (by simp;omega) hL1
 unfold gT
 have W1:Below w.heap.size w ((w.alloc (.cells #[.pointer (some ⟨S,0,none⟩)] 87)).alloc (.cells (etc2 e q).toArray 64)):=((Below.refl _ w).alloc (Nat.le_refl _) _).alloc (by simp) _
 have k0:Blk ((w.alloc (.cells #[.pointer (some ⟨S,0,none⟩)] 87)).alloc (.cells (etc2 e q).toArray 64)) w.heap.size 87 [.pointer (some ⟨S,0,none⟩)]:=(Blk.newAt w w.heap.size 87 #[.pointer (some ⟨S,0,none⟩)] [.pointer (some ⟨S,0,none⟩)] rfl rfl).alloc _
 have k2:Blk ((w.alloc (.cells #[.pointer (some ⟨S,0,none⟩)] 87)).alloc (.cells (etc2 e q).toArray 64)) (w.heap.size+1) 64 (etc2 e q):=Blk.newAt _ (w.heap.size+1) 64 _ _ (by simp) rfl
 generalize hW:(w.alloc (.cells #[.pointer (some ⟨S,0,none⟩)] 87)).alloc (.cells (etc2 e q).toArray 64)=Y0 at *
 have W2:Below w.heap.size w (Y0.alloc (.cells (etc2 e q).toArray 64)):=W1.alloc W1.size _
 have hAd:=pgAdd (Y0.alloc (.cells (etc2 e q).toArray 64)) S J P base m t j 0 ⟨0,[e],[]⟩ (.slice (some ⟨Y0.heap.size,0,none⟩) 1 1) (.slice none 0 0) [(e,q)] (SpAx.keep h (KeepT.of_below W2)) hk.fit ⟨rdN_one (Blk.new Y0 64 (etc2 e q)) (he.below W2),RdZ.nil _,rfl⟩ (pgS_leaf13 hL1) a1 a2 a4 (by rw[pgB_leaf];exact a5)
 rw[pgB_leaf] at hAd
 unfold gT pgc at hAd
 have HR:Hid (Tk (addT t j (leafB [e])) j m [(tkV t j:Int)]∧TR (addT t j (leafB [e])) j (tkV t j) [e] [(tkV t j:Int)]∧(addT t j (leafB [e])).l.length≤t.l.length+7):=by
  have:=a6.leaf
  exact⟨this.2,this.1,by omega⟩
 have HK0:=mkHid (KS.of_below (base:=base) W2 hlo)
 unfold etc2 at *
 have c0:=k0.cell 0
 have e0:=k2.cell 0
 have e1:=k2.cell 1
 simp only[gZ0,gZ1] at c0 e0 e1
 clear h hk he hit hFR hL1 a1 a2 a3 a4 a5 a6 a7 W1 W2 k0 k2
 unfold PutT
 have HPut:Hid (putE13 [] e.k e.v=[e]):=put_nil e.k e.v
 rw[HPut.out]
 go_enter Tryz.func43,Tryz.ntmps43
 go_upto_region 1 with fail
 (try rw[hW])
 clear hW
 go_wp2_with (go_at_call 66;refine hAd.mono ?_;rintro r6 y6 ⟨rfl,hA6,hk6⟩;have HA6:=mkHid (And.intro hA6 hk6);clear hA6 hk6)
 go_ret
 exact⟨⟨_,_,_,rfl,HA6.out.1,HR.out.1,HR.out.2.1,HR.out.2.2⟩,HK0.out.trans HA6.out.2⟩
end Go.Proofs.YtpecobmfabmpkaaGreatDoor
namespace Go.Proofs.YtpecobmfabmpkaaGreatDoor
open Go.RowKit
variable {fl:Nat}
theorem pgPutL (w:World)(S J P base m:Nat)(t:Tl)(j:Jl)(s:Nat)(l:List Et)(e:Et)(q:EtA)(h:SpAx w S J P base t j)(hk:Tk t j m [(s:Int)])(hl:LfAt t j s l)(he:EtQ fl w e q)(hit:itemOk e.k e.v=true)(hroom:t.l.length+8≤48)(hdisk:3<j.p.n-51)(hfl:fl≤base:=by omega):
  Calls Tryz.prog 43 #[gT S,.int .i64 (s:Int),.agg (etc2 e q).toArray] w (PutT w S J P base m t j l e):=by
 have hlo:=spcOK.lo h
 have hf:=hk.fit
 have hn2:=hf.few.n
 have hsr:=hk.rng (s:Int) List.mem_cons_self
 have hFR:FR t j m ([]++(s,l):: []) []:=FR.ofLeaf hl hk
 unfold gT
 have W1:Below w.heap.size w ((w.alloc (.cells #[.pointer (some ⟨S,0,none⟩)] 87)).alloc (.cells (etc2 e q).toArray 64)):=((Below.refl _ w).alloc (Nat.le_refl _) _).alloc (by simp) _
 have k0:Blk ((w.alloc (.cells #[.pointer (some ⟨S,0,none⟩)] 87)).alloc (.cells (etc2 e q).toArray 64)) w.heap.size 87 [.pointer (some ⟨S,0,none⟩)]:=(Blk.newAt w w.heap.size 87 #[.pointer (some ⟨S,0,none⟩)] [.pointer (some ⟨S,0,none⟩)] rfl rfl).alloc _
 have k2:Blk ((w.alloc (.cells #[.pointer (some ⟨S,0,none⟩)] 87)).alloc (.cells (etc2 e q).toArray 64)) (w.heap.size+1) 64 (etc2 e q):=Blk.newAt _ (w.heap.size+1) 64 _ _ (by simp) rfl
 generalize hW:(w.alloc (.cells #[.pointer (some ⟨S,0,none⟩)] 87)).alloc (.cells (etc2 e q).toArray 64)=Y0 at *
 have hA0:=SpAx.keep h (KeepT.of_below W1)
 have he0:=he.below W1
 have HRd:=pgRead Y0 S J P base m t j s ⟨0,l,[]⟩ hA0 hf (by omega) (by omega) (by rw[hl.rd];exact pg_leaf hl.ok)
 have HIL:Hid (∀Y2 v ve vk L,Below Y0.heap.size Y0 Y2→PgO Y2 Y0.heap.size (s:Int) ⟨0,l,[]⟩ v ve vk L→Calls Tryz.prog 68 #[gT S,v,.agg (etc2 e q).toArray] Y2 fun r w'=>(∃b t',r=.returned (.int .i64 b)∧SpAx w' S J P base t' j∧KeepPost t j m [] [] [] s (putE13 l e.k e.v) b t')∧KS base Y0 w'∧PgKeep Y2 w'):=fun Y2 v ve vk L hb hp =>
  codInsLeaf Y2 Y0 S J P base m t j [] [] [] s l v ve vk L e q (SpAx.keep hA0 (KeepT.of_below hb)) hFR (KS.of_below hb (spcOK.lo hA0)) hp (he0.below hb) hit (by omega) (by simp;omega) (spcOK.lo hA0)
 have HK0:=mkHid (KS.of_below (base:=base) W1 hlo)
 have HLo:Hid (base≤Y0.heap.size):=spcOK.lo hA0
 unfold etc2 gT at *
 have HB0:=mkHid k0
 have HB2:=mkHid k2
 have c0:=k0.cell 0
 simp only[List.getElem?_cons_zero] at c0
 have hs0:((s:Int)==0)=false:=by rw[beq_eq_false_iff_ne];omega
 have hs1:¬s=0:=by omega
 clear h hk he hit hFR W1 k0 k2 hA0 he0 hsr
 unfold PutT
 go_enter Tryz.func43,Tryz.ntmps43
 go_upto_region 1 with fail
 (try rw[hW])
 clear hW
 go_upto_region 3 with fail
 go_upto_region 4 with(go_at_call 67;refine HRd.mono ?_;rintro r1 y1 ⟨⟨v,ve,vk,L,rfl,hp1⟩,hb1⟩;obtain⟨ea,ec,ka,kc,hve,hvk⟩:=hp1.r.forms;subst hve hvk;obtain rfl:=hp1.v;unfold pgc)
 have W2:Below y1.heap.size y1 (y1.alloc (.cells #[.int .i64 (s:Int),.int .i64 0,.slice ea l.length ec,.slice ka 0 kc] 133)):=(Below.refl _ y1).alloc (Nat.le_refl _) _
 have kp:Blk (y1.alloc (.cells #[.int .i64 (s:Int),.int .i64 0,.slice ea l.length ec,.slice ka 0 kc] 133)) y1.heap.size 133 [.int .i64 (s:Int),.int .i64 0,.slice ea l.length ec,.slice ka 0 kc]:=Blk.new y1 133 [.int .i64 (s:Int),.int .i64 0,.slice ea l.length ec,.slice ka 0 kc]
 have hb2:=hb1.trans (W2.mono hb1.size)
 have hIL:=HIL.out _ _ _ _ L hb2 (hp1.below W2)
 have kb0:=HB0.out.on hb2
 have kb2:=HB2.out.on hb2
 simp only[List.length_nil] at hIL
 unfold pgc at hIL
 generalize hn:l.length=n at hIL kp W2 hb2 hp1 kb0 kb2 ⊢
 generalize y1.alloc (.cells #[.int .i64 (s:Int),.int .i64 0,.slice ea n ec,.slice ka 0 kc] 133)=Y2 at *
 have c0:=kb0.cell 0
 have d0:=kp.cell 0
 have d1:=kp.cell 1
 have d2:=kp.cell 2
 have d3:=kp.cell 3
 have e0:=kb2.cell 0
 have e1:=kb2.cell 1
 simp only[gZ0,gZ1] at c0 d0 d1 d2 d3 e0 e1
 have HKP:=mkHid kp
 have hbz:w.heap.size+1<Y2.heap.size:=kb2.lt
 have hkb2:KS base Y0 Y2:=KS.of_below hb2 HLo.out
 clear hp1 HIL HRd hb1 kb0 kb2 kp HB2 hn
 go_upto_region 5 with(go_at_call 68;refine hIL.mono ?_;rintro r3 y3 ⟨⟨b,t',rfl,hA3,hr3,hkp⟩,hk3,hpk⟩)
 have HA3:=mkHid hA3
 have HK3:=mkHid (HK0.out.trans hk3)
 clear hA3 hIL
 rcases hkp with⟨rfl,hl3,hF3,hX3⟩|⟨k,c,rfl,hk51,hkn',hl3,hl4,hF3⟩
 ·have HR:=mkHid hF3.leaf
  clear hl3 hF3 hX3 hk3 W2 hb2 HKP hpk
  go_wp2_with fail
  go_ret
  exact⟨⟨t',s,_,rfl,HA3.out,HR.out.2,HR.out.1,by omega⟩,HK3.out⟩
 have hF3':FR t' j m [(s,(putE13 l e.k e.v).take c),(k,(putE13 l e.k e.v).drop c)] []:=hF3
 obtain⟨z1,z2,z3,z4,z5,z6,z7,z8⟩:=hF3'.newtop (by omega) (by simp;omega) [s,k]
 have hks6:∀x∈[s,k],x<65536:=fun x hx=>by
  simp only[List.mem_cons,List.not_mem_nil,or_false] at hx
  rcases hx with rfl|rfl
  ·have:=hF3'.rng (p:=(x,(putE13 l e.k e.v).take c)) List.mem_cons_self
   omega
  ·omega
 have hR:TR (addT t' j (nodeB [s,k])) j (tkV t' j) (putE13 l e.k e.v) ((tkV t' j:Int):: secsP [(s,(putE13 l e.k e.v).take c),(k,(putE13 l e.k e.v).drop c)])∧Tk (addT t' j (nodeB [s,k])) j m ((tkV t' j:Int):: secsP [(s,(putE13 l e.k e.v).take c),(k,(putE13 l e.k e.v).drop c)]):=by
  have hpe:putE13 l e.k e.v=entsP [(s,(putE13 l e.k e.v).take c),(k,(putE13 l e.k e.v).drop c)]:=by
   rw[entsP,entsP,entsP,List.append_nil,List.take_append_drop]
  have hso:SrtE (entsP [(s,(putE13 l e.k e.v).take c),(k,(putE13 l e.k e.v).drop c)]):=by
   rw[←hpe]
   have:=hl.ok.srt.put e.k e.v
   exact this
  have:=z6.node hso (by simp) (by simp) z8
  rw[←hpe] at this
  exact this
 have hAd:=fun W hA hB=>pgAdd (fl:=0) W S J P base m t' j 0 ⟨1,[],[s,k]⟩ (.slice none 0 0) (.slice (some ⟨y3.heap.size,0,none⟩) 2 2) [] hA hF3.tk.fit ⟨rdN_empty _ _ _,rdZ_two hB,rfl⟩ (pgS_node13 (by simp) hks6) z1 z2 z4 (by rw[pgB_node];exact z5)
 rw[pgB_node] at hAd
 have hA4:Below y3.heap.size y3 (y3.alloc (.cells #[.int .i64 (s:Int),.int .i64 (k:Int)] 3)):=(Below.refl _ y3).alloc (Nat.le_refl _) _
 have hAd:=hAd _ (SpAx.keep HA3.out (KeepT.of_below hA4)) (Blk.new y3 3 [.int .i64 (s:Int),.int .i64 (k:Int)])
 unfold gT pgc at hAd
 have kb0:=hk3.o.blk HB0.out (by decide)
 have kp3:=hpk _ _ HKP.out
 have HA4:=mkHid hA4
 have HR:=mkHid hR
 have HZ7:=mkHid z7
 have hk0:((k:Int)==0)=false:=by rw[beq_eq_false_iff_ne];omega
 have hk1:¬k=0:=by omega
 have c0:=kb0.cell 0
 have d1:=kp3.cell 1
 simp only[gZ0,gZ1] at c0 d1
 have HK4:=mkHid (HK3.out.trans (KS.of_below hA4 (spcOK.lo HA3.out)))
 generalize tkV t' j=kk at *
 generalize addT t' j (nodeB [s,k])=tt at *
 clear hF3 hF3' hR z1 z2 z3 z4 z5 z6 z7 z8 hl3 hl4 hks6 hk3 hkb2 W2 hb2 hA4 hpk kb0 kp3 HKP
 go_wp2_with (go_at_call 66;refine hAd.mono ?_;rintro r6 y6 ⟨rfl,hA6,hk6⟩;have HA6:=mkHid (And.intro hA6 hk6);clear hA6 hk6)
 go_ret
 exact⟨⟨tt,kk,_,rfl,HA6.out.1,HR.out.2,HR.out.1,by have:=HZ7.out;omega⟩,HK4.out.trans HA6.out.2⟩
end Go.Proofs.YtpecobmfabmpkaaGreatDoor
namespace Go.Proofs.YtpecobmfabmpkaaGreatDoor
open Go.RowKit
variable {fl:Nat}
theorem nd_pg13 {t:Tl}{j:Jl}{m:Nat}{s:Nat}{Q:Ps}(hN:NdAt t j s Q)(hk:Tk t j m ((s:Int):: secsP Q)):pgOf (spRdB t j (s:Int))=some ⟨1,[],Q.map (·.1)⟩:=by
 rw[hN.rd]
 refine pg_node (by have:=hN.n;rw[List.length_map];omega) (by have:=hN.n2;rw[List.length_map];omega) (fun x hx=>?_)
 obtain⟨p,hp,rfl⟩:=List.mem_map.1 hx
 have:=hk.rng (p.1:Int) (List.mem_cons_of_mem _ (List.mem_map.2 ⟨p,hp,rfl⟩))
 have:=hk.fit.few.n
 omega
theorem pgPutN (w:World)(S J P base m:Nat)(t:Tl)(j:Jl)(s:Nat)(Q:Ps)(e:Et)(q:EtA)(h:SpAx w S J P base t j)(hk:Tk t j m ((s:Int):: secsP Q))(hN:NdAt t j s Q)(hso:SrtE (entsP Q))(he:EtQ fl w e q)(hit:itemOk e.k e.v=true)(hroom:t.l.length+8≤48)(hq:Q.length≤200)(hdisk:Q.length+1<j.p.n-51)(hfl:fl≤base:=by omega):
  Calls Tryz.prog 43 #[gT S,.int .i64 (s:Int),.agg (etc2 e q).toArray] w (PutT w S J P base m t j (entsP Q) e):=by
 have hlo:=spcOK.lo h
 have hf:=hk.fit
 have hn2:=hf.few.n
 have hsr:=hk.rng (s:Int) List.mem_cons_self
 unfold gT
 have W1:Below w.heap.size w ((w.alloc (.cells #[.pointer (some ⟨S,0,none⟩)] 87)).alloc (.cells (etc2 e q).toArray 64)):=((Below.refl _ w).alloc (Nat.le_refl _) _).alloc (by simp) _
 have k0:Blk ((w.alloc (.cells #[.pointer (some ⟨S,0,none⟩)] 87)).alloc (.cells (etc2 e q).toArray 64)) w.heap.size 87 [.pointer (some ⟨S,0,none⟩)]:=(Blk.newAt w w.heap.size 87 #[.pointer (some ⟨S,0,none⟩)] [.pointer (some ⟨S,0,none⟩)] rfl rfl).alloc _
 have k2:Blk ((w.alloc (.cells #[.pointer (some ⟨S,0,none⟩)] 87)).alloc (.cells (etc2 e q).toArray 64)) (w.heap.size+1) 64 (etc2 e q):=Blk.newAt _ (w.heap.size+1) 64 _ _ (by simp) rfl
 generalize hW:(w.alloc (.cells #[.pointer (some ⟨S,0,none⟩)] 87)).alloc (.cells (etc2 e q).toArray 64)=Y0 at *
 have hA0:=SpAx.keep h (KeepT.of_below W1)
 have he0:=he.below W1
 have HRd:=pgRead Y0 S J P base m t j s _ hA0 hf (by omega) (by omega) (nd_pg13 hN hk)
 have HIL:Hid (∀Y2 v ve vk L,Below Y0.heap.size Y0 Y2→PgO Y2 Y0.heap.size (s:Int) ⟨1,[],Q.map (·.1)⟩ v ve vk L→Calls Tryz.prog 68 #[gT S,v,.agg (etc2 e q).toArray] Y2 fun r w'=>(∃t' S',r=.returned (.int .i64 0)∧SpAx w' S J P base t' j∧Tk t' j m S'∧TR t' j s (putE13 (entsP Q) e.k e.v) S'∧t'.l.length≤t.l.length+5)∧KS base Y0 w'):=fun Y2 v ve vk L hb hp =>
  codInsNode Y2 Y0 S J P base m t j Q s v ve vk L e q (SpAx.keep hA0 (KeepT.of_below hb)) hN hk hso (KS.of_below hb (spcOK.lo hA0)) hp (he0.below hb) hit (by omega) hq hdisk (spcOK.lo hA0)
 have HK0:=mkHid (KS.of_below (base:=base) W1 hlo)
 have HLo:Hid (base≤Y0.heap.size):=spcOK.lo hA0
 unfold etc2 gT at *
 have HB0:=mkHid k0
 have HB2:=mkHid k2
 have c0:=k0.cell 0
 simp only[List.getElem?_cons_zero] at c0
 have hs0:((s:Int)==0)=false:=by rw[beq_eq_false_iff_ne];omega
 have hs1:¬s=0:=by omega
 clear h hk he hit W1 k0 k2 hA0 he0 hsr hso hN
 unfold PutT
 generalize hks:Q.map (·.1)=ks at *
 go_enter Tryz.func43,Tryz.ntmps43
 go_upto_region 1 with fail
 (try rw[hW])
 clear hW
 go_upto_region 3 with fail
 go_upto_region 4 with(go_at_call 67;refine HRd.mono ?_;rintro r1 y1 ⟨⟨v,ve,vk,L,rfl,hp1⟩,hb1⟩;obtain⟨ea,ec,ka,kc,hve,hvk⟩:=hp1.r.forms;subst hve hvk;obtain rfl:=hp1.v;unfold pgc)
 have W2:Below y1.heap.size y1 (y1.alloc (.cells #[.int .i64 (s:Int),.int .i64 1,.slice ea 0 ec,.slice ka ks.length kc] 133)):=(Below.refl _ y1).alloc (Nat.le_refl _) _
 have kp:Blk (y1.alloc (.cells #[.int .i64 (s:Int),.int .i64 1,.slice ea 0 ec,.slice ka ks.length kc] 133)) y1.heap.size 133 [.int .i64 (s:Int),.int .i64 1,.slice ea 0 ec,.slice ka ks.length kc]:=Blk.new y1 133 [.int .i64 (s:Int),.int .i64 1,.slice ea 0 ec,.slice ka ks.length kc]
 have hb2:=hb1.trans (W2.mono hb1.size)
 have hIL:=HIL.out _ _ _ _ L hb2 (hp1.below W2)
 have kb0:=HB0.out.on hb2
 have kb2:=HB2.out.on hb2
 simp only[List.length_nil] at hIL
 unfold pgc at hIL
 generalize ks.length=n at hIL kp W2 hb2 hp1 kb0 kb2 ⊢
 generalize y1.alloc (.cells #[.int .i64 (s:Int),.int .i64 1,.slice ea 0 ec,.slice ka n kc] 133)=Y2 at *
 have c0:=kb0.cell 0
 have d0:=kp.cell 0
 have d1:=kp.cell 1
 have d2:=kp.cell 2
 have d3:=kp.cell 3
 have e0:=kb2.cell 0
 have e1:=kb2.cell 1
 simp only[gZ0,gZ1] at c0 d0 d1 d2 d3 e0 e1
 clear hp1 HIL HRd hb1 kb0 kb2 kp HB2 hks W2 hb2
 go_upto_region 5 with(go_at_call 68;refine hIL.mono ?_;rintro r3 y3 ⟨⟨t',S',rfl,hA3,hk3,ht3,hr3⟩,hks3⟩)
 have HA3:=mkHid (And.intro hA3 (And.intro hk3 ht3))
 have HK3:=mkHid (HK0.out.trans hks3)
 clear hA3 hIL hk3 ht3 hks3
 go_wp2_with fail
 go_ret
 exact⟨⟨t',s,S',rfl,HA3.out.1,HA3.out.2.1,HA3.out.2.2,by omega⟩,HK3.out⟩
theorem pgPut (w:World)(S J P base m:Nat)(t:Tl)(j:Jl)(root:Nat)(l:List Et)(SS:List Int)(e:Et)(q:EtA)(h:SpAx w S J P base t j)(hk:Tk t j m SS)(ht:TR t j root l SS)(he:EtQ fl w e q)(hit:itemOk e.k e.v=true)(hroom:t.l.length+8≤48)(hl:l.length≤190)(hdisk:SS.length+3<j.p.n-51)(hfl:fl≤base:=by omega):
  Calls Tryz.prog 43 #[gT S,.int .i64 (root:Int),.agg (etc2 e q).toArray] w (PutT w S J P base m t j l e):=by
 rcases ht.2 with⟨rfl,rfl,rfl⟩|⟨rfl,hL⟩|⟨Q,hN,rfl,rfl⟩
 ·exact pgPut0 w S J P base m t j e q h hk he hit hroom (by simp at hdisk;omega)
 ·exact pgPutL w S J P base m t j root l e q h hk hL he hit hroom (by simp at hdisk;omega)
 ·have h1:=entsP_len (fun p hp=>(hN.lf p hp).ok.ne)
  have h2:(secsP Q).length=Q.length:=List.length_map _
  refine pgPutN w S J P base m t j root Q e q h hk hN ht.1 he hit hroom (by omega) (by simp only[List.length_cons] at hdisk;omega)
end Go.Proofs.YtpecobmfabmpkaaGreatDoor
namespace Go.Proofs.YtpecobmfabmpkaaGreatDoor
open Go.RowKit
variable {fl:Nat}
theorem codEach1No {σ:Type}(V:Nat)(cap:Array Value)(stp:σ→List Et→σ × Bool)(Inv:σ→Nat→World→Prop)(N0 Nl:Nat)(rk:σ→Nat)(hV:VisOK V cap stp Inv N0 Nl rk)(w:World)(S J P base m:Nat)(t:Tl)(j:Jl)(Wb rt:Nat)(Q:Ps)(at_:Int)(ve vk:Value)(fa:Option Addr)(fn fc:Nat)(from_:List UInt8)(s:σ)(X:Nat)(hrk:Q.length+1≤rk s)(h:SpAx w S J P base t j)(hN:NdAt t j rt Q)(hk:Tk t j m ((rt:Int):: secsP Q))(hso:SrtE (entsP Q))(hI:Inv s X w)(hon:OwnN w X ve [])(hst:(stp s []).2=false)
  (hB:Blk w Wb 144 [.pointer (some ⟨S,0,none⟩),.slice none 0 0]) (hve:RdN 0 w ve []) (hO:OwnZ w N0 vk ((Q.map (·.1)).map Int.ofNat)) (hfr:BsP fl w fa fn fc from_) (hN0:N0≤Wb) (hNl:Nl≤N0) (hfl:fl≤Nl:=by omega):
  Calls Tryz.prog 76 #[.pointer (some ⟨Wb,0,none⟩),.agg (pgc at_ 1 ve vk).toArray,.slice fa fn fc,.func (.func V) #[] cap] w (EachNPost ((stp s []).1,false) Inv N0 Nl w):=by
 obtain⟨ea,ec,hve1,_,_⟩:=hve.form
 subst hve1
 obtain⟨xa,xc,hvk1,_,_,_⟩:=OwnRw.form okI13 hO.c
 rw[List.length_map,List.length_map] at hvk1
 subst hvk1
 have hf:=hk.fit
 have hn2:=hf.few.n
 have hq2:=hN.n
 have hq254:=hN.n2
 have hNd:=node_kids hN hk
 have hBl:=hB.lt
 have W1:Below w.heap.size w (w.alloc (.cells (pgc at_ 1 (.slice ea 0 ec) (.slice xa Q.length xc)).toArray 133)):=(Below.refl _ w).alloc (Nat.le_refl _) _
 have k1:Blk (w.alloc (.cells (pgc at_ 1 (.slice ea 0 ec) (.slice xa Q.length xc)).toArray 133)) w.heap.size 133 (pgc at_ 1 (.slice ea 0 ec) (.slice xa Q.length xc)):=Blk.new w _ _
 generalize hW:w.alloc (.cells (pgc at_ 1 (.slice ea 0 ec) (.slice xa Q.length xc)).toArray 133)=Y0 at *
 have hCk:Calls Tryz.prog 115 #[.pointer (some ⟨Wb,0,none⟩),.agg #[.int .i64 at_,.int .i64 1,.slice ea 0 ec,.slice xa Q.length xc]] Y0 fun e w'=>e=.returned (.tuple #[])∧Below Y0.heap.size Y0 w':=codCheckN Y0 Wb at_ (.slice ea 0 ec) (.slice xa Q.length xc) ⟨_,_,_,rfl⟩ ⟨_,_,_,rfl⟩
 have hV0:VKeep N0 Nl [64,144] w Y0:=VKeep.below W1 (by omega)
 have hI0:=hV.keep s X w Y0 hI (KeepT.of_below W1) (lw_below W1)
 have hon0:=hon.on W1
 have HVc:Hid (∀W,Inv s X W→PgR 0 W ⟨1,[],Q.map (·.1)⟩ (.slice ea 0 ec) (.slice xa Q.length xc) []→OwnN W X (.slice ea 0 ec) []→Calls Tryz.prog V (#[.agg (pgc at_ 1 (.slice ea 0 ec) (.slice xa Q.length xc)).toArray]++cap) W fun e w'=>e=.returned (.bool (stp s []).2)∧Inv (stp s []).1 w'.heap.size w'∧VKeep N0 Nl [64] W w'):=fun W hI hp ho=>hV.call s X W at_ ⟨1,[],Q.map (·.1)⟩ _ _ [] (by omega) hI hp ho List.Pairwise.nil (Nat.zero_le _) (fun e he=>by cases he)
 rw[hst] at HVc
  have HSt:Hid (∀W,VKeep N0 Nl [64,144] w W→SpAx W S J P base t j∧OwnZ W N0 (.slice xa Q.length xc) ((Q.map (·.1)).map Int.ofNat)∧BsP fl W fa fn fc from_):=fun W hW=>⟨h.keep13 (hW.t.more (by decide)),by
  have ho:=hO
  refine⟨ho.1,?_⟩
  rcases ho.2 with h2|⟨g,cp,cur,h3,h4,h5,h6⟩
  ·exact .inl h2
  ·exact .inr ⟨g,cp,cur,h3,h4,hW.k g _ h5 h4 (fun c t fz e=>by injection e with _ e2 _;rw[←e2];decide),h6⟩,hfr.keep (KeepU.ofB (KeepO.ofT hW.t (by decide)) hW.b hfl)⟩
 have hfn:=hV.enter
 have HEa:Hid (∀(s:σ) (X:Nat) (W:World) (a2:Int) (ve vk:Value) (l:List Et) (L:List Eq3) (la:Option Addr) (ln lc:Nat) (lb:List UInt8),0<rk s→Inv s X W→OwnN W X ve L→Blk W Wb 144 [.pointer (some ⟨S,0,none⟩),.slice la ln lc]→PgR 0 W ⟨0,l,[]⟩ ve vk L→LfOk l→BsP 0 W la ln lc lb→Op.bytesLess lb (fstK l)=true→Calls Tryz.prog 76 #[.pointer (some ⟨Wb,0,none⟩),.agg (pgc a2 0 ve vk).toArray,.slice fa fn fc,.func (.func V) #[] cap] W (EachPost stp Inv N0 Nl Wb S s l (lstK l) W)):=fun s X W a2 ve vk l L la ln lc lb q0 q1 q1' q2 q3 q4 q5 q6 =>
  codEach0 V cap stp Inv N0 Nl rk hV W Wb S a2 ve vk (.slice fa fn fc) l L la ln lc lb s X q0 q1 q1' q2 q3 q4 q5 q6 ⟨_,_,_,rfl⟩ hN0 hNl
 have HKp:=mkHid hV.keep
 have HRk:=mkHid hV.rank
 have HR0:Hid (Q.length≤rk (stp s []).1):=by have:=hV.rank s [];unfold Hid;omega
 have HI0:=mkHid hI0
 have HOn:=mkHid hon0
 have HK1:=mkHid (And.intro k1 (hB.on W1))
 have HV0:=mkHid hV0
 have HNd:=mkHid hNd
 have HN:=mkHid (And.intro hN (And.intro hk hso))
 have HRd0:Hid (RdN 0 w (.slice ea 0 ec) []):=hve
 clear h hN hk hso hI hon hon0 hB hve hO hfr hV hI0 hV0 hNd hst
 unfold pgc at HVc HK1 k1 hW
 obtain⟨n,hn⟩:∃n,n=Q.length:=⟨_,rfl⟩
 rw[←hn] at hCk HVc HSt HK1 hW k1 hq2 hq254
 have HNn:=mkHid hn
 have d0:=k1.cell 0
 have d1:=k1.cell 1
 have d2:=k1.cell 2
 have d3:=k1.cell 3
 simp only[gZ0,gZ1] at d0 d1 d2 d3
 show Calls Tryz.prog _ #[_,.agg #[.int .i64 at_,.int .i64 1,.slice ea 0 ec,.slice xa Q.length xc],_,_] w _
 rw[←hn] at ⊢
 have hW':w.alloc (.cells #[.int .i64 at_,.int .i64 1,.slice ea 0 ec,.slice xa n xc] 133)=Y0:=hW
 clear k1 hn W1 hW
 go_enter Tryz.func76,Tryz.ntmps76
 go_upto_region 1 with fail
 (try rw[hW'])
 clear hW'
 go_upto_region 2 with(go_at_call 115;refine hCk.mono ?_;rintro r1 y1 ⟨rfl,hb1⟩)
 have hI1:=HKp.out s X Y0 y1 HI0.out (KeepT.of_below hb1) (lw_below hb1)
 have hV1:=HV0.out.trans (VKeep.below hb1 (by have:=HV0.out.b.size;have:=HK1.out.2.lt;omega))
 have hz1:=(HSt.out y1 hV1).2.1.rd
 have hVc:=HVc.out y1 hI1 ⟨rdN_empty13 y1 ea ec,hz1,rfl⟩ (HOn.out.on hb1)
 have kp1:=HK1.out.1.on hb1
 have kw1:=HK1.out.2.on hb1
 have d0:=kp1.cell 0
 have d1:=kp1.cell 1
 have d2:=kp1.cell 2
 have d3:=kp1.cell 3
 simp only[gZ0,gZ1] at d0 d1 d2 d3
 have HB1:=mkHid (And.intro kp1 kw1)
 have HV1:=mkHid hV1
 clear hb1 hI1 hV1 hz1 kp1 kw1 HVc hCk
 go_wp2_with (go_at_fn V;refine hVc.mono ?_;rintro r2 y2 ⟨rfl,hI2,hk2⟩;have HR2:=mkHid (And.intro hI2 hk2);clear hI2 hk2)
 go_ret
 exact⟨rfl,⟨_,HR2.out.1⟩,HV1.out.trans (HR2.out.2.more (by decide))⟩
end Go.Proofs.YtpecobmfabmpkaaGreatDoor
namespace Go.Proofs.YtpecobmfabmpkaaGreatDoor
open Go.RowKit
def upF (fr:List UInt8)(l:List Et):List Et:=l.filter fun e => !(Op.bytesLess e.k fr)
theorem drop_up {l:List Et}(h:SrtE l)(fr:List UInt8):l.drop (atE l fr)=upF fr l:=by
 induction l with
 | nil=>rfl
 | cons e l ih =>
  obtain⟨h1,h2⟩:=List.pairwise_cons.1 h
  unfold upF
  by_cases hlt:Op.bytesLess e.k fr=true
  ·rw[atE,if_pos hlt,List.drop_succ_cons,ih h2,List.filter_cons_of_neg (by simp[hlt])]
   rfl
  ·rw[atE,if_neg hlt,List.drop_zero]
   refine(List.filter_eq_self.2 fun x hx=>?_).symm
   rcases List.mem_cons.1 hx with rfl|hx
   ·simpa using hlt
   ·have h3:=h1 x hx
    by_cases h4:Op.bytesLess x.k fr=true
    ·exact absurd (lt_tr _ _ _ h3 h4) hlt
    ·simpa using h4
theorem upF_append (fr:List UInt8)(a b:List Et):upF fr (a++b)=upF fr a++upF fr b:=List.filter_append _ _
def upP (fr:List UInt8):List (List Et)→List Et
 | []=>[]
 | l::ls=>upF fr l++upP fr ls
theorem gather (fr:List UInt8)(most:Int):∀(ls:List (List Et)) (acc:List Et),(∀l∈ls,SrtE l∧l.length≤1000)→(acc.length:Int)<most→(eachF (stpS fr most) acc ls).1=acc++(upP fr ls).take (most-(acc.length:Int)).toNat
 | [],acc,_,_=>by simp[eachF,upP]
 | l::ls,acc,h,hm=>by
  obtain⟨hs,hl⟩:=h l List.mem_cons_self
  have hg:gat fr most acc l=acc++(upF fr l).take (most-(acc.length:Int)).toNat:=by
   unfold gat
   rw[drop_up hs]
   congr 1
   have hlen:(upF fr l).length≤1000:=Nat.le_trans (List.length_filter_le _ _) hl
   by_cases ht:(most-(acc.length:Int)).toNat≤1000
   ·rw[Nat.min_eq_left ht]
   ·rw[Nat.min_eq_right (by omega),List.take_of_length_le hlen,List.take_of_length_le (by omega)]
  have hst:stpS fr most acc l=(gat fr most acc l,decide (((gat fr most acc l).length:Int)<most)):=rfl
  rw[eachF,hst,upP]
  by_cases hd:((gat fr most acc l).length:Int)<most
  ·rw[if_pos (decide_eq_true hd),gather fr most ls _ (fun x hx=>h x (List.mem_cons_of_mem _ hx)) hd]
   have hd2:=hd
   rw[hg,List.length_append,List.length_take] at hd2
   have hu:(upF fr l).length<(most-(acc.length:Int)).toNat:=by omega
   rw[hg,List.take_of_length_le (by omega),List.append_assoc,List.take_append,List.take_of_length_le (Nat.le_of_lt hu)]
   congr 3
   rw[List.length_append]
   omega
  ·rw[if_neg (by simpa using hd)]
   show gat fr most acc l=_
   have hd2:=hd
   rw[hg,List.length_append,List.length_take] at hd2
   rw[hg,List.take_append_of_le_length (by omega)]
theorem upP_ents (fr:List UInt8):∀Q:Ps,upP fr (Q.map (·.2))=upF fr (entsP Q)
 | []=>rfl
 | p::Q=>by
  rw[List.map_cons,upP,upP_ents fr Q,entsP,upF_append]
theorem gather_all {Q:Ps}{fr:List UInt8}{most:Int}{i:Nat}(hs:SrtE (entsP Q))(hne:∀p∈Q,p.2≠[])(hl:∀p∈Q,p.2.length≤1000)(hm:0<most)(hi:i<Q.length)(h1:0<i→Op.bytesLess fr (fstK (Q.getD i (0,[])).2)=false):
  (eachF (stpS fr most) [] ((Q.map (·.2)).drop i)).1=scanE13 (entsP Q) fr most:=by
 have hsp:∀p∈Q,SrtE p.2:=fun p hp=>by
  obtain⟨A,B,rfl⟩:=List.append_of_mem hp
  rw[entsP_append,entsP] at hs
  exact(List.pairwise_append.1 (List.pairwise_append.1 hs).2.1).1
 rw[gather fr most _ [] (fun l hl2=>by
  obtain⟨p,hp,rfl⟩:=List.mem_map.1 (List.mem_of_mem_drop hl2)
  exact⟨hsp p hp,hl p hp⟩) (by simpa using hm)]
 rw[List.nil_append,←List.map_drop,upP_ents]
 unfold scanE13
 rw[drop_up hs]
 have hq:Q.getD i (0,[])=Q[i]:=by simp[hi]
 have he:entsP Q=entsP (Q.take i)++entsP (Q.drop i):=by rw[←entsP_append,List.take_append_drop]
 have hz:upF fr (entsP (Q.take i))=[]:=by
  rcases Nat.eq_zero_or_pos i with h0|h0
  ·rw[h0,List.take_zero];rfl
  ·refine List.filter_eq_nil_iff.2 fun e hem=>?_
   have h2:=h1 h0
   obtain⟨b,hb,hbk⟩:=fst_mem (hne Q[i] (List.getElem_mem _))
   rw[hq,←hbk] at h2
   rw[he] at hs
   have h3:b∈entsP (Q.drop i):=mem_entsP.2 ⟨Q[i],by rw[List.drop_eq_getElem_cons hi];exact List.mem_cons_self,hb⟩
   have h4:=(List.pairwise_append.1 hs).2.2 e hem b h3
   have h5:Op.bytesLess e.k fr=true:=by
    rcases lt_tot b.k fr with h6|h6|h6
    ·exact lt_tr _ _ _ h4 h6
    ·rw[←h6];exact h4
    ·rw[h6] at h2;cases h2
   simp[h5]
 rw[he,upF_append,hz,List.nil_append]
 congr 1
 simp
end Go.Proofs.YtpecobmfabmpkaaGreatDoor
