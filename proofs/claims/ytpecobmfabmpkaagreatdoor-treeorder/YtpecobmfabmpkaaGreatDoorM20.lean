/- PuH PuI PuJ PvO PvN2 Tp7 PvS PuK -/
import Derived.Test.YtpecobmfabmpkaaGreatDoorM19
import Derived.Test.YtpecobmfabmpkaaGreatDoorM18
set_option maxRecDepth 20000
set_option maxHeartbeats 6000000
namespace Go.Proofs.YtpecobmfabmpkaaGreatDoor
section
open Go.RowKit
variable {fl:Nat}
theorem rdN_one {w:World}{B:Nat}{e:Et}{q:EtA}(hB:Blk w B 64 (etc2 e q))(he:EtQ fl w e q):RdN fl w (.slice (some ⟨B,0,none⟩) 1 1) [(e,q)] :=
 ⟨⟨_,1,rfl,Nat.le_refl _,fun _=>⟨B,0,_,_,rfl,hB,fun i u hu=>by
  rw[Nat.zero_add]
  refine(hB.cell i).trans ?_
  have h2:ets [((e,q):Eq3)]=etc2 e q:=by simp[ets]
  rw[←h2]
  exact hu⟩⟩,fun x hx=>by rw[List.mem_singleton.1 hx];exact he⟩
theorem rdZ_two {w:World}{B a b:Nat}(hB:Blk w B 3 [.int .i64 (a:Int),.int .i64 (b:Int)]):RdZ w (.slice (some ⟨B,0,none⟩) 2 2) [a,b] :=
 ⟨_,2,rfl,Nat.le_refl _,fun _=>⟨B,0,_,_,rfl,hB,fun i hi=>by
  rw[Nat.zero_add]
  refine(hB.cell i).trans ?_
  rcases i with _|_|i
  ·rfl
  ·rfl
  ·simp only[List.length_cons,List.length_nil] at hi
   omega⟩⟩
def PutT (w:World)(S J P base m:Nat)(t:Tl)(j:Jl)(l:List Et)(e:Et)(r:Ending)(w':World):Prop :=
 (∃t' root' S',r=.returned (.int .i64 ((root':Nat):Int))∧SpAx w' S J P base t' j∧Tk t' j m S'∧TR t' j root' (putE13 l e.k e.v) S'∧t'.l.length≤t.l.length+7)∧KS base w w'
theorem pgPut0 (w:World)(S J P base m:Nat)(t:Tl)(j:Jl)(e:Et)(q:EtA)(h:SpAx w S J P base t j)(hk:Tk t j m [])(he:EtQ fl w e q)(hit:itemOk e.k e.v=true)(hroom:t.l.length+8≤48)(hdisk:2<j.p.n-51)(hfl:fl≤base:=by omega):
  Calls Tryz.prog 43 #[gT S,.int .i64 0,.agg (etc2 e q).toArray] w (PutT w S J P base m t j [] e):=by
 have hlo:=spcOK.lo h
 have hFR:FR t j m ([]++[]) []:=⟨hk,fun p hp=>by cases hp⟩
 have hL1:LfOk [e]:=one_leaf hit
 obtain⟨a1,a2,a3,a4,a5,a6,a7⟩:=hFR.add (by omega) (by simp;omega) hL1
 unfold gT
 have W1:Below w.heap.size w ((w.alloc (.cells #[.pointer (some ⟨S,0,none⟩)] 87)).alloc (.cells (etc2 e q).toArray 64)):=((Below.refl _ w).alloc (Nat.le_refl _) _).alloc (by simp) _
 have k0:Blk ((w.alloc (.cells #[.pointer (some ⟨S,0,none⟩)] 87)).alloc (.cells (etc2 e q).toArray 64)) w.heap.size 87 [.pointer (some ⟨S,0,none⟩)]:=(Blk.newAt w w.heap.size 87 #[.pointer (some ⟨S,0,none⟩)] [.pointer (some ⟨S,0,none⟩)] rfl rfl).alloc _
 have k2:Blk ((w.alloc (.cells #[.pointer (some ⟨S,0,none⟩)] 87)).alloc (.cells (etc2 e q).toArray 64)) (w.heap.size+1) 64 (etc2 e q):=Blk.newAt _ (w.heap.size+1) 64 _ _ (by simp) rfl
 generalize hW:(w.alloc (.cells #[.pointer (some ⟨S,0,none⟩)] 87)).alloc (.cells (etc2 e q).toArray 64)=Y0 at *
 have W2:Below w.heap.size w (Y0.alloc (.cells (etc2 e q).toArray 64)):=W1.alloc W1.size _
 have hAd:=pgAdd (Y0.alloc (.cells (etc2 e q).toArray 64)) S J P base m t j 0 ⟨0,[e],[]⟩ (.slice (some ⟨Y0.heap.size,0,none⟩) 1 1) (.slice none 0 0) [(e,q)] (SpAx.keep h (KeepT.of_below W2)) hk.fit ⟨rdN_one (Blk.new Y0 64 (etc2 e q)) (he.below W2),RdZ.nil _,rfl⟩ (pgS_leaf13 hL1) a1 a2 a4 (by rw[pgB_leaf];exact a5)
 rw[pgB_leaf] at hAd
 unfold gT pgc at hAd
 have HR:Hid (Tk (addT t j (leafB [e])) j m [(tkV t j:Int)]∧TR (addT t j (leafB [e])) j (tkV t j) [e] [(tkV t j:Int)]∧(addT t j (leafB [e])).l.length≤t.l.length+7):=by
  have:=a6.leaf
  exact⟨this.2,this.1,by omega⟩
 have HK0:=mkHid (KS.of_below (base:=base) W2 hlo)
 unfold etc2 at *
 have c0:=k0.cell 0
 have e0:=k2.cell 0
 have e1:=k2.cell 1
 simp only[gZ0,gZ1] at c0 e0 e1
 clear h hk he hit hFR hL1 a1 a2 a3 a4 a5 a6 a7 W1 W2 k0 k2
 unfold PutT
 have HPut:Hid (putE13 [] e.k e.v=[e]):=put_nil e.k e.v
 rw[HPut.out]
 go_enter Tryz.func43,Tryz.ntmps43
 go_upto_region 1 with fail
 (try rw[hW])
 clear hW
 go_wp2_with (go_at_call 66;refine hAd.mono ?_;rintro r6 y6 ⟨rfl,hA6,hk6⟩;have HA6:=mkHid (And.intro hA6 hk6);clear hA6 hk6)
 go_ret
 exact⟨⟨_,_,_,rfl,HA6.out.1,HR.out.1,HR.out.2.1,HR.out.2.2⟩,HK0.out.trans HA6.out.2⟩
end
section
open Go.RowKit
variable {fl:Nat}
theorem pgPutL (w:World)(S J P base m:Nat)(t:Tl)(j:Jl)(s:Nat)(l:List Et)(e:Et)(q:EtA)(h:SpAx w S J P base t j)(hk:Tk t j m [(s:Int)])(hl:LfAt t j s l)(he:EtQ fl w e q)(hit:itemOk e.k e.v=true)(hroom:t.l.length+8≤48)(hdisk:3<j.p.n-51)(hfl:fl≤base:=by omega):
  Calls Tryz.prog 43 #[gT S,.int .i64 (s:Int),.agg (etc2 e q).toArray] w (PutT w S J P base m t j l e):=by
 have hlo:=spcOK.lo h
 have hf:=hk.fit
 have hn2:=hf.few.n
 have hsr:=hk.rng (s:Int) List.mem_cons_self
 have hFR:FR t j m ([]++(s,l):: []) []:=FR.ofLeaf hl hk
 unfold gT
 have W1:Below w.heap.size w ((w.alloc (.cells #[.pointer (some ⟨S,0,none⟩)] 87)).alloc (.cells (etc2 e q).toArray 64)):=((Below.refl _ w).alloc (Nat.le_refl _) _).alloc (by simp) _
 have k0:Blk ((w.alloc (.cells #[.pointer (some ⟨S,0,none⟩)] 87)).alloc (.cells (etc2 e q).toArray 64)) w.heap.size 87 [.pointer (some ⟨S,0,none⟩)]:=(Blk.newAt w w.heap.size 87 #[.pointer (some ⟨S,0,none⟩)] [.pointer (some ⟨S,0,none⟩)] rfl rfl).alloc _
 have k2:Blk ((w.alloc (.cells #[.pointer (some ⟨S,0,none⟩)] 87)).alloc (.cells (etc2 e q).toArray 64)) (w.heap.size+1) 64 (etc2 e q):=Blk.newAt _ (w.heap.size+1) 64 _ _ (by simp) rfl
 generalize hW:(w.alloc (.cells #[.pointer (some ⟨S,0,none⟩)] 87)).alloc (.cells (etc2 e q).toArray 64)=Y0 at *
 have hA0:=SpAx.keep h (KeepT.of_below W1)
 have he0:=he.below W1
 have HRd:=pgRead Y0 S J P base m t j s ⟨0,l,[]⟩ hA0 hf (by omega) (by omega) (by rw[hl.rd];exact pg_leaf hl.ok)
 have HIL:Hid (∀Y2 v ve vk L,Below Y0.heap.size Y0 Y2→PgO Y2 Y0.heap.size (s:Int) ⟨0,l,[]⟩ v ve vk L→Calls Tryz.prog 68 #[gT S,v,.agg (etc2 e q).toArray] Y2 fun r w'=>(∃b t',r=.returned (.int .i64 b)∧SpAx w' S J P base t' j∧KeepPost t j m [] [] [] s (putE13 l e.k e.v) b t')∧KS base Y0 w'∧PgKeep Y2 w'):=fun Y2 v ve vk L hb hp =>
  codInsLeaf Y2 Y0 S J P base m t j [] [] [] s l v ve vk L e q (SpAx.keep hA0 (KeepT.of_below hb)) hFR (KS.of_below hb (spcOK.lo hA0)) hp (he0.below hb) hit (by omega) (by simp;omega) (spcOK.lo hA0)
 have HK0:=mkHid (KS.of_below (base:=base) W1 hlo)
 have HLo:Hid (base≤Y0.heap.size):=spcOK.lo hA0
 unfold etc2 gT at *
 have HB0:=mkHid k0
 have HB2:=mkHid k2
 have c0:=k0.cell 0
 simp only[List.getElem?_cons_zero] at c0
 have hs0:((s:Int)==0)=false:=by rw[beq_eq_false_iff_ne];omega
 have hs1:¬s=0:=by omega
 clear h hk he hit hFR W1 k0 k2 hA0 he0 hsr
 unfold PutT
 go_enter Tryz.func43,Tryz.ntmps43
 go_upto_region 1 with fail
 (try rw[hW])
 clear hW
 go_upto_region 3 with fail
 go_upto_region 4 with(go_at_call 67;refine HRd.mono ?_;rintro r1 y1 ⟨⟨v,ve,vk,L,rfl,hp1⟩,hb1⟩;obtain⟨ea,ec,ka,kc,hve,hvk⟩:=hp1.r.forms;subst hve hvk;obtain rfl:=hp1.v;unfold pgc)
 have W2:Below y1.heap.size y1 (y1.alloc (.cells #[.int .i64 (s:Int),.int .i64 0,.slice ea l.length ec,.slice ka 0 kc] 133)):=(Below.refl _ y1).alloc (Nat.le_refl _) _
 have kp:Blk (y1.alloc (.cells #[.int .i64 (s:Int),.int .i64 0,.slice ea l.length ec,.slice ka 0 kc] 133)) y1.heap.size 133 [.int .i64 (s:Int),.int .i64 0,.slice ea l.length ec,.slice ka 0 kc]:=Blk.new y1 133 [.int .i64 (s:Int),.int .i64 0,.slice ea l.length ec,.slice ka 0 kc]
 have hb2:=hb1.trans (W2.mono hb1.size)
 have hIL:=HIL.out _ _ _ _ L hb2 (hp1.below W2)
 have kb0:=HB0.out.on hb2
 have kb2:=HB2.out.on hb2
 simp only[List.length_nil] at hIL
 unfold pgc at hIL
 generalize hn:l.length=n at hIL kp W2 hb2 hp1 kb0 kb2 ⊢
 generalize y1.alloc (.cells #[.int .i64 (s:Int),.int .i64 0,.slice ea n ec,.slice ka 0 kc] 133)=Y2 at *
 have c0:=kb0.cell 0
 have d0:=kp.cell 0
 have d1:=kp.cell 1
 have d2:=kp.cell 2
 have d3:=kp.cell 3
 have e0:=kb2.cell 0
 have e1:=kb2.cell 1
 simp only[gZ0,gZ1] at c0 d0 d1 d2 d3 e0 e1
 have HKP:=mkHid kp
 have hbz:w.heap.size+1<Y2.heap.size:=kb2.lt
 have hkb2:KS base Y0 Y2:=KS.of_below hb2 HLo.out
 clear hp1 HIL HRd hb1 kb0 kb2 kp HB2 hn
 go_upto_region 5 with(go_at_call 68;refine hIL.mono ?_;rintro r3 y3 ⟨⟨b,t',rfl,hA3,hr3,hkp⟩,hk3,hpk⟩)
 have HA3:=mkHid hA3
 have HK3:=mkHid (HK0.out.trans hk3)
 clear hA3 hIL
 rcases hkp with⟨rfl,hl3,hF3,hX3⟩|⟨k,c,rfl,hk51,hkn',hl3,hl4,hF3⟩
 ·have HR:=mkHid hF3.leaf
  clear hl3 hF3 hX3 hk3 W2 hb2 HKP hpk
  go_wp2_with fail
  go_ret
  exact⟨⟨t',s,_,rfl,HA3.out,HR.out.2,HR.out.1,by omega⟩,HK3.out⟩
 have hF3':FR t' j m [(s,(putE13 l e.k e.v).take c),(k,(putE13 l e.k e.v).drop c)] []:=hF3
 obtain⟨z1,z2,z3,z4,z5,z6,z7,z8⟩:=hF3'.newtop (by omega) (by simp;omega) [s,k]
 have hks6:∀x∈[s,k],x<65536:=fun x hx=>by
  simp only[List.mem_cons,List.not_mem_nil,or_false] at hx
  rcases hx with rfl|rfl
  ·have:=hF3'.rng (p:=(x,(putE13 l e.k e.v).take c)) List.mem_cons_self
   omega
  ·omega
 have hR:TR (addT t' j (nodeB [s,k])) j (tkV t' j) (putE13 l e.k e.v) ((tkV t' j:Int):: secsP [(s,(putE13 l e.k e.v).take c),(k,(putE13 l e.k e.v).drop c)])∧Tk (addT t' j (nodeB [s,k])) j m ((tkV t' j:Int):: secsP [(s,(putE13 l e.k e.v).take c),(k,(putE13 l e.k e.v).drop c)]):=by
  have hpe:putE13 l e.k e.v=entsP [(s,(putE13 l e.k e.v).take c),(k,(putE13 l e.k e.v).drop c)]:=by
   rw[entsP,entsP,entsP,List.append_nil,List.take_append_drop]
  have hso:SrtE (entsP [(s,(putE13 l e.k e.v).take c),(k,(putE13 l e.k e.v).drop c)]):=by
   rw[←hpe]
   have:=hl.ok.srt.put e.k e.v
   exact this
  have:=z6.node hso (by simp) (by simp) z8
  rw[←hpe] at this
  exact this
 have hAd:=fun W hA hB=>pgAdd (fl:=0) W S J P base m t' j 0 ⟨1,[],[s,k]⟩ (.slice none 0 0) (.slice (some ⟨y3.heap.size,0,none⟩) 2 2) [] hA hF3.tk.fit ⟨rdN_empty _ _ _,rdZ_two hB,rfl⟩ (pgS_node13 (by simp) hks6) z1 z2 z4 (by rw[pgB_node];exact z5)
 rw[pgB_node] at hAd
 have hA4:Below y3.heap.size y3 (y3.alloc (.cells #[.int .i64 (s:Int),.int .i64 (k:Int)] 3)):=(Below.refl _ y3).alloc (Nat.le_refl _) _
 have hAd:=hAd _ (SpAx.keep HA3.out (KeepT.of_below hA4)) (Blk.new y3 3 [.int .i64 (s:Int),.int .i64 (k:Int)])
 unfold gT pgc at hAd
 have kb0:=hk3.o.blk HB0.out (by decide)
 have kp3:=hpk _ _ HKP.out
 have HA4:=mkHid hA4
 have HR:=mkHid hR
 have HZ7:=mkHid z7
 have hk0:((k:Int)==0)=false:=by rw[beq_eq_false_iff_ne];omega
 have hk1:¬k=0:=by omega
 have c0:=kb0.cell 0
 have d1:=kp3.cell 1
 simp only[gZ0,gZ1] at c0 d1
 have HK4:=mkHid (HK3.out.trans (KS.of_below hA4 (spcOK.lo HA3.out)))
 generalize tkV t' j=kk at *
 generalize addT t' j (nodeB [s,k])=tt at *
 clear hF3 hF3' hR z1 z2 z3 z4 z5 z6 z7 z8 hl3 hl4 hks6 hk3 hkb2 W2 hb2 hA4 hpk kb0 kp3 HKP
 go_wp2_with (go_at_call 66;refine hAd.mono ?_;rintro r6 y6 ⟨rfl,hA6,hk6⟩;have HA6:=mkHid (And.intro hA6 hk6);clear hA6 hk6)
 go_ret
 exact⟨⟨tt,kk,_,rfl,HA6.out.1,HR.out.2,HR.out.1,by have:=HZ7.out;omega⟩,HK4.out.trans HA6.out.2⟩
end
section
open Go.RowKit
variable {fl:Nat}
theorem nd_pg13 {t:Tl}{j:Jl}{m:Nat}{s:Nat}{Q:Ps}(hN:NdAt t j s Q)(hk:Tk t j m ((s:Int):: secsP Q)):pgOf (spRdB t j (s:Int))=some ⟨1,[],Q.map (·.1)⟩:=by
 rw[hN.rd]
 refine pg_node (by have:=hN.n;rw[List.length_map];omega) (by have:=hN.n2;rw[List.length_map];omega) (fun x hx=>?_)
 obtain⟨p,hp,rfl⟩:=List.mem_map.1 hx
 have:=hk.rng (p.1:Int) (List.mem_cons_of_mem _ (List.mem_map.2 ⟨p,hp,rfl⟩))
 have:=hk.fit.few.n
 omega
theorem pgPutN (w:World)(S J P base m:Nat)(t:Tl)(j:Jl)(s:Nat)(Q:Ps)(e:Et)(q:EtA)(h:SpAx w S J P base t j)(hk:Tk t j m ((s:Int):: secsP Q))(hN:NdAt t j s Q)(hso:SrtE (entsP Q))(he:EtQ fl w e q)(hit:itemOk e.k e.v=true)(hroom:t.l.length+8≤48)(hq:Q.length≤200)(hdisk:Q.length+1<j.p.n-51)(hfl:fl≤base:=by omega):
  Calls Tryz.prog 43 #[gT S,.int .i64 (s:Int),.agg (etc2 e q).toArray] w (PutT w S J P base m t j (entsP Q) e):=by
 have hlo:=spcOK.lo h
 have hf:=hk.fit
 have hn2:=hf.few.n
 have hsr:=hk.rng (s:Int) List.mem_cons_self
 unfold gT
 have W1:Below w.heap.size w ((w.alloc (.cells #[.pointer (some ⟨S,0,none⟩)] 87)).alloc (.cells (etc2 e q).toArray 64)):=((Below.refl _ w).alloc (Nat.le_refl _) _).alloc (by simp) _
 have k0:Blk ((w.alloc (.cells #[.pointer (some ⟨S,0,none⟩)] 87)).alloc (.cells (etc2 e q).toArray 64)) w.heap.size 87 [.pointer (some ⟨S,0,none⟩)]:=(Blk.newAt w w.heap.size 87 #[.pointer (some ⟨S,0,none⟩)] [.pointer (some ⟨S,0,none⟩)] rfl rfl).alloc _
 have k2:Blk ((w.alloc (.cells #[.pointer (some ⟨S,0,none⟩)] 87)).alloc (.cells (etc2 e q).toArray 64)) (w.heap.size+1) 64 (etc2 e q):=Blk.newAt _ (w.heap.size+1) 64 _ _ (by simp) rfl
 generalize hW:(w.alloc (.cells #[.pointer (some ⟨S,0,none⟩)] 87)).alloc (.cells (etc2 e q).toArray 64)=Y0 at *
 have hA0:=SpAx.keep h (KeepT.of_below W1)
 have he0:=he.below W1
 have HRd:=pgRead Y0 S J P base m t j s _ hA0 hf (by omega) (by omega) (nd_pg13 hN hk)
 have HIL:Hid (∀Y2 v ve vk L,Below Y0.heap.size Y0 Y2→PgO Y2 Y0.heap.size (s:Int) ⟨1,[],Q.map (·.1)⟩ v ve vk L→Calls Tryz.prog 68 #[gT S,v,.agg (etc2 e q).toArray] Y2 fun r w'=>(∃t' S',r=.returned (.int .i64 0)∧SpAx w' S J P base t' j∧Tk t' j m S'∧TR t' j s (putE13 (entsP Q) e.k e.v) S'∧t'.l.length≤t.l.length+5)∧KS base Y0 w'):=fun Y2 v ve vk L hb hp =>
  codInsNode Y2 Y0 S J P base m t j Q s v ve vk L e q (SpAx.keep hA0 (KeepT.of_below hb)) hN hk hso (KS.of_below hb (spcOK.lo hA0)) hp (he0.below hb) hit (by omega) hq hdisk (spcOK.lo hA0)
 have HK0:=mkHid (KS.of_below (base:=base) W1 hlo)
 have HLo:Hid (base≤Y0.heap.size):=spcOK.lo hA0
 unfold etc2 gT at *
 have HB0:=mkHid k0
 have HB2:=mkHid k2
 have c0:=k0.cell 0
 simp only[List.getElem?_cons_zero] at c0
 have hs0:((s:Int)==0)=false:=by rw[beq_eq_false_iff_ne];omega
 have hs1:¬s=0:=by omega
 clear h hk he hit W1 k0 k2 hA0 he0 hsr hso hN
 unfold PutT
 generalize hks:Q.map (·.1)=ks at *
 go_enter Tryz.func43,Tryz.ntmps43
 go_upto_region 1 with fail
 (try rw[hW])
 clear hW
 go_upto_region 3 with fail
 go_upto_region 4 with(go_at_call 67;refine HRd.mono ?_;rintro r1 y1 ⟨⟨v,ve,vk,L,rfl,hp1⟩,hb1⟩;obtain⟨ea,ec,ka,kc,hve,hvk⟩:=hp1.r.forms;subst hve hvk;obtain rfl:=hp1.v;unfold pgc)
 have W2:Below y1.heap.size y1 (y1.alloc (.cells #[.int .i64 (s:Int),.int .i64 1,.slice ea 0 ec,.slice ka ks.length kc] 133)):=(Below.refl _ y1).alloc (Nat.le_refl _) _
 have kp:Blk (y1.alloc (.cells #[.int .i64 (s:Int),.int .i64 1,.slice ea 0 ec,.slice ka ks.length kc] 133)) y1.heap.size 133 [.int .i64 (s:Int),.int .i64 1,.slice ea 0 ec,.slice ka ks.length kc]:=Blk.new y1 133 [.int .i64 (s:Int),.int .i64 1,.slice ea 0 ec,.slice ka ks.length kc]
 have hb2:=hb1.trans (W2.mono hb1.size)
 have hIL:=HIL.out _ _ _ _ L hb2 (hp1.below W2)
 have kb0:=HB0.out.on hb2
 have kb2:=HB2.out.on hb2
 simp only[List.length_nil] at hIL
 unfold pgc at hIL
 generalize ks.length=n at hIL kp W2 hb2 hp1 kb0 kb2 ⊢
 generalize y1.alloc (.cells #[.int .i64 (s:Int),.int .i64 1,.slice ea 0 ec,.slice ka n kc] 133)=Y2 at *
 have c0:=kb0.cell 0
 have d0:=kp.cell 0
 have d1:=kp.cell 1
 have d2:=kp.cell 2
 have d3:=kp.cell 3
 have e0:=kb2.cell 0
 have e1:=kb2.cell 1
 simp only[gZ0,gZ1] at c0 d0 d1 d2 d3 e0 e1
 clear hp1 HIL HRd hb1 kb0 kb2 kp HB2 hks W2 hb2
 go_upto_region 5 with(go_at_call 68;refine hIL.mono ?_;rintro r3 y3 ⟨⟨t',S',rfl,hA3,hk3,ht3,hr3⟩,hks3⟩)
 have HA3:=mkHid (And.intro hA3 (And.intro hk3 ht3))
 have HK3:=mkHid (HK0.out.trans hks3)
 clear hA3 hIL hk3 ht3 hks3
 go_wp2_with fail
 go_ret
 exact⟨⟨t',s,S',rfl,HA3.out.1,HA3.out.2.1,HA3.out.2.2,by omega⟩,HK3.out⟩
theorem pgPut (w:World)(S J P base m:Nat)(t:Tl)(j:Jl)(root:Nat)(l:List Et)(SS:List Int)(e:Et)(q:EtA)(h:SpAx w S J P base t j)(hk:Tk t j m SS)(ht:TR t j root l SS)(he:EtQ fl w e q)(hit:itemOk e.k e.v=true)(hroom:t.l.length+8≤48)(hl:l.length≤190)(hdisk:SS.length+3<j.p.n-51)(hfl:fl≤base:=by omega):
  Calls Tryz.prog 43 #[gT S,.int .i64 (root:Int),.agg (etc2 e q).toArray] w (PutT w S J P base m t j l e):=by
 rcases ht.2 with⟨rfl,rfl,rfl⟩|⟨rfl,hL⟩|⟨Q,hN,rfl,rfl⟩
 ·exact pgPut0 w S J P base m t j e q h hk he hit hroom (by simp at hdisk;omega)
 ·exact pgPutL w S J P base m t j root l e q h hk hL he hit hroom (by simp at hdisk;omega)
 ·have h1:=entsP_len (fun p hp=>(hN.lf p hp).ok.ne)
  have h2:(secsP Q).length=Q.length:=List.length_map _
  refine pgPutN w S J P base m t j root Q e q h hk hN ht.1 he hit hroom (by omega) (by simp only[List.length_cons] at hdisk;omega)
end
section
open Go.RowKit
variable {fl:Nat}
theorem codEach1No {σ:Type}(V:Nat)(cap:Array Value)(stp:σ→List Et→σ × Bool)(Inv:σ→Nat→World→Prop)(N0 Nl:Nat)(rk:σ→Nat)(hV:VisOK V cap stp Inv N0 Nl rk)(w:World)(S J P base m:Nat)(t:Tl)(j:Jl)(Wb rt:Nat)(Q:Ps)(at_:Int)(ve vk:Value)(fa:Option Addr)(fn fc:Nat)(from_:List UInt8)(s:σ)(X:Nat)(hrk:Q.length+1≤rk s)(h:SpAx w S J P base t j)(hN:NdAt t j rt Q)(hk:Tk t j m ((rt:Int):: secsP Q))(hso:SrtE (entsP Q))(hI:Inv s X w)(hon:OwnN w X ve [])(hst:(stp s []).2=false)
  (hB:Blk w Wb 144 [.pointer (some ⟨S,0,none⟩),.slice none 0 0]) (hve:RdN 0 w ve []) (hO:OwnZ w N0 vk ((Q.map (·.1)).map Int.ofNat)) (hfr:BsP fl w fa fn fc from_) (hN0:N0≤Wb) (hNl:Nl≤N0) (hfl:fl≤Nl:=by omega):
  Calls Tryz.prog 76 #[.pointer (some ⟨Wb,0,none⟩),.agg (pgc at_ 1 ve vk).toArray,.slice fa fn fc,.func (.func V) #[] cap] w (EachNPost ((stp s []).1,false) Inv N0 Nl w):=by
 obtain⟨ea,ec,hve1,_,_⟩:=hve.form
 subst hve1
 obtain⟨xa,xc,hvk1,_,_,_⟩:=OwnRw.form okI13 hO.c
 rw[List.length_map,List.length_map] at hvk1
 subst hvk1
 have hf:=hk.fit
 have hn2:=hf.few.n
 have hq2:=hN.n
 have hq254:=hN.n2
 have hNd:=node_kids hN hk
 have hBl:=hB.lt
 have W1:Below w.heap.size w (w.alloc (.cells (pgc at_ 1 (.slice ea 0 ec) (.slice xa Q.length xc)).toArray 133)):=(Below.refl _ w).alloc (Nat.le_refl _) _
 have k1:Blk (w.alloc (.cells (pgc at_ 1 (.slice ea 0 ec) (.slice xa Q.length xc)).toArray 133)) w.heap.size 133 (pgc at_ 1 (.slice ea 0 ec) (.slice xa Q.length xc)):=Blk.new w _ _
 generalize hW:w.alloc (.cells (pgc at_ 1 (.slice ea 0 ec) (.slice xa Q.length xc)).toArray 133)=Y0 at *
 have hCk:Calls Tryz.prog 115 #[.pointer (some ⟨Wb,0,none⟩),.agg #[.int .i64 at_,.int .i64 1,.slice ea 0 ec,.slice xa Q.length xc]] Y0 fun e w'=>e=.returned (.tuple #[])∧Below Y0.heap.size Y0 w':=codCheckN Y0 Wb at_ (.slice ea 0 ec) (.slice xa Q.length xc) ⟨_,_,_,rfl⟩ ⟨_,_,_,rfl⟩
 have hV0:VKeep N0 Nl [64,144] w Y0:=VKeep.below W1 (by omega)
 have hI0:=hV.keep s X w Y0 hI (KeepT.of_below W1) (lw_below W1)
 have hon0:=hon.on W1
 have HVc:Hid (∀W,Inv s X W→PgR 0 W ⟨1,[],Q.map (·.1)⟩ (.slice ea 0 ec) (.slice xa Q.length xc) []→OwnN W X (.slice ea 0 ec) []→Calls Tryz.prog V (#[.agg (pgc at_ 1 (.slice ea 0 ec) (.slice xa Q.length xc)).toArray]++cap) W fun e w'=>e=.returned (.bool (stp s []).2)∧Inv (stp s []).1 w'.heap.size w'∧VKeep N0 Nl [64] W w'):=fun W hI hp ho=>hV.call s X W at_ ⟨1,[],Q.map (·.1)⟩ _ _ [] (by omega) hI hp ho List.Pairwise.nil (Nat.zero_le _) (fun e he=>by cases he)
 rw[hst] at HVc
 have HSt:Hid (∀W,VKeep N0 Nl [64,144] w W→SpAx W S J P base t j∧OwnZ W N0 (.slice xa Q.length xc) ((Q.map (·.1)).map Int.ofNat)∧BsP fl W fa fn fc from_):=fun W hW=>⟨h.keep13 (hW.t.more (by decide)),by
  have ho:=hO
  refine⟨ho.1,?_⟩
  rcases ho.2 with h2|⟨g,cp,cur,h3,h4,h5,h6⟩
  ·exact .inl h2
  ·exact .inr ⟨g,cp,cur,h3,h4,hW.k g _ h5 h4 (fun c t fz e=>by injection e with _ e2 _;rw[←e2];decide),h6⟩,hfr.keep (KeepU.ofB (KeepO.ofT hW.t (by decide)) hW.b hfl)⟩
 have hfn:=hV.enter
 have HEa:Hid (∀(s:σ) (X:Nat) (W:World) (a2:Int) (ve vk:Value) (l:List Et) (L:List Eq3) (la:Option Addr) (ln lc:Nat) (lb:List UInt8),0<rk s→Inv s X W→OwnN W X ve L→Blk W Wb 144 [.pointer (some ⟨S,0,none⟩),.slice la ln lc]→PgR 0 W ⟨0,l,[]⟩ ve vk L→LfOk l→BsP 0 W la ln lc lb→Op.bytesLess lb (fstK l)=true→Calls Tryz.prog 76 #[.pointer (some ⟨Wb,0,none⟩),.agg (pgc a2 0 ve vk).toArray,.slice fa fn fc,.func (.func V) #[] cap] W (EachPost stp Inv N0 Nl Wb S s l (lstK l) W)):=fun s X W a2 ve vk l L la ln lc lb q0 q1 q1' q2 q3 q4 q5 q6 =>
  codEach0 V cap stp Inv N0 Nl rk hV W Wb S a2 ve vk (.slice fa fn fc) l L la ln lc lb s X q0 q1 q1' q2 q3 q4 q5 q6 ⟨_,_,_,rfl⟩ hN0 hNl
 have HKp:=mkHid hV.keep
 have HRk:=mkHid hV.rank
 have HR0:Hid (Q.length≤rk (stp s []).1):=by have:=hV.rank s [];unfold Hid;omega
 have HI0:=mkHid hI0
 have HOn:=mkHid hon0
 have HK1:=mkHid (And.intro k1 (hB.on W1))
 have HV0:=mkHid hV0
 have HNd:=mkHid hNd
 have HN:=mkHid (And.intro hN (And.intro hk hso))
 have HRd0:Hid (RdN 0 w (.slice ea 0 ec) []):=hve
 clear h hN hk hso hI hon hon0 hB hve hO hfr hV hI0 hV0 hNd hst
 unfold pgc at HVc HK1 k1 hW
 obtain⟨n,hn⟩:∃n,n=Q.length:=⟨_,rfl⟩
 rw[←hn] at hCk HVc HSt HK1 hW k1 hq2 hq254
 have HNn:=mkHid hn
 have d0:=k1.cell 0
 have d1:=k1.cell 1
 have d2:=k1.cell 2
 have d3:=k1.cell 3
 simp only[gZ0,gZ1] at d0 d1 d2 d3
 show Calls Tryz.prog _ #[_,.agg #[.int .i64 at_,.int .i64 1,.slice ea 0 ec,.slice xa Q.length xc],_,_] w _
 rw[←hn] at ⊢
 have hW':w.alloc (.cells #[.int .i64 at_,.int .i64 1,.slice ea 0 ec,.slice xa n xc] 133)=Y0:=hW
 clear k1 hn W1 hW
 go_enter Tryz.func76,Tryz.ntmps76
 go_upto_region 1 with fail
 (try rw[hW'])
 clear hW'
 go_upto_region 2 with(go_at_call 115;refine hCk.mono ?_;rintro r1 y1 ⟨rfl,hb1⟩)
 have hI1:=HKp.out s X Y0 y1 HI0.out (KeepT.of_below hb1) (lw_below hb1)
 have hV1:=HV0.out.trans (VKeep.below hb1 (by have:=HV0.out.b.size;have:=HK1.out.2.lt;omega))
 have hz1:=(HSt.out y1 hV1).2.1.rd
 have hVc:=HVc.out y1 hI1 ⟨rdN_empty13 y1 ea ec,hz1,rfl⟩ (HOn.out.on hb1)
 have kp1:=HK1.out.1.on hb1
 have kw1:=HK1.out.2.on hb1
 have d0:=kp1.cell 0
 have d1:=kp1.cell 1
 have d2:=kp1.cell 2
 have d3:=kp1.cell 3
 simp only[gZ0,gZ1] at d0 d1 d2 d3
 have HB1:=mkHid (And.intro kp1 kw1)
 have HV1:=mkHid hV1
 clear hb1 hI1 hV1 hz1 kp1 kw1 HVc hCk
 go_wp2_with (go_at_fn V;refine hVc.mono ?_;rintro r2 y2 ⟨rfl,hI2,hk2⟩;have HR2:=mkHid (And.intro hI2 hk2);clear hI2 hk2)
 go_ret
 exact⟨rfl,⟨_,HR2.out.1⟩,HV1.out.trans (HR2.out.2.more (by decide))⟩
end
section
open Go.RowKit
def upF (fr:List UInt8)(l:List Et):List Et:=l.filter fun e => !(Op.bytesLess e.k fr)
theorem drop_up {l:List Et}(h:SrtE l)(fr:List UInt8):l.drop (atE l fr)=upF fr l:=by
 induction l with
 | nil=>rfl
 | cons e l ih =>
  obtain⟨h1,h2⟩:=List.pairwise_cons.1 h
  unfold upF
  by_cases hlt:Op.bytesLess e.k fr=true
  ·rw[atE,if_pos hlt,List.drop_succ_cons,ih h2,List.filter_cons_of_neg (by simp[hlt])]
   rfl
  ·rw[atE,if_neg hlt,List.drop_zero]
   refine(List.filter_eq_self.2 fun x hx=>?_).symm
   rcases List.mem_cons.1 hx with rfl|hx
   ·simpa using hlt
   ·have h3:=h1 x hx
    by_cases h4:Op.bytesLess x.k fr=true
    ·exact absurd (lt_tr _ _ _ h3 h4) hlt
    ·simpa using h4
theorem upF_append (fr:List UInt8)(a b:List Et):upF fr (a++b)=upF fr a++upF fr b:=List.filter_append _ _
def upP (fr:List UInt8):List (List Et)→List Et
 | []=>[]
 | l::ls=>upF fr l++upP fr ls
theorem gather (fr:List UInt8)(most:Int):∀(ls:List (List Et)) (acc:List Et),(∀l∈ls,SrtE l∧l.length≤1000)→(acc.length:Int)<most→(eachF (stpS fr most) acc ls).1=acc++(upP fr ls).take (most-(acc.length:Int)).toNat
 | [],acc,_,_=>by simp[eachF,upP]
 | l::ls,acc,h,hm=>by
  obtain⟨hs,hl⟩:=h l List.mem_cons_self
  have hg:gat fr most acc l=acc++(upF fr l).take (most-(acc.length:Int)).toNat:=by
   unfold gat
   rw[drop_up hs]
   congr 1
   have hlen:(upF fr l).length≤1000:=Nat.le_trans (List.length_filter_le _ _) hl
   by_cases ht:(most-(acc.length:Int)).toNat≤1000
   ·rw[Nat.min_eq_left ht]
   ·rw[Nat.min_eq_right (by omega),List.take_of_length_le hlen,List.take_of_length_le (by omega)]
  have hst:stpS fr most acc l=(gat fr most acc l,decide (((gat fr most acc l).length:Int)<most)):=rfl
  rw[eachF,hst,upP]
  by_cases hd:((gat fr most acc l).length:Int)<most
  ·rw[if_pos (decide_eq_true hd),gather fr most ls _ (fun x hx=>h x (List.mem_cons_of_mem _ hx)) hd]
   have hd2:=hd
   rw[hg,List.length_append,List.length_take] at hd2
   have hu:(upF fr l).length<(most-(acc.length:Int)).toNat:=by omega
   rw[hg,List.take_of_length_le (by omega),List.append_assoc,List.take_append,List.take_of_length_le (Nat.le_of_lt hu)]
   congr 3
   rw[List.length_append]
   omega
  ·rw[if_neg (by simpa using hd)]
   show gat fr most acc l=_
   have hd2:=hd
   rw[hg,List.length_append,List.length_take] at hd2
   rw[hg,List.take_append_of_le_length (by omega)]
theorem upP_ents (fr:List UInt8):∀Q:Ps,upP fr (Q.map (·.2))=upF fr (entsP Q)
 | []=>rfl
 | p::Q=>by
  rw[List.map_cons,upP,upP_ents fr Q,entsP,upF_append]
theorem gather_all {Q:Ps}{fr:List UInt8}{most:Int}{i:Nat}(hs:SrtE (entsP Q))(hne:∀p∈Q,p.2≠[])(hl:∀p∈Q,p.2.length≤1000)(hm:0<most)(hi:i<Q.length)(h1:0<i→Op.bytesLess fr (fstK (Q.getD i (0,[])).2)=false):
  (eachF (stpS fr most) [] ((Q.map (·.2)).drop i)).1=scanE13 (entsP Q) fr most:=by
 have hsp:∀p∈Q,SrtE p.2:=fun p hp=>by
  obtain⟨A,B,rfl⟩:=List.append_of_mem hp
  rw[entsP_append,entsP] at hs
  exact(List.pairwise_append.1 (List.pairwise_append.1 hs).2.1).1
 rw[gather fr most _ [] (fun l hl2=>by
  obtain⟨p,hp,rfl⟩:=List.mem_map.1 (List.mem_of_mem_drop hl2)
  exact⟨hsp p hp,hl p hp⟩) (by simpa using hm)]
 rw[List.nil_append,←List.map_drop,upP_ents]
 unfold scanE13
 rw[drop_up hs]
 have hq:Q.getD i (0,[])=Q[i]:=by simp[hi]
 have he:entsP Q=entsP (Q.take i)++entsP (Q.drop i):=by rw[←entsP_append,List.take_append_drop]
 have hz:upF fr (entsP (Q.take i))=[]:=by
  rcases Nat.eq_zero_or_pos i with h0|h0
  ·rw[h0,List.take_zero];rfl
  ·refine List.filter_eq_nil_iff.2 fun e hem=>?_
   have h2:=h1 h0
   obtain⟨b,hb,hbk⟩:=fst_mem (hne Q[i] (List.getElem_mem _))
   rw[hq,←hbk] at h2
   rw[he] at hs
   have h3:b∈entsP (Q.drop i):=mem_entsP.2 ⟨Q[i],by rw[List.drop_eq_getElem_cons hi];exact List.mem_cons_self,hb⟩
   have h4:=(List.pairwise_append.1 hs).2.2 e hem b h3
   have h5:Op.bytesLess e.k fr=true:=by
    rcases lt_tot b.k fr with h6|h6|h6
    ·exact lt_tr _ _ _ h4 h6
    ·rw[←h6];exact h4
    ·rw[h6] at h2;cases h2
   simp[h5]
 rw[he,upF_append,hz,List.nil_append]
 congr 1
 simp
variable {fl:Nat}
def ScanR (l:List Et)(fr:List UInt8)(most:Int)(B:Nat)(v:Value)(w':World):Prop:=∃L,OwnN w' B v L∧L.map Prod.fst=scanE13 l fr most∧∀x∈L,EtP w' x.1 x.2
theorem scan_nil (l:List Et)(fr:List UInt8)(most:Int)(h:most≤0):scanE13 l fr most=[]:=by
 unfold scanE13
 rw[show most.toNat=0 by omega,List.take_zero]
theorem gat_leaf {l:List Et}(fr:List UInt8)(most:Int)(h:l.length≤1000):(stpS fr most [] l).1=scanE13 l fr most:=by
 show gat fr most [] l=_
 unfold gat scanE13
 have hd:(l.drop (atE l fr)).length≤1000:=by rw[List.length_drop];omega
 rw[List.nil_append,List.length_nil]
 by_cases ht:most.toNat≤1000
 ·rw[show min (most-((0:Nat):Int)).toNat 1000=most.toNat by omega]
 ·rw[List.take_of_length_le (by omega),List.take_of_length_le (by omega)]
theorem gat_none (fr:List UInt8)(most:Int):stpS fr most [] []=([],decide (0<most)):=by
 have h:gat fr most [] []=[]:=by unfold gat;simp
 unfold stpS
 rw[h]
 rfl
theorem eachScan (y4:World)(S J P base m N B3:Nat)(t:Tl)(j:Jl)(root:Nat)(l:List Et)(SS:List Int)(pg:Pg)(v ve vk:Value)(L:List Eq3)(fa:Option Addr)(fn fc:Nat)(fr:List UInt8)(most:Int)(h:SpAx y4 S J P base t j)(hk:Tk t j m SS)(hso:SrtE l)(hcase:(SS=[(root:Int)]∧LfAt t j root l)∨∃Q:Ps,NdAt t j root Q∧l=entsP Q∧SS=(root:Int):: secsP Q)
  (hpg:pgOf (spRdB t j (root:Int))=some pg) (hp:PgO y4 B3 (root:Int) pg v ve vk L) (hB3:N+5≤B3)
  (hf:Blk y4 (N+1) 33 [.slice fa fn fc]) (hm:Blk y4 (N+2) 3 [.int .i64 most]) (hl:Blk y4 (N+3) 50 [.slice none 0 0]) (hw:Blk y4 (N+4) 144 [.pointer (some ⟨S,0,none⟩),.slice none 0 0]) (hfr:BsP fl y4 fa fn fc fr) (hfl:fl≤N):
  Calls Tryz.prog 76 #[.pointer (some ⟨N+4,0,none⟩),v,.slice fa fn fc,.func (.func 77) #[] #[.pointer (some ⟨N+1,0,none⟩),.pointer (some ⟨N+3,0,none⟩),.pointer (some ⟨N+2,0,none⟩)]] y4 fun e w'=>(∃b,e=.returned (.bool b))∧(∃v2,Blk w' (N+3) 50 [v2]∧ScanR l fr most N v2 w')∧Blk w' (N+1) 33 [.slice fa fn fc]∧VKeep (N+4) N [64,144] y4 w':=by
 have hV:=visScan fl (N+1) (N+3) (N+2) (N+4) N fa fn fc fr most (by omega) (by omega) hfl
 have hI:InvS fl (N+1) (N+3) (N+2) N fa fn fc fr most [] B3 y4:=⟨hf,hfr,hm,.slice none 0 0,[],hl,OwnN.nil _ _,(fun k e=>by simp[Value.ownBlock] at e),rfl,(fun x hx=>absurd hx List.not_mem_nil)⟩
 have hfin:∀(acc:List Et) (X:Nat) (w':World),acc=scanE13 l fr most→InvS fl (N+1) (N+3) (N+2) N fa fn fc fr most acc X w'→(∃v2,Blk w' (N+3) 50 [v2]∧ScanR l fr most N v2 w')∧Blk w' (N+1) 33 [.slice fa fn fc]:=fun acc X w' ha hi=>by
  obtain⟨v2,L2,q1,q2,_,q4,q5⟩:=hi.l
  exact⟨⟨v2,q1,L2,q2,by rw[q4,ha],q5⟩,hi.f⟩
 rcases hcase with⟨rfl,hL⟩|⟨Q,hN,rfl,rfl⟩
 ·have hpe:pg=⟨0,l,[]⟩:=by
   have h2:=pg_leaf hL.ok
   rw[hL.rd,h2] at hpg
   exact(Option.some.inj hpg).symm
  subst hpe
  obtain rfl:=hp.v
  obtain⟨e1,he1,hk1⟩:=fst_mem hL.ok.ne
  have:=codEach0 77 #[.pointer (some ⟨N+1,0,none⟩),.pointer (some ⟨N+3,0,none⟩),.pointer (some ⟨N+2,0,none⟩)] (stpS fr most) (InvS fl (N+1) (N+3) (N+2) N fa fn fc fr most) (N+4) N rkS hV y4 (N+4) S (root:Int) ve vk (.slice fa fn fc) l L none 0 0 [] [] B3 (by decide) hI hp.e hw hp.r hL.ok (fun W _=>isB_none W) (less_nil (by rw[←hk1];exact(item_facts (hL.ok.ok e1 he1)).1)) ⟨fa,fn,fc,rfl⟩ (Nat.le_refl _) (by omega)
  refine this.mono ?_
  rintro e w' ⟨q1,⟨X',_,q2⟩,_,q3⟩
  have h9:=hfin _ X' w' (gat_leaf fr most (Nat.le_trans hL.ok.len (by decide))) q2
  exact⟨⟨_,q1⟩,h9.1,h9.2,q3⟩
 ·have hpe:pg=⟨1,[],Q.map (·.1)⟩:=by
   rw[nd_pg13 hN hk] at hpg
   exact(Option.some.inj hpg).symm
  subst hpe
  obtain rfl:=hp.v
  have hL0:L=[]:=List.map_eq_nil_iff.1 hp.es
  have hq2:=hN.n
  have hq254:=hN.n2
  have hrd:=hp.r.e
  have hoe:=hp.e
  rw[hL0] at hrd hoe
  have hrk:Q.length+1≤rkS []:=by show Q.length+1≤300;omega
  by_cases hm0:0<most
  ·have:=codEach1 77 #[.pointer (some ⟨N+1,0,none⟩),.pointer (some ⟨N+3,0,none⟩),.pointer (some ⟨N+2,0,none⟩)] (stpS fr most) (InvS fl (N+1) (N+3) (N+2) N fa fn fc fr most) (N+4) N rkS hV y4 S J P base m t j (N+4) root Q (root:Int) ve vk fa fn fc fr [] B3 hrk h hN hk hso hI hoe (by rw[gat_none];exact decide_eq_true hm0) hw hrd (own_base hp.k (by omega)) hfr (Nat.le_refl _) (by omega)
   refine this.mono ?_
   rintro e w' ⟨i,q0,q1,_,q3,⟨X',q4⟩,q5⟩
   rw[gat_none] at q3 q4
   have hlf:∀p∈Q,p.2≠[]∧p.2.length≤1000:=fun p hp=>⟨(hN.lf p hp).ok.ne,Nat.le_trans (hN.lf p hp).ok.len (by decide)⟩
   have h9:=hfin _ X' w' (gather_all hso (fun p hp=>(hlf p hp).1) (fun p hp=>(hlf p hp).2) hm0 q0 q1) q4
   exact⟨⟨_,q3⟩,h9.1,h9.2,q5⟩
  ·have:=codEach1No 77 #[.pointer (some ⟨N+1,0,none⟩),.pointer (some ⟨N+3,0,none⟩),.pointer (some ⟨N+2,0,none⟩)] (stpS fr most) (InvS fl (N+1) (N+3) (N+2) N fa fn fc fr most) (N+4) N rkS hV y4 S J P base m t j (N+4) root Q (root:Int) ve vk fa fn fc fr [] B3 hrk h hN hk hso hI hoe (by rw[gat_none];exact decide_eq_false hm0) hw hrd (own_base hp.k (by omega)) hfr (Nat.le_refl _) (by omega)
   refine this.mono ?_
   rintro e w' ⟨q3,⟨X',q4⟩,q5⟩
   rw[gat_none] at q4
   have h9:=hfin _ X' w' (scan_nil _ fr most (by omega)).symm q4
   exact⟨⟨_,q3⟩,h9.1,h9.2,q5⟩
def ScnPost (l:List Et)(fr:List UInt8)(most:Int)(w:World)(e:Ending)(w':World):Prop:=(∃v,e=.returned v∧ScanR l fr most w.heap.size v w')∧Below w.heap.size w w'
theorem pgScan (w:World)(S J P base m:Nat)(t:Tl)(j:Jl)(root:Nat)(l:List Et)(SS:List Int)(fa:Option Addr)(fn fc:Nat)(fr:List UInt8)(most:Int)(h:SpAx w S J P base t j)(hk:Tk t j m SS)(ht:TR t j root l SS)(hfr:BsP fl w fa fn fc fr)(hfl:fl≤w.heap.size:=by omega):
  Calls Tryz.prog 51 #[gT S,.int .i64 (root:Int),.slice fa fn fc,.int .i64 most] w (ScnPost l fr most w):=by
 have hf:=hk.fit
 unfold gT
 obtain⟨Y0,hW⟩:∃Y0,(((w.alloc (.cells #[.pointer (some ⟨S,0,none⟩)] 87)).alloc (.cells #[.slice fa fn fc] 33)).alloc (.cells #[.int .i64 most] 3)).alloc (.cells #[.slice none 0 0] 50)=Y0:=⟨_,rfl⟩
 have W1:Below w.heap.size w Y0:=by rw[←hW];exact((((Below.refl _ w).alloc (Nat.le_refl _) _).alloc (by simp) _).alloc (by simp;omega) _).alloc (by simp;omega) _
 have k0:Blk Y0 w.heap.size 87 [.pointer (some ⟨S,0,none⟩)]:=by rw[←hW];exact(((Blk.newAt w w.heap.size 87 #[.pointer (some ⟨S,0,none⟩)] [.pointer (some ⟨S,0,none⟩)] rfl rfl).alloc _).alloc _).alloc _
 have k1:Blk Y0 (w.heap.size+1) 33 [.slice fa fn fc]:=by rw[←hW];exact((Blk.newAt _ (w.heap.size+1) 33 _ _ (by simp) rfl).alloc _).alloc _
 have k2:Blk Y0 (w.heap.size+2) 3 [.int .i64 most]:=by rw[←hW];exact(Blk.newAt _ (w.heap.size+2) 3 _ _ (by simp) rfl).alloc _
 have k3:Blk Y0 (w.heap.size+3) 50 [.slice none 0 0]:=by rw[←hW];exact Blk.newAt _ (w.heap.size+3) 50 _ _ (by simp) rfl
 have hs0:Y0.heap.size=w.heap.size+4:=by rw[←hW];simp
 have c0:=k0.cell 0
 have n0:=k3.cell 0
 simp only[List.getElem?_cons_zero] at c0 n0
 have HW:=mkHid hW
 clear hW
 rcases ht.2 with⟨rfl,rfl,rfl⟩|hcase
 ·have HF:=mkHid W1
  clear h hk k0 k1 k2 k3 W1
  rw[show (((0:Nat)):Int)=0 from rfl]
  go_enter Tryz.func51,Tryz.ntmps51
  go_upto_region 2 with fail
  (try rw[HW.out])
  go_wp2_with fail
  go_ret
  exact⟨⟨_,rfl,[],OwnN.nil _ _,by unfold scanE13;simp,fun x hx=>absurd hx List.not_mem_nil⟩,HF.out⟩
 have hr51:51≤root∧root<j.p.n:=by
  rcases hcase with⟨rfl,_⟩|⟨Q,_,rfl,rfl⟩
  ·have:=hk.rng (root:Int) List.mem_cons_self;omega
  ·have:=hk.rng (root:Int) List.mem_cons_self;omega
 have hs1:((root:Int)==0)=false:=by rw[beq_eq_false_iff_ne];omega
 have hs2:¬root=0:=by omega
 obtain⟨pg,hpg⟩:∃pg,pgOf (spRdB t j (root:Int))=some pg:=by
  rcases hcase with⟨rfl,hL⟩|⟨Q,hN,rfl,rfl⟩
  ·exact⟨_,by rw[hL.rd];exact pg_leaf hL.ok⟩
  ·exact⟨_,nd_pg13 hN hk⟩
 have W3:Below Y0.heap.size Y0 (Y0.alloc (.cells #[.pointer (some ⟨S,0,none⟩),.slice none 0 0] 144)):=(Below.refl _ Y0).alloc (Nat.le_refl _) _
 have kw:Blk (Y0.alloc (.cells #[.pointer (some ⟨S,0,none⟩),.slice none 0 0] 144)) (w.heap.size+4) 144 [.pointer (some ⟨S,0,none⟩),.slice none 0 0]:=Blk.newAt Y0 (w.heap.size+4) 144 _ _ hs0 rfl
 have k03:=k0.on W3
 have k13:=k1.on W3
 have k23:=k2.on W3
 have k33:=k3.on W3
 have W13:=W1.trans (W3.mono W1.size)
 generalize hW3:Y0.alloc (.cells #[.pointer (some ⟨S,0,none⟩),.slice none 0 0] 144)=Y3 at *
 have hA3:=SpAx.keep h (KeepT.of_below W13)
 have hfr3:=hfr.keep (KeepU.of_below W13)
 have hY3:w.heap.size+4<Y3.heap.size:=kw.lt
 have HRd:Hid (∀W,Below Y3.heap.size Y3 W→Calls Tryz.prog 67 #[gT S,.int .i64 (root:Int)] W fun e w'=>(∃v ve vk L,e=.returned v∧PgO w' W.heap.size (root:Int) pg v ve vk L)∧Below W.heap.size W w'):=fun W hb=>pgRead W S J P base m t j root pg (SpAx.keep hA3 (KeepT.of_below hb)) hf hr51.1 hr51.2 hpg
 have HEa:Hid (∀y4 B3 v ve vk L,Below Y3.heap.size Y3 y4→Y3.heap.size≤B3→PgO y4 B3 (root:Int) pg v ve vk L→Calls Tryz.prog 76 #[.pointer (some ⟨w.heap.size+4,0,none⟩),v,.slice fa fn fc,.func (.func 77) #[] #[.pointer (some ⟨w.heap.size+1,0,none⟩),.pointer (some ⟨w.heap.size+3,0,none⟩),.pointer (some ⟨w.heap.size+2,0,none⟩)]] y4 fun e w'=>(∃b,e=.returned (.bool b))∧(∃v2,Blk w' (w.heap.size+3) 50 [v2]∧ScanR l fr most w.heap.size v2 w')∧Blk w' (w.heap.size+1) 33 [.slice fa fn fc]∧VKeep (w.heap.size+4) w.heap.size [64,144] y4 w'):=fun y4 B3 v ve vk L hb hB3 hp =>
  eachScan y4 S J P base m w.heap.size B3 t j root l SS pg v ve vk L fa fn fc fr most (SpAx.keep hA3 (KeepT.of_below hb)) hk ht.1 hcase hpg hp (by omega) (k13.on hb) (k23.on hb) (k33.on hb) (kw.on hb) (hfr3.keep (KeepU.of_below hb)) hfl
 have hmf:=mkF0
 have hc3:Y3.cell? ⟨w.heap.size,0,none⟩=some (.pointer (some ⟨S,0,none⟩))∧Y3.cell? ⟨w.heap.size+1,0,none⟩=some (.slice fa fn fc):=⟨k03.cell 0,k13.cell 0⟩
 have HK:=mkHid (And.intro k03 k13)
 have HW13:=mkHid W13
 clear h hk ht hcase k0 k1 k2 k3 k03 k13 k23 k33 kw W1 W3 W13 hA3 hpg hfr hfr3
 have HW3:=mkHid hW3
 clear hW3
 go_enter Tryz.func51,Tryz.ntmps51
 go_upto_region 2 with fail
 (try rw[HW.out])
 go_upto_region 5 with fail
 (try rw[HW3.out])
 have hYd:Below Y3.heap.size Y3 Y3.drew:=(Below.refl _ Y3).drew
 refine wp_region_noPanic ?_
 refine wp_region_held_drew (S:=fun w'=>w'.cell? ⟨w.heap.size,0,none⟩=some (.pointer (some ⟨S,0,none⟩))∧w'.cell? ⟨w.heap.size+1,0,none⟩=some (.slice fa fn fc)) (by kernel_rfl) hc3 (fun hHeld=>?_)
 refine takeH (some 16) (i:=0) (v:=gT S) rfl (by kernel_rfl) (by kernel_rfl) (by kernel_rfl) (fun _ _ _ h=>h) (Or.inl ⟨by rfl,?_⟩) hHeld rfl ?_
 ·intro w hSw;obtain⟨s0,s1⟩:=hSw;go_simp;rfl
 (try simp only[Act.put,sIx,sZ0,sZ1])
 refine takeH (some 17) (i:=1) (v:=.int .i64 (root:Int)) rfl (by kernel_rfl) (by kernel_rfl) (by kernel_rfl) (fun _ _ _ h=>h) (Or.inl ⟨by rfl,?_⟩) hHeld rfl ?_
 ·intro w hSw;go_simp
 (try simp only[Act.put,sIx,sZ0,sZ1])
 refine takeH (some 19) (i:=3) (v:=.slice fa fn fc) rfl (by kernel_rfl) (by kernel_rfl) (by kernel_rfl) (fun _ _ _ h=>h) (Or.inl ⟨by rfl,?_⟩) hHeld rfl ?_
 ·intro w hSw;obtain⟨s0,s1⟩:=hSw;go_simp
 (try simp only[Act.put,sIx,sZ0,sZ1])
 refine takeH (some 20) (i:=4) (v:=.func (.func 77) #[] #[.pointer (some ⟨w.heap.size+1,0,none⟩),.pointer (some ⟨w.heap.size+3,0,none⟩),.pointer (some ⟨w.heap.size+2,0,none⟩)]) rfl (by kernel_rfl) (by kernel_rfl) (by kernel_rfl) (fun _ _ _ h=>h) (Or.inl ⟨by rfl,?_⟩) hHeld rfl ?_
 ·intro w hSw;go_simp
 (try simp only[Act.put,sIx,sZ0,sZ1])
 refine wpAnyH_ready (rs:=[2]) (by kernel_rfl) (by simp) (AllReadyH.cons rfl (fun K hK=>?_) AllReadyH.nil)
 go_simp
 go_wp2_with (go_at_call 67;refine(HRd.out _ hYd).mono ?_;rintro e y4 ⟨⟨v,ve,vk,L,rfl,hp⟩,hb4⟩)
 have hb34:=hYd.trans (hb4.mono hYd.size)
 have hEa:=HEa.out y4 _ v ve vk L hb34 hYd.size hp
 have k04:=HK.out.1.on hb34
 have k14:=HK.out.2.on hb34
 have HB34:=mkHid hb34
 refine hK.out _ _ ⟨k04.cell 0,k14.cell 0⟩ (fun hHeld=>?_)
 (try simp only[Act.put,sIx,sZ0,sZ1])
 clear hK K hp hb4 hb34 hc3 HRd HEa
 refine wpAnyH_ready (rs:=[5]) (by kernel_rfl) (by simp) (AllReadyH.cons rfl (fun K hK=>?_) AllReadyH.nil)
 go_simp
 go_wp2_with (go_at_call 76;refine hEa.mono ?_;rintro e y5 ⟨⟨b,rfl⟩,⟨v2,hk3,hsc⟩,hk1,hv5⟩)
 have HK5:=mkHid (And.intro hk3 hsc)
 have HV5:=mkHid hv5
 refine hK.out _ _ ⟨(hv5.t.blk k04 (by decide)).cell 0,hk1.cell 0⟩ (fun hHeld=>?_)
 (try simp only[Act.put,sIx,sZ0,sZ1])
 clear hK K hk1 hv5 hk3 hsc k04 k14
 refine wpAnyH_done (by kernel_rfl) ?_ _
 refine NoPanic.normal ?_
 have n5:=HK5.out.1.cell 0
 simp only[List.getElem?_cons_zero] at n5
 clear hEa hHeld
 go_wp2_with fail
 go_ret
 exact⟨⟨_,rfl,HK5.out.2⟩,(HW13.out.trans (HB34.out.mono HW13.out.size)).trans HV5.out.b⟩
end
section
open Go.RowKit
variable {fl:Nat}
theorem load_in13 (w:World)(g:Nat)(v:Value)(h:Blk w g 3 [v]):(loadVar 3 ⟨g,0,none⟩).run Tryz.prog w=.ok v w:=by
 have hc:w.cell? ⟨g,0,none⟩=some v:=h.cell 0
 simp[loadVar,go_sem,hc]
theorem results_ct13 {P:Program}{fn:Func}{p q:Tmp}{ty:TypeId}(h:fn.results=#[.cell p ty,.tmp q])(tmps:Array Value)(w:World)(g:Nat)(x:Value)
  (hp:tmps.getD p undef=.pointer (some ⟨g,0,none⟩)) (hl:(loadVar ty ⟨g,0,none⟩).run P w=.ok x w):
  (results fn tmps).run P w=.ok (.tuple #[x,tmps.getD q undef]) w:=by
 have q1:tmps[p]?.getD undef=.pointer (some ⟨g,0,none⟩):=by simpa using hp
 simp only[results,h]
 simp[Result.andThen,q1,asAddr,hl]
structure PvAt (W:World)(N S:Nat)(root:Int)(kv vv x:Value):Prop where
 t:Blk W N 26 [.pointer (some ⟨S,0,none⟩)]
 r:Blk W (N+1) 3 [.int .i64 root]
 k:Blk W (N+2) 33 [kv]
 v:Blk W (N+3) 33 [vv]
 n:Blk W (N+4) 3 [x]
theorem PvAt.on {W W':World}{N S:Nat}{root:Int}{kv vv x:Value}(g:PvAt W N S root kv vv x)(hb:Below W.heap.size W W'):PvAt W' N S root kv vv x:=⟨g.t.on hb,g.r.on hb,g.k.on hb,g.v.on hb,g.n.on hb⟩
theorem PvAt.ks {W W':World}{N S base:Nat}{root:Int}{kv vv x:Value}(g:PvAt W N S root kv vv x)(hk:KS base W W'):PvAt W' N S root kv vv x:=⟨hk.o.blk g.t (by decide),hk.o.blk g.r (by decide),hk.o.blk g.k (by decide),hk.o.blk g.v (by decide),hk.o.blk g.n (by decide)⟩
def PutR (w0:World)(S J P base m N:Nat)(t:Tl)(j:Jl)(l:List Et)(e:Et)(root:Int)(kv vv:Value)(w':World):Prop :=
 ∃t' root' S',SpAx w' S J P base t' j∧Tk t' j m S'∧TR t' j root' (putE13 l e.k e.v) S'∧t'.l.length≤t.l.length+7∧PvAt w' N S root kv vv (.int .i64 ((root':Nat):Int))∧Blk w' (N+5) 30 [.int .i64 0]∧KS base w0 w'
theorem codPut1 (w w0:World)(S J P base m N:Nat)(t:Tl)(j:Jl)(root:Nat)(l:List Et)(SS:List Int)(e:Et)(q:EtA)(h:SpAx w S J P base t j)(hk:Tk t j m SS)(ht:TR t j root l SS)(he:EtQ fl w e q)(hit:itemOk e.k e.v=true)(hroom:t.l.length+8≤48)(hl:l.length≤190)(hdisk:SS.length+3<j.p.n-51)(hK:KS base w0 w)(hN:w0.heap.size≤N)(hlo0:base≤w0.heap.size)
  (hg:PvAt w N S (root:Int) (.slice q.a e.k.length q.c) (.slice q.b e.v.length q.d) (.int .i64 0)) (hE:Blk w (N+5) 30 [.int .i64 0]) (hfl:fl≤base:=by omega):
  Calls Tryz.prog 42 #[.pointer (some ⟨N,0,none⟩),.pointer (some ⟨N+1,0,none⟩),.pointer (some ⟨N+2,0,none⟩),.pointer (some ⟨N+3,0,none⟩),.pointer (some ⟨N+4,0,none⟩)] w fun r w'=>r=.returned (.tuple #[])∧PutR w0 S J P base m N t j l e (root:Int) (.slice q.a e.k.length q.c) (.slice q.b e.v.length q.d) w':=by
 have HG:=pgPut w S J P base m t j root l SS e q h hk ht he hit hroom hl hdisk
 unfold gT etc2 PutT at HG
 have c0:w.cell? ⟨N,0,none⟩=some (.pointer (some ⟨S,0,none⟩)):=hg.t.cell 0
 have c1:w.cell? ⟨N+1,0,none⟩=some (.int .i64 (root:Int)):=hg.r.cell 0
 have c2:w.cell? ⟨N+2,0,none⟩=some (.slice q.a e.k.length q.c):=hg.k.cell 0
 have c3:w.cell? ⟨N+3,0,none⟩=some (.slice q.b e.v.length q.d):=hg.v.cell 0
 have HGv:=mkHid hg
 have HE:=mkHid hE
 have HK:=mkHid hK
 clear h hk ht he hg hE hK hit
 go_enter Tryz.func42,Tryz.ntmps42
 go_wp2_with fail
 refine HG.mono ?_
 rintro r y1 ⟨⟨t',root',S',rfl,hA1,hk1,ht1,hr1⟩,hks1⟩
 have g1:=HGv.out.ks hks1
 have e1:=hks1.o.blk HE.out (by decide)
 have a4:=g1.n.cell 0
 simp only[List.getElem?_cons_zero] at a4
 have f4:=g1.n.frozen 0
 have HG1:=mkHid g1
 have HE1:=mkHid e1
 have HA1:=mkHid (And.intro hA1 (And.intro hk1 ht1))
 have HK1:=mkHid (HK.out.trans hks1)
 clear HG hks1 g1 e1 hA1 hk1 ht1 HK
 go_wp2_with fail
 go_end0
 refine⟨rfl,t',root',S',HA1.out.1.keep13 ((KeepT.refl _ y1).set HG1.out.n (by decide) 0 _),HA1.out.2.1,HA1.out.2.2,hr1,⟨HG1.out.t.other _ _ (by show N≠N+4;omega),HG1.out.r.other _ _ (by show N+1≠N+4;omega),HG1.out.k.other _ _ (by show N+2≠N+4;omega),HG1.out.v.other _ _ (by show N+3≠N+4;omega),HG1.out.n.set 0 _⟩,HE1.out.other _ _ (by show N+5≠N+4;omega),?_⟩
 exact HK1.out.over (((Below.refl _ y1).mono HK1.out.o.size).setCell (p:=⟨N+4,0,none⟩) (by show w0.heap.size≤N+4;omega) _) hlo0
theorem put_begin (w:World)(S root:Nat)(kv vv:Value):∃Y0,Y0=((((w.alloc (.cells #[.pointer (some ⟨S,0,none⟩)] 26)).alloc (.cells #[.int .i64 (root:Int)] 3)).alloc (.cells #[kv] 33)).alloc (.cells #[vv] 33)).alloc (.cells #[.int .i64 0] 3)∧Below w.heap.size w Y0∧PvAt Y0 w.heap.size S (root:Int) kv vv (.int .i64 0)∧Y0.heap.size=w.heap.size+5:=by
 refine⟨_,rfl,(((((Below.refl _ w).alloc (Nat.le_refl _) _).alloc (by simp) _).alloc (by simp;omega) _).alloc (by simp;omega) _).alloc (by simp;omega) _,?_,by simp⟩
 exact⟨((((Blk.newAt w w.heap.size 26 _ [.pointer (some ⟨S,0,none⟩)] rfl rfl).alloc _).alloc _).alloc _).alloc _,(((Blk.newAt _ (w.heap.size+1) 3 _ [.int .i64 (root:Int)] (by simp) rfl).alloc _).alloc _).alloc _,((Blk.newAt _ (w.heap.size+2) 33 _ [kv] (by simp) rfl).alloc _).alloc _,(Blk.newAt _ (w.heap.size+3) 33 _ [vv] (by simp) rfl).alloc _,Blk.newAt _ (w.heap.size+4) 3 _ [.int .i64 0] (by simp) rfl⟩
theorem codPutNo (w:World)(S root:Nat)(ka va:Option Addr)(kn kc vn vc:Nat)(hno:(decide (1≤kn∧kn≤100)&&decide (kn+vn≤240))=false):
  Calls Tryz.prog 13 #[.pointer (some ⟨S,0,none⟩),.int .i64 (root:Int),.slice ka kn kc,.slice va vn vc] w fun e w'=>e=.returned (.tuple #[.int .i64 0,.int .i64 1])∧Below w.heap.size w w':=by
 have HIK:=codIsKey ka kn kc
 have hmf:=mkF0
 obtain⟨Y0,hY0,hB0,hG0,hs0⟩:=put_begin w S root (.slice ka kn kc) (.slice va vn vc)
 have HB0:=mkHid hB0
 have HG0:=mkHid hG0
 have c0:=hG0.t.cell 0
 have c2:=hG0.k.cell 0
 have c3:=hG0.v.cell 0
 have c4:=hG0.n.cell 0
 simp only[List.getElem?_cons_zero] at c0 c2 c3 c4
 have f4:=hG0.n.frozen 0
 have hY0':=hY0.symm
 clear hB0 hG0 hY0 hs0
 cases hk:decide (1≤kn∧kn≤100) with
 | false =>
  rw[hk] at HIK
  clear hno
  go_enter Tryz.func13,Tryz.ntmps13
  go_wp2_with (go_at_call 39;refine(HIK _).mono ?_;rintro e w8 ⟨rfl,hw8⟩;rw[hw8];clear hw8)
  have kV:Blk (Y0.setCell ⟨w.heap.size+4,0,none⟩ (.int .i64 0)) (w.heap.size+4) 3 [.int .i64 0]:=HG0.out.n.set 0 _
  refine bodyPost_ret (results_ct13 (P:=Tryz.prog) rfl _ _ (w.heap.size+4) _ rfl (load_in13 _ _ _ kV)) rfl ?_
  exact⟨rfl,HB0.out.setCell (p:=⟨w.heap.size+4,0,none⟩) (by show w.heap.size≤w.heap.size+4;omega) _⟩
 | true =>
  have hk2:=of_decide_eq_true hk
  rw[hk,Bool.true_and] at hno
  have HII:=fun W=>codIsItem ka va kn kc vn vc W (by omega)
  rw[hno] at HII
  rw[hk] at HIK
  clear hno hk2
  go_enter Tryz.func13,Tryz.ntmps13
  go_wp2_with (first|(go_at_call 39;refine(HIK _).mono ?_;rintro e w8 ⟨rfl,hw8⟩;rw[hw8];clear hw8)|(go_at_call 40;refine(HII _).mono ?_;rintro e w8 ⟨rfl,hw8⟩;rw[hw8];clear hw8))
  have kV:Blk (Y0.setCell ⟨w.heap.size+4,0,none⟩ (.int .i64 0)) (w.heap.size+4) 3 [.int .i64 0]:=HG0.out.n.set 0 _
  refine bodyPost_ret (results_ct13 (P:=Tryz.prog) rfl _ _ (w.heap.size+4) _ rfl (load_in13 _ _ _ kV)) rfl ?_
  exact⟨rfl,HB0.out.setCell (p:=⟨w.heap.size+4,0,none⟩) (by show w.heap.size≤w.heap.size+4;omega) _⟩
theorem codPut13 (w:World)(S J P base m:Nat)(t:Tl)(j:Jl)(root:Nat)(l:List Et)(SS:List Int)(e:Et)(q:EtA)(h:SpAx w S J P base t j)(hk:Tk t j m SS)(ht:TR t j root l SS)(he:EtQ fl w e q)(hit:itemOk e.k e.v=true)(hroom:t.l.length+8≤48)(hl:l.length≤190)(hdisk:SS.length+3<j.p.n-51)(hfl:fl≤base:=by omega):
  Calls Tryz.prog 13 #[.pointer (some ⟨S,0,none⟩),.int .i64 (root:Int),.slice q.a e.k.length q.c,.slice q.b e.v.length q.d] w fun r w'=>(∃t' root' S',r=.returned (.tuple #[.int .i64 ((root':Nat):Int),.int .i64 0])∧SpAx w' S J P base t' j∧Tk t' j m S'∧TR t' j root' (putE13 l e.k e.v) S'∧t'.l.length≤t.l.length+7)∧KS base w w':=by
 have hlo:=spcOK.lo h
 have hif:=item_facts hit
 have HIK:=codIsKey q.a e.k.length q.c
 have HII:=fun W=>codIsItem q.a q.b e.k.length q.c e.v.length q.d W (by omega)
 rw[decide_eq_true (show 1≤e.k.length∧e.k.length≤100 from ⟨hif.1,hif.2.1⟩)] at HIK
 rw[decide_eq_true (show e.k.length+e.v.length≤240 from hif.2.2)] at HII
 have hmf:=mkF0
 obtain⟨Y0,hY0,hB0,hG0,hs0⟩:=put_begin w S root (.slice q.a e.k.length q.c) (.slice q.b e.v.length q.d)
 have hA:=(Below.refl _ Y0).alloc (Nat.le_refl _) (.cells #[.int .i64 0] 30)
 have hBA:=hB0.trans (hA.mono hB0.size)
 have hEA:Blk (Y0.alloc (.cells #[.int .i64 0] 30)) (w.heap.size+5) 30 [.int .i64 0]:=Blk.newAt Y0 (w.heap.size+5) 30 _ [.int .i64 0] hs0 rfl
 have HGd:=guardYes 42 #[.pointer (some ⟨w.heap.size,0,none⟩),.pointer (some ⟨w.heap.size+1,0,none⟩),.pointer (some ⟨w.heap.size+2,0,none⟩),.pointer (some ⟨w.heap.size+3,0,none⟩),.pointer (some ⟨w.heap.size+4,0,none⟩)] Y0
  (PutR w S J P base m w.heap.size t j l e (root:Int) (.slice q.a e.k.length q.c) (.slice q.b e.v.length q.d))
  (fun W ⟨_,_,_,_,_,_,_,_,hE,_⟩=>by rw[hs0];exact hE) (fun args W=>by simp[callFunc,Tryz.func42];rfl)
  (codPut1 _ w S J P base m w.heap.size t j root l SS e q (SpAx.keep h (KeepT.of_below hBA)) hk ht (he.below hBA) hit hroom hl hdisk (KS.of_below hBA hlo) (Nat.le_refl _) hlo (hG0.on hA) hEA)
 have c0:=hG0.t.cell 0
 have c2:=hG0.k.cell 0
 have c3:=hG0.v.cell 0
 have c4:=hG0.n.cell 0
 simp only[List.getElem?_cons_zero] at c0 c2 c3 c4
 have f4:=hG0.n.frozen 0
 have hY0':=hY0.symm
 clear h hk ht he hit hB0 hG0 hY0 hA hBA hEA hif
 go_enter Tryz.func13,Tryz.ntmps13
 go_wp2_with (first|(go_at_call 39;refine(HIK _).mono ?_;rintro e w8 ⟨rfl,hw8⟩;rw[hw8];clear hw8)|(go_at_call 40;refine(HII _).mono ?_;rintro e w8 ⟨rfl,hw8⟩;rw[hw8];clear hw8))
 refine HGd.mono ?_
 rintro r y1 ⟨w1,⟨t',root',S',hA1,hk1,ht1,hr1,hg1,hE1,hks1⟩,rfl,hy1⟩
 rw[hs0] at hy1
 have kN:Blk y1 (w.heap.size+4) 3 [.int .i64 ((root':Nat):Int)]:=by rw[hy1];exact hg1.n.other _ _ (by show w.heap.size+4≠w.heap.size+5;omega)
 have hA2:SpAx y1 S J P base t' j:=by rw[hy1];exact hA1.keep13 ((KeepT.refl _ w1).set hE1 (by decide) 0 _)
 have hk2:KS base w y1:=by rw[hy1];exact hks1.over (((Below.refl _ w1).mono hks1.o.size).setCell (p:=⟨w.heap.size+5,0,none⟩) (by show w.heap.size≤w.heap.size+5;omega) _) hlo
 have HR:=mkHid (And.intro hA2 (And.intro hk1 (And.intro ht1 (And.intro hr1 hk2))))
 have HKN:=mkHid kN
 have d4:=kN.cell 0
 have q4:=kN.frozen 0
 simp only[List.getElem?_cons_zero] at d4
 clear HGd hg1 hE1 hks1 hA1 hk1 ht1 hr1 hA2 hk2 kN hy1 c0 c2 c3 c4 f4
 go_wp2_with fail
 have kN2:=HKN.out.set 0 (.int .i64 ((root':Nat):Int))
 refine bodyPost_ret (results_ct13 (P:=Tryz.prog) rfl _ _ (w.heap.size+4) _ rfl (load_in13 _ _ _ kN2)) rfl ?_
 obtain⟨hA2,hk1,ht1,hr1,hk2⟩:=HR.out
 exact⟨⟨t',root',S',rfl,hA2.keep13 ((KeepT.refl _ y1).set HKN.out (by decide) 0 _),hk1,ht1,hr1⟩,hk2.over (((Below.refl _ y1).mono hk2.o.size).setCell (p:=⟨w.heap.size+4,0,none⟩) (by show w.heap.size≤w.heap.size+4;omega) _) hlo⟩
end
end Go.Proofs.YtpecobmfabmpkaaGreatDoor
