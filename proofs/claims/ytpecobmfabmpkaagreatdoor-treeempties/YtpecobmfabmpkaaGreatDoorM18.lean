/- PvC DelA DelI -/
import Derived.Test.YtpecobmfabmpkaaGreatDoorM14
set_option maxRecDepth 20000
set_option maxHeartbeats 4000000
namespace Go.Proofs.YtpecobmfabmpkaaGreatDoor
section
open Go.RowKit
abbrev SlV:=Option Addr × Nat × Nat
structure PrV where
 k:Int
 a1:Int
 l1:Int
 e1:SlV
 k1:SlV
 a2:Int
 l2:Int
 e2:SlV
 k2:SlV
def slv13 (s:SlV):Value:=.slice s.1 s.2.1 s.2.2
def prc (x:PrV):List Value:=[.int .i64 x.k,.int .i64 x.a1,.int .i64 x.l1,slv13 x.e1,slv13 x.k1,.int .i64 x.a2,.int .i64 x.l2,slv13 x.e2,slv13 x.k2]
abbrev rtP13:RT PrV:=⟨212,215,9,136,.agg #[.int .i64 0,.int .i64 0,.int .i64 0,.slice none 0 0,.slice none 0 0,.int .i64 0,.int .i64 0,.slice none 0 0,.slice none 0 0],prc⟩
theorem okP13:RtOK rtP13 :=
 ⟨Tryz.underlying212,by kernel_rfl,rfl,by intro u hu;simp[Value.cells] at hu;rcases hu with rfl|rfl|rfl|rfl<;>rfl,by decide,by decide,fun _=>rfl,by
  intro x u hu
  simp only[prc,List.mem_cons,List.not_mem_nil,or_false] at hu
  rcases hu with rfl|rfl|rfl|rfl|rfl|rfl|rfl|rfl|rfl<;>rfl⟩
def PrOk (w:World)(base:Nat)(ks:List Nat)(lf:Nat→List Et)(i s:Nat)(ke kk:SlV)(x:PrV):Prop :=
 (∃(i1 s1:Nat) (e1 k1:SlV) (v:Value) (L:List Eq3),i1+1=i∧ks[i1]?=some s1∧x=⟨(i1:Int),(s1:Int),0,e1,k1,(s:Int),0,ke,kk⟩∧PgO w base (s1:Int) ⟨0,lf i1,[]⟩ v (slv13 e1) (slv13 k1) L) ∨
 (∃(s2:Nat) (e2 k2:SlV) (v:Value) (L:List Eq3),ks[i+1]?=some s2∧x=⟨(i:Int),(s:Int),0,ke,kk,(s2:Int),0,e2,k2⟩∧PgO w base (s2:Int) ⟨0,lf (i+1),[]⟩ v (slv13 e2) (slv13 k2) L)
theorem own_low13 {w:World}{base base':Nat}{at_:Int}{p:Pg}{v ve vk:Value}{L:List Eq3}(h:PgO w base at_ p v ve vk L)(hb:base'≤base):PgO w base' at_ p v ve vk L:=⟨h.v,own_base h.e hb,own_base h.k hb,h.es,h.x⟩
theorem PrOk.below {w w':World}{base:Nat}{ks:List Nat}{lf:Nat→List Et}{i s:Nat}{ke kk:SlV}{x:PrV}(h:PrOk w base ks lf i s ke kk x)(hb:Below w.heap.size w w'):PrOk w' base ks lf i s ke kk x:=by
 rcases h with⟨i1,s1,e1,k1,v,L,h1,h2,h3,h4⟩|⟨s2,e2,k2,v,L,h2,h3,h4⟩
 ·exact .inl ⟨i1,s1,e1,k1,v,L,h1,h2,h3,h4.below hb⟩
 ·exact .inr ⟨s2,e2,k2,v,L,h2,h3,h4.below hb⟩
theorem PrOk.keep {w w':World}{base:Nat}{ks:List Nat}{lf:Nat→List Et}{i s:Nat}{ke kk:SlV}{x:PrV}(h:PrOk w base ks lf i s ke kk x)(hb:KeepO UE w w'):PrOk w' base ks lf i s ke kk x:=by
 rcases h with⟨i1,s1,e1,k1,v,L,h1,h2,h3,h4⟩|⟨s2,e2,k2,v,L,h2,h3,h4⟩
 ·exact .inl ⟨i1,s1,e1,k1,v,L,h1,h2,h3,h4.keep hb⟩
 ·exact .inr ⟨s2,e2,k2,v,L,h2,h3,h4.keep hb⟩
def BesPost (w:World)(ks:List Nat)(lf:Nat→List Et)(i s:Nat)(ke kk:SlV)(e:Ending)(w':World):Prop:=(∃v xs,e=.returned v∧OwnRw rtP13 w' w.heap.size v xs∧xs.length≤2∧∀x∈xs,PrOk w' w.heap.size ks lf i s ke kk x)∧Below w.heap.size w w'
theorem codBeside (w:World)(S J P base m:Nat)(t:Tl)(j:Jl)(x0:Int)(pa ka:Option Addr)(pn pc n kc i s:Nat)(ke kk:SlV)(ks:List Nat)(lf:Nat→List Et)(h:SpAx w S J P base t j)(hf:Fit t j m)(hz:RdZ w (.slice ka n kc) ks)(hl:KidL t j ks lf)(hks:ks.length≤1000)(hi:i<ks.length):
  Calls Tryz.prog 151 #[gT S,.agg #[.int .i64 x0,.int .i64 1,.slice pa pn pc,.slice ka n kc],.int .i64 (i:Int),.agg #[.int .i64 (s:Int),.int .i64 0,slv13 ke,slv13 kk]] w (BesPost w ks lf i s ke kk):=by
 have hn:n=ks.length:=by obtain⟨_,_,e1,_⟩:=hz;injection e1
 unfold slv13 gT
 have W1:Below w.heap.size w (((w.alloc (.cells #[.pointer (some ⟨S,0,none⟩)] 87)).alloc (.cells #[.int .i64 x0,.int .i64 1,.slice pa pn pc,.slice ka n kc] 133)).alloc (.cells #[.int .i64 (s:Int),.int .i64 0,.slice ke.1 ke.2.1 ke.2.2,.slice kk.1 kk.2.1 kk.2.2] 133)):=(((Below.refl _ w).alloc (Nat.le_refl _) _).alloc (by simp) _).alloc (by simp;omega) _
 have k0:Blk (((w.alloc (.cells #[.pointer (some ⟨S,0,none⟩)] 87)).alloc (.cells #[.int .i64 x0,.int .i64 1,.slice pa pn pc,.slice ka n kc] 133)).alloc (.cells #[.int .i64 (s:Int),.int .i64 0,.slice ke.1 ke.2.1 ke.2.2,.slice kk.1 kk.2.1 kk.2.2] 133)) w.heap.size 87 [.pointer (some ⟨S,0,none⟩)]:=((Blk.newAt w w.heap.size 87 #[.pointer (some ⟨S,0,none⟩)] [.pointer (some ⟨S,0,none⟩)] rfl rfl).alloc _).alloc _
 have k1:Blk (((w.alloc (.cells #[.pointer (some ⟨S,0,none⟩)] 87)).alloc (.cells #[.int .i64 x0,.int .i64 1,.slice pa pn pc,.slice ka n kc] 133)).alloc (.cells #[.int .i64 (s:Int),.int .i64 0,.slice ke.1 ke.2.1 ke.2.2,.slice kk.1 kk.2.1 kk.2.2] 133)) (w.heap.size+1) 133 [.int .i64 x0,.int .i64 1,.slice pa pn pc,.slice ka n kc]:=(Blk.newAt _ (w.heap.size+1) 133 _ _ (by simp) rfl).alloc _
 have k2:Blk (((w.alloc (.cells #[.pointer (some ⟨S,0,none⟩)] 87)).alloc (.cells #[.int .i64 x0,.int .i64 1,.slice pa pn pc,.slice ka n kc] 133)).alloc (.cells #[.int .i64 (s:Int),.int .i64 0,.slice ke.1 ke.2.1 ke.2.2,.slice kk.1 kk.2.1 kk.2.2] 133)) (w.heap.size+2) 133 [.int .i64 (s:Int),.int .i64 0,.slice ke.1 ke.2.1 ke.2.2,.slice kk.1 kk.2.1 kk.2.2]:=Blk.newAt _ (w.heap.size+2) 133 _ _ (by simp) rfl
 generalize hW:((w.alloc (.cells #[.pointer (some ⟨S,0,none⟩)] 87)).alloc (.cells #[.int .i64 x0,.int .i64 1,.slice pa pn pc,.slice ka n kc] 133)).alloc (.cells #[.int .i64 (s:Int),.int .i64 0,.slice ke.1 ke.2.1 ke.2.2,.slice kk.1 kk.2.1 kk.2.2] 133)=Y0 at *
 have hA0:=SpAx.keep h (KeepT.of_below W1)
 have hz0:RdZ Y0 (.slice ka n kc) ks:=hz.keep (KeepO.of_below W1)
 have HKd:Hid (∀(W:World) (i2 s2:Nat),Below Y0.heap.size Y0 W→ks[i2]?=some s2→Calls Tryz.prog 72 #[.agg #[.pointer (some ⟨S,0,none⟩)],.agg #[.int .i64 x0,.int .i64 1,.slice pa pn pc,.slice ka n kc],.int .i64 ((i2:Nat):Int)] W fun e w'=>(∃v ve vk L,e=.returned v∧PgO w' W.heap.size (s2:Int) ⟨0,lf i2,[]⟩ v ve vk L)∧Below W.heap.size W w'):=fun W i2 s2 hW hi2=>by
  obtain⟨f1,f2,f3,_⟩:=hl i2 s2 hi2
  exact pgKid W S J P base m t j x0 1 (.slice pa pn pc) (.slice ka n kc) ks i2 s2 ⟨0,lf i2,[]⟩ (SpAx.keep hA0 (KeepT.of_below hW)) hf (hz0.keep (KeepO.of_below hW)) hi2 f1 f2 f3 rfl (by omega)
 have HCt:Hid (∀W,KeepO UE Y0 W→Blk W w.heap.size 87 [.pointer (some ⟨S,0,none⟩)]→Blk W (w.heap.size+1) 133 [.int .i64 x0,.int .i64 1,.slice pa pn pc,.slice ka n kc]→Blk W (w.heap.size+2) 133 [.int .i64 (s:Int),.int .i64 0,.slice ke.1 ke.2.1 ke.2.2,.slice kk.1 kk.2.1 kk.2.2]→W.cell? ⟨w.heap.size,0,none⟩=some (.pointer (some ⟨S,0,none⟩))∧W.cell? ⟨w.heap.size+1,0,none⟩=some (.int .i64 x0)∧W.cell? ⟨w.heap.size+1,1,none⟩=some (.int .i64 1)∧W.cell? ⟨w.heap.size+1,2,none⟩=some (.slice pa pn pc)∧W.cell? ⟨w.heap.size+1,3,none⟩=some (.slice ka n kc)∧W.cell? ⟨w.heap.size+2,0,none⟩=some (.int .i64 (s:Int))∧W.cell? ⟨w.heap.size+2,1,none⟩=some (.int .i64 0)∧W.cell? ⟨w.heap.size+2,2,none⟩=some (.slice ke.1 ke.2.1 ke.2.2)∧W.cell? ⟨w.heap.size+2,3,none⟩=some (.slice kk.1 kk.2.1 kk.2.2)):=fun W _ b0 b1 b2 =>
  ⟨b0.cell 0,b1.cell 0,b1.cell 1,b1.cell 2,b1.cell 3,b2.cell 0,b2.cell 1,b2.cell 2,b2.cell 3⟩
 have HB0:=mkHid k0
 have HB1:=mkHid k1
 have HB2:=mkHid k2
 have HW1:=mkHid W1
 have c0:=k0.cell 0
 have d3:=k1.cell 3
 simp only[gZ0,gZ1] at c0 d3
 have hbsz:w.heap.size≤Y0.heap.size:=W1.size
 have HHi:=mkHid hi
 have hn1000:n≤1000:=by omega
 have HN:=mkHid hn
 have hin:i<n:=by rw[hn];exact hi
 clear h hf hz hl hA0 hz0 k0 k1 k2 W1 hn hi hks
 go_enter Tryz.func151,Tryz.ntmps151
 go_upto_region 2 with fail
 (try rw[hW])
 clear hW
 rcases Nat.eq_zero_or_pos i with hi0|hi0
 ·have hlt:decide ((0:Int)<(i:Int))=false:=decide_eq_false (by omega)
  have hlt0:¬0<i:=by omega
  have hV1:OwnRw rtP13 Y0 Y0.heap.size (.slice none 0 0) []:=OwnRw.nil _ _ _
  obtain⟨V1,hVe⟩:∃V1,V1=Value.slice none 0 0:=⟨_,rfl⟩
  rw[←hVe] at hV1
  clear hi0
  go_upto_region 4 with fail
  simp only[←hVe]
  clear hVe
  have hP4:=(HB1.out.on (Below.refl Y0.heap.size Y0)).cell 3
  simp only[gZ0,gZ1] at hP4
  rcases Nat.lt_or_ge (i+1) n with hj|hj
  ·have hlj:decide ((i:Int)+1<(n:Int))=true:=decide_eq_true (by omega)
   have hwk:IntKind.i64.wrap ((i:Int)+1)=(i:Int)+1:=wrapi64_in _ (by omega) (by omega)
   obtain⟨sb,hsb⟩:∃sb,ks[i+1]?=some sb:=⟨ks[i+1]'(by have:=HN.out;omega),List.getElem?_eq_getElem _⟩
   go_upto_region 5 with fail
   have hyD:Below Y0.heap.size Y0 Y0.drew:=((Below.refl Y0.heap.size Y0)).trans ((Below.refl _ Y0).drew)
   have HSt:=HCt.out Y0.drew (KeepO.of_below hyD) (HB0.out.on hyD) (HB1.out.on hyD) (HB2.out.on hyD)
   refine lk0 (fun W=>W.cell? ⟨w.heap.size,0,none⟩=some (.pointer (some ⟨S,0,none⟩))∧W.cell? ⟨w.heap.size+1,0,none⟩=some (.int .i64 x0)∧W.cell? ⟨w.heap.size+1,1,none⟩=some (.int .i64 1)∧W.cell? ⟨w.heap.size+1,2,none⟩=some (.slice pa pn pc)∧W.cell? ⟨w.heap.size+1,3,none⟩=some (.slice ka n kc)∧W.cell? ⟨w.heap.size+2,0,none⟩=some (.int .i64 (s:Int))∧W.cell? ⟨w.heap.size+2,1,none⟩=some (.int .i64 0)∧W.cell? ⟨w.heap.size+2,2,none⟩=some (.slice ke.1 ke.2.1 ke.2.2)∧W.cell? ⟨w.heap.size+2,3,none⟩=some (.slice kk.1 kk.2.1 kk.2.2)) 11 HSt (fun hHeld=>?_)
   refine lkT 30 0 (V1) rfl (Or.inl ⟨by rfl,?_⟩) hHeld ?_
   ·intro w hSw;go_simp
   (try simp only[Act.put,sIx,sZ0,sZ1])
   refine lkT 31 1 (.int .i64 (i:Int)) rfl (Or.inl ⟨by rfl,?_⟩) hHeld ?_
   ·intro w hSw;go_simp
   (try simp only[Act.put,sIx,sZ0,sZ1])
   refine lkT 32 2 (.agg #[.int .i64 (s:Int),.int .i64 0,.slice ke.1 ke.2.1 ke.2.2,.slice kk.1 kk.2.1 kk.2.2]) rfl (Or.inl ⟨by rfl,?_⟩) hHeld ?_
   ·intro w hSw;obtain⟨s0,s1,s2,s3,s4,s5,s6,s7,s8⟩:=hSw;go_simp
   (try simp only[Act.put,sIx,sZ0,sZ1])
   refine lkT 33 3 (.agg #[.pointer (some ⟨S,0,none⟩)]) rfl (Or.inl ⟨by rfl,?_⟩) hHeld ?_
   ·intro w hSw;obtain⟨s0,s1,s2,s3,s4,s5,s6,s7,s8⟩:=hSw;go_simp
   (try simp only[Act.put,sIx,sZ0,sZ1])
   refine lkT 34 4 (.agg #[.int .i64 x0,.int .i64 1,.slice pa pn pc,.slice ka n kc]) rfl (Or.inl ⟨by rfl,?_⟩) hHeld ?_
   ·intro w hSw;obtain⟨s0,s1,s2,s3,s4,s5,s6,s7,s8⟩:=hSw;go_simp
   (try simp only[Act.put,sIx,sZ0,sZ1])
   refine lkT 35 5 (.int .i64 (i:Int)) rfl (Or.inl ⟨by rfl,?_⟩) hHeld ?_
   ·intro w hSw;go_simp
   (try simp only[Act.put,sIx,sZ0,sZ1])
   refine lkT 36 6 (.int .i64 ((i:Int)+1)) rfl (Or.inl ⟨by rfl,?_⟩) hHeld ?_
   ·intro w hSw;go_simp<;>(try rw[hwk])
   (try simp only[Act.put,sIx,sZ0,sZ1])
   have hKd:=HKd.out _ (i+1) _ hyD hsb
   rw[show (((i+1:Nat)):Int)=(i:Int)+1 from rfl] at hKd
   refine lk1 7 rfl (fun K hK=>?_)
   go_simp
   refine hKd.mono ?_
   rintro r yb ⟨⟨vb,veb,vkb,Lb,rfl,hpb⟩,hbb⟩
   obtain⟨eab,ecb,kab,kcb,hveb,hvkb⟩:=hpb.r.forms
   subst hveb hvkb
   have hvvb:=hpb.v
   subst hvvb
   generalize (Pg.mk 0 (lf (i+1)) []).es.length=enb at hpb ⊢
   generalize (Pg.mk 0 (lf (i+1)) []).ks.length=knb at hpb ⊢
   unfold pgc
   go_simp
   have hyA:=hyD.trans (hbb.mono hyD.size)
   refine hK.out _ _ (HCt.out _ (KeepO.of_below hyA) (HB0.out.on hyA) (HB1.out.on hyA) (HB2.out.on hyA)) (fun hHeld=>?_)
   (try simp only[Act.put,sIx,sZ0,sZ1])
   clear hK K hKd
   refine lkT 38 8 (.agg #[.int .i64 (i:Int),.int .i64 (s:Int),.int .i64 0,.slice ke.1 ke.2.1 ke.2.2,.slice kk.1 kk.2.1 kk.2.2,.int .i64 (sb:Int),.int .i64 0,.slice eab enb ecb,.slice kab knb kcb]) rfl (Or.inl ⟨by rfl,?_⟩) hHeld ?_
   ·intro w hSw;go_simp
   (try simp only[Act.put,sIx,sZ0,sZ1])
   refine lk1 9 rfl (fun K hK=>?_)
   go_simp
   have kBb:Blk (yb.alloc (.cells (prc (⟨(i:Int),(s:Int),0,ke,kk,(sb:Int),0,(eab,enb,ecb),(kab,knb,kcb)⟩:PrV)).toArray 215)) yb.heap.size 215 (prc (⟨(i:Int),(s:Int),0,ke,kk,(sb:Int),0,(eab,enb,ecb),(kab,knb,kcb)⟩:PrV)):=Blk.new yb _ _
   have hyB:=hyA.alloc hyA.size (.cells (prc (⟨(i:Int),(s:Int),0,ke,kk,(sb:Int),0,(eab,enb,ecb),(kab,knb,kcb)⟩:PrV)).toArray 215)
   refine hK.out _ _ (HCt.out _ (KeepO.of_below hyB) (HB0.out.on hyB) (HB1.out.on hyB) (HB2.out.on hyB)) (fun hHeld=>?_)
   (try simp only[Act.put,sIx,sZ0,sZ1])
   clear hK K
   have hyC:Below yb.heap.size yb (yb.alloc (.cells (prc (⟨(i:Int),(s:Int),0,ke,kk,(sb:Int),0,(eab,enb,ecb),(kab,knb,kcb)⟩:PrV)).toArray 215)):=(Below.refl _ yb).alloc (Nat.le_refl _) _
   have hOw:OwnRw rtP13 (yb.alloc (.cells (prc (⟨(i:Int),(s:Int),0,ke,kk,(sb:Int),0,(eab,enb,ecb),(kab,knb,kcb)⟩:PrV)).toArray 215)) Y0.heap.size V1 []:=(((hV1).on (Below.refl _ Y0).drew).on hbb).on hyC
   refine lk1 10 rfl (fun K hK=>?_)
   refine step_appRw okP13 (yb.alloc (.cells (prc (⟨(i:Int),(s:Int),0,ke,kk,(sb:Int),0,(eab,enb,ecb),(kab,knb,kcb)⟩:PrV)).toArray 215)) rfl _ _ rfl Y0.heap.size V1 [] rfl hOw (some ⟨yb.heap.size,0,none⟩) 1 1 [(⟨(i:Int),(s:Int),0,ke,kk,(sb:Int),0,(eab,enb,ecb),(kab,knb,kcb)⟩:PrV)] rfl kBb.srcC (by simp) hyB.size 40 rfl ?_
   intro Vb zb hob hgb
   have hTb:KeepT [215] _ zb:=KeepT.grownC hOw hgb
   have hbzb:=(Below.refl Y0.heap.size (yb.alloc (.cells (prc (⟨(i:Int),(s:Int),0,ke,kk,(sb:Int),0,(eab,enb,ecb),(kab,knb,kcb)⟩:PrV)).toArray 215))).grown hgb hyB.size (fun k e=>(hOw.lt e).1)
   have hbyb:=hyB.trans hbzb
   have hPkb:KeepO UE yb zb:=(KeepO.of_below hyC).trans (KeepO.ofT hTb (by decide))
   have hPob:PrOk zb w.heap.size ks lf i s ke kk (⟨(i:Int),(s:Int),0,ke,kk,(sb:Int),0,(eab,enb,ecb),(kab,knb,kcb)⟩:PrV):=.inr ⟨sb,(eab,enb,ecb),(kab,knb,kcb),_,Lb,hsb,rfl,own_low13 (hpb.keep hPkb) (Nat.le_trans hbsz hyD.size)⟩
   refine hK.out _ _ (HCt.out _ (KeepO.of_below hbyb) (HB0.out.on hbyb) (HB1.out.on hbyb) (HB2.out.on hbyb)) (fun hHeld=>?_)
   (try simp only[Act.put,sIx,sZ0,sZ1])
   clear hK K
   refine lkZ rfl (fun K hK=>?_)
   go_simp
   refine hK.out _ _ ?_
   (try simp only[Exit.then])
   (try simp only[Act.put,sIx,sZ0,sZ1])
   clear hK K hHeld
   have HF:=mkHid (And.intro hob (And.intro hPob (And.intro hbyb hPkb)))
   have hPkz:KeepO UE Y0 zb:=(KeepO.of_below ((Below.refl _ Y0).drew.trans hbb)).trans hPkb
   clear hOw hob hPob hbyb hTb hbzb hgb kBb hyA hyB hyC hyD HSt
   go_wp2_with fail
   go_ret
   refine⟨⟨_,_,rfl,HF.out.1.base hbsz,by simp,fun x hx=>?_⟩,HW1.out.trans (HF.out.2.2.1.mono hbsz)⟩
   rw[List.mem_singleton.1 hx];exact HF.out.2.1
  ·have hlj:decide ((i:Int)+1<(n:Int))=false:=decide_eq_false (by omega)
   have hwk:IntKind.i64.wrap ((i:Int)+1)=(i:Int)+1:=wrapi64_in _ (by omega) (by omega)
   have HF:=mkHid (And.intro (hV1) ((Below.refl Y0.heap.size Y0)))
   go_wp2_with fail
   go_ret
   refine⟨⟨_,_,rfl,HF.out.1.base hbsz,by simp,fun x hx=>?_⟩,HW1.out.trans (HF.out.2.mono hbsz)⟩
   cases hx
 ·obtain⟨i1,hi1⟩:∃i1,i1+1=i:=⟨i-1,by omega⟩
  have hlt:decide ((0:Int)<(i:Int))=true:=decide_eq_true (by omega)
  have hwi:IntKind.i64.wrap ((i:Int)-1)=(i1:Int):=by rw[wrapi64_in _ (by omega) (by omega)];omega
  obtain⟨sa,hsa⟩:∃sa,ks[i1]?=some sa:=⟨ks[i1]'(by have:=HN.out;omega),List.getElem?_eq_getElem _⟩
  have hV0:OwnRw rtP13 Y0 Y0.heap.size (.slice none 0 0) []:=OwnRw.nil _ _ _
  obtain⟨V0,hVe⟩:∃V0,V0=Value.slice none 0 0:=⟨_,rfl⟩
  rw[←hVe] at hV0
  go_upto_region 3 with fail
  simp only[←hVe]
  clear hVe
  have hyD:Below Y0.heap.size Y0 Y0.drew:=((Below.refl Y0.heap.size Y0)).trans ((Below.refl _ Y0).drew)
  have HSt:=HCt.out Y0.drew (KeepO.of_below hyD) (HB0.out.on hyD) (HB1.out.on hyD) (HB2.out.on hyD)
  refine lk0 (fun W=>W.cell? ⟨w.heap.size,0,none⟩=some (.pointer (some ⟨S,0,none⟩))∧W.cell? ⟨w.heap.size+1,0,none⟩=some (.int .i64 x0)∧W.cell? ⟨w.heap.size+1,1,none⟩=some (.int .i64 1)∧W.cell? ⟨w.heap.size+1,2,none⟩=some (.slice pa pn pc)∧W.cell? ⟨w.heap.size+1,3,none⟩=some (.slice ka n kc)∧W.cell? ⟨w.heap.size+2,0,none⟩=some (.int .i64 (s:Int))∧W.cell? ⟨w.heap.size+2,1,none⟩=some (.int .i64 0)∧W.cell? ⟨w.heap.size+2,2,none⟩=some (.slice ke.1 ke.2.1 ke.2.2)∧W.cell? ⟨w.heap.size+2,3,none⟩=some (.slice kk.1 kk.2.1 kk.2.2)) 12 HSt (fun hHeld=>?_)
  refine lkT 12 0 (V0) rfl (Or.inl ⟨by rfl,?_⟩) hHeld ?_
  ·intro w hSw;go_simp
  (try simp only[Act.put,sIx,sZ0,sZ1])
  refine lkT 13 1 (.int .i64 (i:Int)) rfl (Or.inl ⟨by rfl,?_⟩) hHeld ?_
  ·intro w hSw;go_simp
  (try simp only[Act.put,sIx,sZ0,sZ1])
  refine lkT 14 2 (.int .i64 (i1:Int)) rfl (Or.inl ⟨by rfl,?_⟩) hHeld ?_
  ·intro w hSw;go_simp<;>(try rw[hwi])
  (try simp only[Act.put,sIx,sZ0,sZ1])
  refine lkT 15 3 (.agg #[.pointer (some ⟨S,0,none⟩)]) rfl (Or.inl ⟨by rfl,?_⟩) hHeld ?_
  ·intro w hSw;obtain⟨s0,s1,s2,s3,s4,s5,s6,s7,s8⟩:=hSw;go_simp
  (try simp only[Act.put,sIx,sZ0,sZ1])
  refine lkT 16 4 (.agg #[.int .i64 x0,.int .i64 1,.slice pa pn pc,.slice ka n kc]) rfl (Or.inl ⟨by rfl,?_⟩) hHeld ?_
  ·intro w hSw;obtain⟨s0,s1,s2,s3,s4,s5,s6,s7,s8⟩:=hSw;go_simp
  (try simp only[Act.put,sIx,sZ0,sZ1])
  refine lkT 17 5 (.int .i64 (i:Int)) rfl (Or.inl ⟨by rfl,?_⟩) hHeld ?_
  ·intro w hSw;go_simp
  (try simp only[Act.put,sIx,sZ0,sZ1])
  refine lkT 18 6 (.int .i64 (i1:Int)) rfl (Or.inl ⟨by rfl,?_⟩) hHeld ?_
  ·intro w hSw;go_simp<;>(try rw[hwi])
  (try simp only[Act.put,sIx,sZ0,sZ1])
  refine lkT 20 8 (.agg #[.int .i64 (s:Int),.int .i64 0,.slice ke.1 ke.2.1 ke.2.2,.slice kk.1 kk.2.1 kk.2.2]) rfl (Or.inl ⟨by rfl,?_⟩) hHeld ?_
  ·intro w hSw;obtain⟨s0,s1,s2,s3,s4,s5,s6,s7,s8⟩:=hSw;go_simp
  (try simp only[Act.put,sIx,sZ0,sZ1])
  have hKd:=HKd.out _ i1 _ hyD hsa
  refine lk1 7 rfl (fun K hK=>?_)
  go_simp
  refine hKd.mono ?_
  rintro r ya ⟨⟨va,vea,vka,La,rfl,hpa⟩,hba⟩
  obtain⟨eaa,eca,kaa,kca,hvea,hvka⟩:=hpa.r.forms
  subst hvea hvka
  have hvva:=hpa.v
  subst hvva
  generalize (Pg.mk 0 (lf i1) []).es.length=ena at hpa ⊢
  generalize (Pg.mk 0 (lf i1) []).ks.length=kna at hpa ⊢
  unfold pgc
  go_simp
  have hyA:=hyD.trans (hba.mono hyD.size)
  refine hK.out _ _ (HCt.out _ (KeepO.of_below hyA) (HB0.out.on hyA) (HB1.out.on hyA) (HB2.out.on hyA)) (fun hHeld=>?_)
  (try simp only[Act.put,sIx,sZ0,sZ1])
  clear hK K hKd
  refine lkT 21 9 (.agg #[.int .i64 (i1:Int),.int .i64 (sa:Int),.int .i64 0,.slice eaa ena eca,.slice kaa kna kca,.int .i64 (s:Int),.int .i64 0,.slice ke.1 ke.2.1 ke.2.2,.slice kk.1 kk.2.1 kk.2.2]) rfl (Or.inl ⟨by rfl,?_⟩) hHeld ?_
  ·intro w hSw;go_simp
  (try simp only[Act.put,sIx,sZ0,sZ1])
  refine lk1 10 rfl (fun K hK=>?_)
  go_simp
  have kBa:Blk (ya.alloc (.cells (prc (⟨(i1:Int),(sa:Int),0,(eaa,ena,eca),(kaa,kna,kca),(s:Int),0,ke,kk⟩:PrV)).toArray 215)) ya.heap.size 215 (prc (⟨(i1:Int),(sa:Int),0,(eaa,ena,eca),(kaa,kna,kca),(s:Int),0,ke,kk⟩:PrV)):=Blk.new ya _ _
  have hyB:=hyA.alloc hyA.size (.cells (prc (⟨(i1:Int),(sa:Int),0,(eaa,ena,eca),(kaa,kna,kca),(s:Int),0,ke,kk⟩:PrV)).toArray 215)
  refine hK.out _ _ (HCt.out _ (KeepO.of_below hyB) (HB0.out.on hyB) (HB1.out.on hyB) (HB2.out.on hyB)) (fun hHeld=>?_)
  (try simp only[Act.put,sIx,sZ0,sZ1])
  clear hK K
  have hyC:Below ya.heap.size ya (ya.alloc (.cells (prc (⟨(i1:Int),(sa:Int),0,(eaa,ena,eca),(kaa,kna,kca),(s:Int),0,ke,kk⟩:PrV)).toArray 215)):=(Below.refl _ ya).alloc (Nat.le_refl _) _
  have hOw:OwnRw rtP13 (ya.alloc (.cells (prc (⟨(i1:Int),(sa:Int),0,(eaa,ena,eca),(kaa,kna,kca),(s:Int),0,ke,kk⟩:PrV)).toArray 215)) Y0.heap.size V0 []:=(((hV0).on (Below.refl _ Y0).drew).on hba).on hyC
  refine lk1 11 rfl (fun K hK=>?_)
  refine step_appRw okP13 (ya.alloc (.cells (prc (⟨(i1:Int),(sa:Int),0,(eaa,ena,eca),(kaa,kna,kca),(s:Int),0,ke,kk⟩:PrV)).toArray 215)) rfl _ _ rfl Y0.heap.size V0 [] rfl hOw (some ⟨ya.heap.size,0,none⟩) 1 1 [(⟨(i1:Int),(sa:Int),0,(eaa,ena,eca),(kaa,kna,kca),(s:Int),0,ke,kk⟩:PrV)] rfl kBa.srcC (by simp) hyB.size 23 rfl ?_
  intro Va za hoa hga
  have hTa:KeepT [215] _ za:=KeepT.grownC hOw hga
  have hbza:=(Below.refl Y0.heap.size (ya.alloc (.cells (prc (⟨(i1:Int),(sa:Int),0,(eaa,ena,eca),(kaa,kna,kca),(s:Int),0,ke,kk⟩:PrV)).toArray 215))).grown hga hyB.size (fun k e=>(hOw.lt e).1)
  have hbya:=hyB.trans hbza
  have hPka:KeepO UE ya za:=(KeepO.of_below hyC).trans (KeepO.ofT hTa (by decide))
  have hPoa:PrOk za w.heap.size ks lf i s ke kk (⟨(i1:Int),(sa:Int),0,(eaa,ena,eca),(kaa,kna,kca),(s:Int),0,ke,kk⟩:PrV):=.inl ⟨i1,sa,(eaa,ena,eca),(kaa,kna,kca),_,La,hi1,hsa,rfl,own_low13 (hpa.keep hPka) (Nat.le_trans hbsz hyD.size)⟩
  refine hK.out _ _ (HCt.out _ (KeepO.of_below hbya) (HB0.out.on hbya) (HB1.out.on hbya) (HB2.out.on hbya)) (fun hHeld=>?_)
  (try simp only[Act.put,sIx,sZ0,sZ1])
  clear hK K
  refine lkZ rfl (fun K hK=>?_)
  go_simp
  refine hK.out _ _ ?_
  (try simp only[Exit.then])
  (try simp only[Act.put,sIx,sZ0,sZ1])
  clear hK K hHeld
  have HPa:=mkHid hPoa
  have HOa:=mkHid hoa
  have HBa:=mkHid hbya
  clear hOw hPoa hoa hbya hTa hbza hga kBa hyA hyB hyC hyD HSt hPka hpa hba hV0
  have hP4:=(HB1.out.on HBa.out).cell 3
  simp only[gZ0,gZ1] at hP4
  rcases Nat.lt_or_ge (i+1) n with hj|hj
  ·have hlj:decide ((i:Int)+1<(n:Int))=true:=decide_eq_true (by omega)
   have hwk:IntKind.i64.wrap ((i:Int)+1)=(i:Int)+1:=wrapi64_in _ (by omega) (by omega)
   obtain⟨sb,hsb⟩:∃sb,ks[i+1]?=some sb:=⟨ks[i+1]'(by have:=HN.out;omega),List.getElem?_eq_getElem _⟩
   go_upto_region 5 with fail
   have hyD:Below Y0.heap.size Y0 za.drew:=(HBa.out).trans ((Below.refl _ za).drew)
   have HSt:=HCt.out za.drew (KeepO.of_below hyD) (HB0.out.on hyD) (HB1.out.on hyD) (HB2.out.on hyD)
   refine lk0 (fun W=>W.cell? ⟨w.heap.size,0,none⟩=some (.pointer (some ⟨S,0,none⟩))∧W.cell? ⟨w.heap.size+1,0,none⟩=some (.int .i64 x0)∧W.cell? ⟨w.heap.size+1,1,none⟩=some (.int .i64 1)∧W.cell? ⟨w.heap.size+1,2,none⟩=some (.slice pa pn pc)∧W.cell? ⟨w.heap.size+1,3,none⟩=some (.slice ka n kc)∧W.cell? ⟨w.heap.size+2,0,none⟩=some (.int .i64 (s:Int))∧W.cell? ⟨w.heap.size+2,1,none⟩=some (.int .i64 0)∧W.cell? ⟨w.heap.size+2,2,none⟩=some (.slice ke.1 ke.2.1 ke.2.2)∧W.cell? ⟨w.heap.size+2,3,none⟩=some (.slice kk.1 kk.2.1 kk.2.2)) 11 HSt (fun hHeld=>?_)
   refine lkT 30 0 (Va) rfl (Or.inl ⟨by rfl,?_⟩) hHeld ?_
   ·intro w hSw;go_simp
   (try simp only[Act.put,sIx,sZ0,sZ1])
   refine lkT 31 1 (.int .i64 (i:Int)) rfl (Or.inl ⟨by rfl,?_⟩) hHeld ?_
   ·intro w hSw;go_simp
   (try simp only[Act.put,sIx,sZ0,sZ1])
   refine lkT 32 2 (.agg #[.int .i64 (s:Int),.int .i64 0,.slice ke.1 ke.2.1 ke.2.2,.slice kk.1 kk.2.1 kk.2.2]) rfl (Or.inl ⟨by rfl,?_⟩) hHeld ?_
   ·intro w hSw;obtain⟨s0,s1,s2,s3,s4,s5,s6,s7,s8⟩:=hSw;go_simp
   (try simp only[Act.put,sIx,sZ0,sZ1])
   refine lkT 33 3 (.agg #[.pointer (some ⟨S,0,none⟩)]) rfl (Or.inl ⟨by rfl,?_⟩) hHeld ?_
   ·intro w hSw;obtain⟨s0,s1,s2,s3,s4,s5,s6,s7,s8⟩:=hSw;go_simp
   (try simp only[Act.put,sIx,sZ0,sZ1])
   refine lkT 34 4 (.agg #[.int .i64 x0,.int .i64 1,.slice pa pn pc,.slice ka n kc]) rfl (Or.inl ⟨by rfl,?_⟩) hHeld ?_
   ·intro w hSw;obtain⟨s0,s1,s2,s3,s4,s5,s6,s7,s8⟩:=hSw;go_simp
   (try simp only[Act.put,sIx,sZ0,sZ1])
   refine lkT 35 5 (.int .i64 (i:Int)) rfl (Or.inl ⟨by rfl,?_⟩) hHeld ?_
   ·intro w hSw;go_simp
   (try simp only[Act.put,sIx,sZ0,sZ1])
   refine lkT 36 6 (.int .i64 ((i:Int)+1)) rfl (Or.inl ⟨by rfl,?_⟩) hHeld ?_
   ·intro w hSw;go_simp<;>(try rw[hwk])
   (try simp only[Act.put,sIx,sZ0,sZ1])
   have hKd:=HKd.out _ (i+1) _ hyD hsb
   rw[show (((i+1:Nat)):Int)=(i:Int)+1 from rfl] at hKd
   refine lk1 7 rfl (fun K hK=>?_)
   go_simp
   refine hKd.mono ?_
   rintro r yb ⟨⟨vb,veb,vkb,Lb,rfl,hpb⟩,hbb⟩
   obtain⟨eab,ecb,kab,kcb,hveb,hvkb⟩:=hpb.r.forms
   subst hveb hvkb
   have hvvb:=hpb.v
   subst hvvb
   generalize (Pg.mk 0 (lf (i+1)) []).es.length=enb at hpb ⊢
   generalize (Pg.mk 0 (lf (i+1)) []).ks.length=knb at hpb ⊢
   unfold pgc
   go_simp
   have hyA:=hyD.trans (hbb.mono hyD.size)
   refine hK.out _ _ (HCt.out _ (KeepO.of_below hyA) (HB0.out.on hyA) (HB1.out.on hyA) (HB2.out.on hyA)) (fun hHeld=>?_)
   (try simp only[Act.put,sIx,sZ0,sZ1])
   clear hK K hKd
   refine lkT 38 8 (.agg #[.int .i64 (i:Int),.int .i64 (s:Int),.int .i64 0,.slice ke.1 ke.2.1 ke.2.2,.slice kk.1 kk.2.1 kk.2.2,.int .i64 (sb:Int),.int .i64 0,.slice eab enb ecb,.slice kab knb kcb]) rfl (Or.inl ⟨by rfl,?_⟩) hHeld ?_
   ·intro w hSw;go_simp
   (try simp only[Act.put,sIx,sZ0,sZ1])
   refine lk1 9 rfl (fun K hK=>?_)
   go_simp
   have kBb:Blk (yb.alloc (.cells (prc (⟨(i:Int),(s:Int),0,ke,kk,(sb:Int),0,(eab,enb,ecb),(kab,knb,kcb)⟩:PrV)).toArray 215)) yb.heap.size 215 (prc (⟨(i:Int),(s:Int),0,ke,kk,(sb:Int),0,(eab,enb,ecb),(kab,knb,kcb)⟩:PrV)):=Blk.new yb _ _
   have hyB:=hyA.alloc hyA.size (.cells (prc (⟨(i:Int),(s:Int),0,ke,kk,(sb:Int),0,(eab,enb,ecb),(kab,knb,kcb)⟩:PrV)).toArray 215)
   refine hK.out _ _ (HCt.out _ (KeepO.of_below hyB) (HB0.out.on hyB) (HB1.out.on hyB) (HB2.out.on hyB)) (fun hHeld=>?_)
   (try simp only[Act.put,sIx,sZ0,sZ1])
   clear hK K
   have hyC:Below yb.heap.size yb (yb.alloc (.cells (prc (⟨(i:Int),(s:Int),0,ke,kk,(sb:Int),0,(eab,enb,ecb),(kab,knb,kcb)⟩:PrV)).toArray 215)):=(Below.refl _ yb).alloc (Nat.le_refl _) _
   have hOw:OwnRw rtP13 (yb.alloc (.cells (prc (⟨(i:Int),(s:Int),0,ke,kk,(sb:Int),0,(eab,enb,ecb),(kab,knb,kcb)⟩:PrV)).toArray 215)) Y0.heap.size Va ([]++[(⟨(i1:Int),(sa:Int),0,(eaa,ena,eca),(kaa,kna,kca),(s:Int),0,ke,kk⟩:PrV)]):=(((HOa.out).on (Below.refl _ za).drew).on hbb).on hyC
   refine lk1 10 rfl (fun K hK=>?_)
   refine step_appRw okP13 (yb.alloc (.cells (prc (⟨(i:Int),(s:Int),0,ke,kk,(sb:Int),0,(eab,enb,ecb),(kab,knb,kcb)⟩:PrV)).toArray 215)) rfl _ _ rfl Y0.heap.size Va ([]++[(⟨(i1:Int),(sa:Int),0,(eaa,ena,eca),(kaa,kna,kca),(s:Int),0,ke,kk⟩:PrV)]) rfl hOw (some ⟨yb.heap.size,0,none⟩) 1 1 [(⟨(i:Int),(s:Int),0,ke,kk,(sb:Int),0,(eab,enb,ecb),(kab,knb,kcb)⟩:PrV)] rfl kBb.srcC (by simp) hyB.size 40 rfl ?_
   intro Vb zb hob hgb
   have hTb:KeepT [215] _ zb:=KeepT.grownC hOw hgb
   have hbzb:=(Below.refl Y0.heap.size (yb.alloc (.cells (prc (⟨(i:Int),(s:Int),0,ke,kk,(sb:Int),0,(eab,enb,ecb),(kab,knb,kcb)⟩:PrV)).toArray 215))).grown hgb hyB.size (fun k e=>(hOw.lt e).1)
   have hbyb:=hyB.trans hbzb
   have hPkb:KeepO UE yb zb:=(KeepO.of_below hyC).trans (KeepO.ofT hTb (by decide))
   have hPob:PrOk zb w.heap.size ks lf i s ke kk (⟨(i:Int),(s:Int),0,ke,kk,(sb:Int),0,(eab,enb,ecb),(kab,knb,kcb)⟩:PrV):=.inr ⟨sb,(eab,enb,ecb),(kab,knb,kcb),_,Lb,hsb,rfl,own_low13 (hpb.keep hPkb) (Nat.le_trans hbsz hyD.size)⟩
   refine hK.out _ _ (HCt.out _ (KeepO.of_below hbyb) (HB0.out.on hbyb) (HB1.out.on hbyb) (HB2.out.on hbyb)) (fun hHeld=>?_)
   (try simp only[Act.put,sIx,sZ0,sZ1])
   clear hK K
   refine lkZ rfl (fun K hK=>?_)
   go_simp
   refine hK.out _ _ ?_
   (try simp only[Exit.then])
   (try simp only[Act.put,sIx,sZ0,sZ1])
   clear hK K hHeld
   have HF:=mkHid (And.intro hob (And.intro hPob (And.intro hbyb hPkb)))
   have hPkz:KeepO UE za zb:=(KeepO.of_below ((Below.refl _ za).drew.trans hbb)).trans hPkb
   clear hOw hob hPob hbyb hTb hbzb hgb kBb hyA hyB hyC hyD HSt
   go_wp2_with fail
   go_ret
   refine⟨⟨_,_,rfl,HF.out.1.base hbsz,by simp,fun x hx=>?_⟩,HW1.out.trans (HF.out.2.2.1.mono hbsz)⟩
   rcases List.mem_append.1 hx with h1|h1
   ·rw[List.mem_singleton.1 h1];exact HPa.out.keep hPkz
   ·rw[List.mem_singleton.1 h1];exact HF.out.2.1
  ·have hlj:decide ((i:Int)+1<(n:Int))=false:=decide_eq_false (by omega)
   have hwk:IntKind.i64.wrap ((i:Int)+1)=(i:Int)+1:=wrapi64_in _ (by omega) (by omega)
   have HF:=mkHid (And.intro (HOa.out) (HBa.out))
   go_wp2_with fail
   go_ret
   refine⟨⟨_,_,rfl,HF.out.1.base hbsz,by simp,fun x hx=>?_⟩,HW1.out.trans (HF.out.2.mono hbsz)⟩
   rw[List.mem_singleton.1 hx];exact HPa.out
variable {α:Type} {R:RT α}
theorem row_turn (ok:RtOK R){w:World}{base g cap:Nat}{cur:Array Value}(hb:base≤g)(hg:w.heap[g]?=some (.cells cur R.E (0,0)))(hmax:cap≤maxLen)(l:List α)(rest:List Value)(hle:l.length≤cap)(hr:(cellsC R l).length+rest.length=cap * R.k):
  OwnRw R (w.setRow g (cellsC R l++rest).toArray) base (.slice (some ⟨g,0,none⟩) l.length cap) l∧w.grownBy (w.setRow g (cellsC R l++rest).toArray) (some g):=by
 refine⟨OwnRw.mk ok hb (setRow_heap w g cur _ R.E _ hg) hle hmax (by rw[List.size_toArray,List.length_append];exact hr) ?_,⟨rfl,rfl,rfl,by simp[World.setRow],fun k _ hk=>setRow_other w g k _ (fun e=>hk (by rw[e]))⟩⟩
 rw[List.toList_toArray,List.take_left' (cellsC_length ok l)]
theorem row_less (ok:RtOK R){w:World}{base g cap n:Nat}{l:List α}(h:OwnRw R w base (.slice (some ⟨g,0,none⟩) n cap) l)(i:Nat)(hi:i<n)(ty:TypeId):
  ∃w',(Builtin.append_ #[R.S,R.S] ty #[.slice (some ⟨g,0,none⟩) i cap,.slice (cutC R (some ⟨g,0,none⟩) cap (i+1)) (n-(i+1)) (cap-(i+1))]).run Tryz.prog w=.ok (.slice (some ⟨g,0,none⟩) (n-1) cap) w'∧OwnRw R w' base (.slice (some ⟨g,0,none⟩) (n-1) cap) (l.take i++l.drop (i+1))∧w.grownBy w' (some g):=by
 obtain⟨i0,hif,hz0,hz1,hz2⟩:=info_parts ok.hi
 have hs:=(OwnRw.src ok h).tail ok (i+1) hi
 obtain⟨cur,hb,hg,hn,hle,hmax,hsz,htk⟩:=h.cur
 subst hn
 have hs:=hs hle
 have hcl:cur.toList.length=cur.size:=Array.length_toList
 have hll:(l.take i++l.drop (i+1)).length=l.length-1:=by rw[List.length_append,List.length_take,List.length_drop];omega
 have hDl:(cellsC R (l.drop (i+1))).length=(l.length-(i+1)) * R.k:=by rw[cellsC_length ok,List.length_drop]
 have hA:cur.toList.take (i * R.k)=cellsC R (l.take i):=by
  rw[cellsC_take ok,←htk,List.take_take,Nat.min_eq_left]
  exact Nat.mul_le_mul_right _ (by omega)
 have hk1:l.length * R.k≤cap * R.k:=Nat.mul_le_mul_right _ hle
 have hsum:i * R.k+(l.length-(i+1)) * R.k+R.k=l.length * R.k:=by rw[←Nat.add_mul,←Nat.succ_mul];congr 1;omega
 obtain⟨ad,had⟩:∃ad,cutC R (some ⟨g,0,none⟩) cap (i+1)=some ad:=by unfold cutC;split<;>exact⟨_,rfl⟩
 rw[had] at hs ⊢
 have hr:=run_append_room (P:=Tryz.prog) w R.S ty R.E i0 ok.hu hif g i cap cur hg ad (l.length-(i+1)) (cap-(i+1)) (cellsC R (l.drop (i+1))) (by rw[hz1];exact hDl) (hs.cells ad rfl) (cellsC_one ok _) (by omega) (by rw[hz1,hDl,hsz];omega)
 rw[hz1,show i+(l.length-(i+1))=l.length-1 by omega,hA,←cellsC_append] at hr
 refine⟨_,hr,?_⟩
 rw[←hll]
 refine row_turn ok hb hg hmax _ _ (by rw[hll];omega) ?_
 rw[cellsC_length ok,hll,List.length_drop,hcl,hsz,hDl,show i * R.k+(l.length-(i+1)) * R.k=(l.length-1) * R.k by rw[←Nat.add_mul];congr 1;omega]
 have:(l.length-1) * R.k≤cap * R.k:=Nat.mul_le_mul_right _ (by omega)
 omega
theorem row_app1 (ok:RtOK R){w:World}{base g cap n B:Nat}{l:List α}{x:α}(h:OwnRw R w base (.slice (some ⟨g,0,none⟩) n cap) l)(i:Nat)(hi:i<n)(hB:Blk w B R.E (R.c x))(ty:TypeId):
  ∃w',(Builtin.append_ #[R.S,R.S] ty #[.slice (some ⟨g,0,none⟩) i cap,.slice (some ⟨B,0,none⟩) 1 1]).run Tryz.prog w=.ok (.slice (some ⟨g,0,none⟩) (i+1) cap) w'∧OwnRw R w' base (.slice (some ⟨g,0,none⟩) (i+1) cap) (l.take i++[x])∧w.grownBy w' (some g):=by
 obtain⟨i0,hif,hz0,hz1,hz2⟩:=info_parts ok.hi
 obtain⟨cur,hb,hg,hn,hle,hmax,hsz,htk⟩:=h.cur
 subst hn
 have hcl:cur.toList.length=cur.size:=Array.length_toList
 have hll:(l.take i++[x]).length=i+1:=by rw[List.length_append,List.length_take];simp;omega
 have hA:cur.toList.take (i * R.k)=cellsC R (l.take i):=by
  rw[cellsC_take ok,←htk,List.take_take,Nat.min_eq_left]
  exact Nat.mul_le_mul_right _ (by omega)
 have hXl:(R.c x).length=R.k:=ok.len x
 have hi1:(i+1) * R.k=i * R.k+R.k:=Nat.succ_mul _ _
 have hk2:(i+1) * R.k≤cap * R.k:=Nat.mul_le_mul_right _ (by omega)
 have hcx:cellsC R [x]=R.c x:=by simp[cellsC]
 have hr:=run_append_room (P:=Tryz.prog) w R.S ty R.E i0 ok.hu hif g i cap cur hg ⟨B,0,none⟩ 1 1 (R.c x) (by rw[hz1,hXl,Nat.one_mul]) (fun j u hu=>by rw[Addr.add_lit,Nat.zero_add,hB.cell];exact hu) (ok.one x) (by omega) (by rw[hz1,hXl,hsz];omega)
 rw[hz1,hA,←hcx,←cellsC_append] at hr
 refine⟨_,hr,?_⟩
 rw[←hll]
 refine row_turn ok hb hg hmax _ _ (by rw[hll];omega) ?_
 rw[cellsC_length ok,hll,List.length_drop,hcl,hsz,hcx,hXl]
 omega
theorem row_wipe (ok:RtOK R){w:World}{base g cap n:Nat}{l:List α}{zs:List Value}(hzc:(Builtin.zeroCells R.z.cells 1).toList=zs)(hzl:zs.length=R.k)(hz1:∀v∈zs,v.oneCell'=true)(h:OwnRw R w base (.slice (some ⟨g,0,none⟩) n cap) l)(hc:n<cap)(c:Nat)(ty:TypeId):
  ∃w',(Builtin.clear_ #[R.S] ty #[.slice (some ⟨g,n * R.k,none⟩) 1 c]).run Tryz.prog w=.ok (.tuple #[]) w'∧OwnRw R w' base (.slice (some ⟨g,0,none⟩) n cap) l∧w.grownBy w' (some g):=by
 obtain⟨i0,hif,hi0,hi1,hi2⟩:=info_parts ok.hi
 obtain⟨cur,hb,hg,hn,hle,hmax,hsz,htk⟩:=h.cur
 subst hn
 have hcl:cur.toList.length=cur.size:=Array.length_toList
 have hk1:(l.length+1) * R.k≤cap * R.k:=Nat.mul_le_mul_right _ hc
 have hn1:(l.length+1) * R.k=l.length * R.k+R.k:=Nat.succ_mul _ _
 have hst:=run_storeCells_at Tryz.prog g (l.length * R.k) R.E zs 0 cur w hg (by rw[hsz,hzl];omega) hz1
 have hrun:(Builtin.clear_ #[R.S] ty #[.slice (some ⟨g,l.length * R.k,none⟩) 1 c]).run Tryz.prog w=.ok (.tuple #[]) (w.setRow g (cur.toList.take (l.length * R.k+0)++zs++cur.toList.drop (l.length * R.k+0+zs.length)).toArray):=by
  simp[Builtin.clear_,run_underlying ok.hu,zeroValue,typeInfo,hif,hi0,hzc,hst,Result.andThen]
 rw[Nat.add_zero,htk] at hrun
 rw[List.append_assoc] at hrun
 refine⟨_,hrun,?_⟩
 refine row_turn ok hb hg hmax _ _ hle ?_
 rw[cellsC_length ok,List.length_append,List.length_drop,hcl,hsz,hzl]
 omega
theorem row_set1 (ok:RtOK R){w:World}{base g cap n B:Nat}{l:List α}{x:α}(h:OwnRw R w base (.slice (some ⟨g,0,none⟩) n cap) l)(i:Nat)(hi:i<n)(hB:Blk w B R.E (R.c x))(m:Nat)(hm:1≤m)(c:Nat)(ty:TypeId):
  ∃w',(Builtin.copy_ #[R.S,R.S] ty #[.slice (cutC R (some ⟨g,0,none⟩) cap i) m c,.slice (some ⟨B,0,none⟩) 1 1]).run Tryz.prog w=.ok (goInt (1:Nat)) w'∧OwnRw R w' base (.slice (some ⟨g,0,none⟩) n cap) (l.take i++x::l.drop (i+1))∧w.grownBy w' (some g):=by
 obtain⟨cur,hb,hg,hn,hle,hmax,hsz,htk⟩:=h.cur
 subst hn
 have hcl:cur.toList.length=cur.size:=Array.length_toList
 have hll:(l.take i++x::l.drop (i+1)).length=l.length:=by rw[List.length_append,List.length_cons,List.length_take,List.length_drop];omega
 have hA:cur.toList.take (i * R.k)=cellsC R (l.take i):=by
  rw[cellsC_take ok,←htk,List.take_take,Nat.min_eq_left]
  exact Nat.mul_le_mul_right _ (by omega)
 have hXl:(R.c x).length=R.k:=ok.len x
 have hi1:(i+1) * R.k=i * R.k+R.k:=Nat.succ_mul _ _
 have hk2:(i+1) * R.k≤l.length * R.k:=Nat.mul_le_mul_right _ (by omega)
 have hk3:l.length * R.k≤cap * R.k:=Nat.mul_le_mul_right _ hle
 rw[cutC_some (by omega)]
 have r2:=run_copy_k ok w ty g (i * R.k) m c ⟨B,0,none⟩ 1 1 1 cur R.E (R.c x) hg (by show _=min _ _;omega) (by rw[hXl,Nat.one_mul]) (fun j v hv=>by rw[Addr.add_lit,Nat.zero_add,hB.cell];exact hv) (by rw[hsz,hXl];omega) (ok.one x)
 have hD:cur.toList.drop ((i+1) * R.k)=cellsC R (l.drop (i+1))++cur.toList.drop (l.length * R.k):=by
  rw[cellsC_drop ok,←htk]
  have e:=List.take_append_drop (l.length * R.k) cur.toList
  conv=>lhs;rw[←e]
  rw[List.drop_append_of_le_length (by rw[List.length_take,hcl,hsz];omega)]
 rw[hXl,←hi1,hA,hD,show cellsC R (l.take i)++R.c x++(cellsC R (l.drop (i+1))++cur.toList.drop (l.length * R.k))=cellsC R (l.take i++x::l.drop (i+1))++cur.toList.drop (l.length * R.k) by rw[cellsC_append,cellsC];simp only[List.append_assoc]] at r2
 refine⟨_,r2,?_⟩
 have:=row_turn ok hb hg hmax (l.take i++x::l.drop (i+1)) (cur.toList.drop (l.length * R.k)) (by rw[hll];exact hle) (by rw[cellsC_length ok,hll,List.length_drop,hcl,hsz];omega)
 rw[hll] at this
 exact this
theorem row_back (ok:RtOK R){w:World}{base g cap n:Nat}{l:List α}(h:OwnRw R w base (.slice (some ⟨g,0,none⟩) n cap) l)(i:Nat)(hi:i+1<n)(ty:TypeId):
  ∃w',(Builtin.copy_ #[R.S,R.S] ty #[.slice (cutC R (some ⟨g,0,none⟩) cap i) (n-1-i) (cap-i),.slice (cutC R (some ⟨g,0,none⟩) cap (i+1)) (n-(i+1)) (cap-(i+1))]).run Tryz.prog w=.ok (goInt (n-(i+1):Nat)) w'∧OwnRw R w' base (.slice (some ⟨g,0,none⟩) (n-1) cap) (l.take i++l.drop (i+1))∧w.grownBy w' (some g):=by
 obtain⟨cur,hb,hg,hn,hle,hmax,hsz,htk⟩:=h.cur
 subst hn
 have hcl:cur.toList.length=cur.size:=Array.length_toList
 have hll:(l.take i++l.drop (i+1)).length=l.length-1:=by rw[List.length_append,List.length_take,List.length_drop];omega
 have hDl:(cellsC R (l.drop (i+1))).length=(l.length-(i+1)) * R.k:=by rw[cellsC_length ok,List.length_drop]
 have hA:cur.toList.take (i * R.k)=cellsC R (l.take i):=by
  rw[cellsC_take ok,←htk,List.take_take,Nat.min_eq_left]
  exact Nat.mul_le_mul_right _ (by omega)
 have hk3:l.length * R.k≤cap * R.k:=Nat.mul_le_mul_right _ hle
 have hsum:i * R.k+(l.length-(i+1)) * R.k+R.k=l.length * R.k:=by rw[←Nat.add_mul,←Nat.succ_mul];congr 1;omega
 rw[cutC_some (by omega),cutC_some (by omega)]
 have r1:=run_copy_k ok w ty g (i * R.k) (l.length-1-i) (cap-i) ⟨g,(i+1) * R.k,none⟩ (l.length-(i+1)) (cap-(i+1)) (l.length-(i+1)) cur R.E (cellsC R (l.drop (i+1))) hg (by show _=min _ _;omega) hDl (cells_mid ok hg htk) (by rw[hDl,hsz];omega) (cellsC_one ok _)
 rw[hA,←cellsC_append] at r1
 refine⟨_,r1,?_⟩
 rw[←hll]
 refine row_turn ok hb hg hmax _ _ (by rw[hll];omega) ?_
 rw[cellsC_length ok,hll,List.length_drop,hcl,hsz,hDl,show i * R.k+(l.length-(i+1)) * R.k=(l.length-1) * R.k by rw[←Nat.add_mul];congr 1;omega]
 have:(l.length-1) * R.k≤cap * R.k:=Nat.mul_le_mul_right _ (by omega)
 omega
end
section
open Go.RowKit
theorem slBI (a:Option Addr)(n cap f t:Nat)(h1:f≤t)(h2:t≤cap)(w:World):(Instr.slice 58 (.slice a n cap) (some (.int .i64 (f:Int))) (some (.int .i64 (t:Int))) none).run Tryz.prog w=.ok (.slice (cutC rtI13 a cap f) (t-f) (cap-f)) w:=by
 have he:Tryz.prog.elem 58=3:=by kernel_rfl
 have hz:(sizeOf 3).run Tryz.prog w=.ok 1 w:=by
  obtain⟨i0,hi,hz0,hz1,hz2⟩:=info_parts okI13.hi
  simp[sizeOf,typeInfo,hi,hz1]
 rw[run_slice_lh w 58 _ n cap (by rw[he];exact Tryz.underlying58) .i64 .i64 (f:Int) (t:Int) (by omega) (by omega) (by omega),he,hz]
 simp only[Result.andThen,sliced,Int.toNat_natCast,cutC]
theorem slMI (a:Option Addr)(n cap f t:Nat)(h1:f≤t)(h2:t≤n)(h3:n≤cap)(w:World):∃v,(Instr.slice 58 (.slice a n cap) (some (.int .i64 (f:Int))) (some (.int .i64 (t:Int))) (some (.int .i64 (n:Int)))).run Tryz.prog w=.ok v w:=by
 have he:Tryz.prog.elem 58=3:=by kernel_rfl
 have hz:(sizeOf 3).run Tryz.prog w=.ok 1 w:=by
  obtain⟨i0,hi,hz0,hz1,hz2⟩:=info_parts okI13.hi
  simp[sizeOf,typeInfo,hi,hz1]
 rw[run_slice_lhm w 58 _ n cap (by rw[he];exact Tryz.underlying58) .i64 .i64 .i64 (f:Int) (t:Int) (n:Int) (by omega) (by omega) (by omega) (by omega),he,hz]
 exact⟨_,rfl⟩
theorem wipeI {w:World}{base g cap n:Nat}{l:List Int}(h:OwnRw rtI13 w base (.slice (some ⟨g,0,none⟩) n cap) l)(hc:n<cap)(c:Nat)(ty:TypeId):
  ∃w',(Builtin.clear_ #[58] ty #[.slice (some ⟨g,n,none⟩) 1 c]).run Tryz.prog w=.ok (.tuple #[]) w'∧OwnRw rtI13 w' base (.slice (some ⟨g,0,none⟩) n cap) l∧w.grownBy w' (some g):=by
 have:=row_wipe okI13 (zs:=[.int .i64 0]) (by kernel_rfl) rfl (by intro v hv;simp at hv;subst hv;rfl) h hc c ty
 rwa [show n * rtI13.k=n from Nat.mul_one n] at this
theorem cutI {g cap j:Nat}(h:j<cap):cutC rtI13 (some ⟨g,0,none⟩) cap j=some ⟨g,j,none⟩:=by
 rw[cutC_some h,show j * rtI13.k=j from Nat.mul_one j]
theorem codDeleteI (w:World)(base g cap n i i1:Nat)(hi1:i+1=i1)(L:List Int)(h:OwnRw rtI13 w base (.slice (some ⟨g,0,none⟩) n cap) L)(hi:i<n)(hb:n≤1000):
  Calls Tryz.prog 149 #[.slice (some ⟨g,0,none⟩) n cap,.int .i64 (i:Int),.int .i64 (i1:Int)] w fun e w'=>e=.returned (.slice (some ⟨g,0,none⟩) (n-1) cap)∧OwnRw rtI13 w' base (.slice (some ⟨g,0,none⟩) (n-1) cap) (L.take i++L.drop (i+1))∧w.grownBy w' (some g):=by
 have hc:n≤cap:=by obtain⟨_,_,_,_,hc,_,_,_⟩:=h.cur;exact hc
 have hm:=slMI (some ⟨g,0,none⟩) n cap i i1 (by omega) (by omega) hc
 obtain⟨vm,hvm⟩:=hm w
 obtain⟨Y2,hr2,hO2,hg2⟩:=row_less okI13 (h.on (Below.drew (Below.refl _ w))) i hi 58
 obtain⟨n1,hn1⟩:∃n1,n-1=n1:=⟨_,rfl⟩
 rw[hn1,hi1] at hr2
 rw[hn1] at hO2 ⊢
 obtain⟨Y3,hr3,hO3,hg3⟩:=wipeI hO2 (by omega) (cap-n1) 0
 have hsh:∀W,(Instr.slice 58 (.slice (some ⟨g,0,none⟩) n cap) none (some (.int .i64 (i:Int))) none).run Tryz.prog W=.ok (.slice (some ⟨g,0,none⟩) i cap) W:=fun W=>slHC okI13 (some ⟨g,0,none⟩) n cap i (by omega) W
 have hsl:∀W,(Instr.slice 58 (.slice (some ⟨g,0,none⟩) n cap) (some (.int .i64 (i1:Int))) none none).run Tryz.prog W=.ok (.slice (cutC rtI13 (some ⟨g,0,none⟩) cap i1) (n-i1) (cap-i1)) W:=fun W=>slLC okI13 (some ⟨g,0,none⟩) n cap i1 (by omega) W
 have hsb:=fun W=>slBI (some ⟨g,0,none⟩) n1 cap n1 n (by omega) hc W
 rw[cutI (by omega),show n-n1=1 by omega] at hsb
 have HG:Hid (w.grownBy Y3 (some g)):=by
  have h0:w.grownBy w.drew (some g):=⟨rfl,rfl,rfl,Nat.le_refl _,fun _ _ _=>rfl⟩
  exact grown_tr (grown_tr h0 hg2) hg3
 have HO3:=mkHid hO3
 have HR2:=mkHid hr2
 have HR3:=mkHid hr3
 have hne:¬(i:Int)=(i1:Int):=by omega
 clear hm hO2 hg2 hg3 hO3 hr2 hr3 h hi1 hn1
 generalize cutC rtI13 (some ⟨g,0,none⟩) cap i1=ca at *
 generalize L.take i++L.drop (i+1)=L' at *
 generalize n-i1=m1 at *
 generalize cap-i1=m2 at *
 go_enter Tryz.func149,Tryz.ntmps149
 go_wp2_with fail
 refine lk0 (fun _=>True) 7 trivial (fun hHeld=>?_)
 refine lkT 20 0 ?_ rfl (Or.inl ⟨by rfl,?_⟩) hHeld ?_
 rotate_left
 ·intro w hSw;go_simp;with_reducible rfl
 (try simp only[Act.put,sIx,sZ0,sZ1])
 refine lkT 21 1 ?_ rfl (Or.inl ⟨by rfl,?_⟩) hHeld ?_
 rotate_left
 ·intro w hSw;go_simp;with_reducible rfl
 (try simp only[Act.put,sIx,sZ0,sZ1])
 refine lkT 22 2 (.slice (some ⟨g,0,none⟩) i cap) rfl (Or.inl ⟨by rfl,?_⟩) hHeld ?_
 ·intro w hSw;go_simp
 (try simp only[Act.put,sIx,sZ0,sZ1])
 refine lkT 23 3 ?_ rfl (Or.inl ⟨by rfl,?_⟩) hHeld ?_
 rotate_left
 ·intro w hSw;go_simp;with_reducible rfl
 (try simp only[Act.put,sIx,sZ0,sZ1])
 refine lkT 24 4 ?_ rfl (Or.inl ⟨by rfl,?_⟩) hHeld ?_
 rotate_left
 ·intro w hSw;go_simp;with_reducible rfl
 (try simp only[Act.put,sIx,sZ0,sZ1])
 refine lkT 25 5 (.slice ca m1 m2) rfl (Or.inl ⟨by rfl,?_⟩) hHeld ?_
 ·intro w hSw;go_simp
 (try simp only[Act.put,sIx,sZ0,sZ1])
 refine lk1 6 rfl (fun K hK=>?_)
 refine step_app_run w.drew (by rfl) _ _ 58 58 58 (by rfl) (by rfl) _ _ (by rfl) (by rfl) HR2.out 26 rfl ?_
 refine hK.out _ _ trivial (fun hHeld=>?_)
 (try simp only[Act.put,sIx,sZ0,sZ1])
 clear hK K
 refine lkZ rfl (fun K hK=>?_)
 go_simp
 refine hK.out _ _ ?_
 simp only[Exit.then]
 (try simp only[Act.put,sIx,sZ0,sZ1])
 clear hK K hHeld
 have hr3:=HR3.out
 go_wp2_with fail
 go_ret
 exact⟨rfl,HO3.out,HG.out⟩
theorem codReplaceI (w:World)(base g cap n i i2 B:Nat)(hi2:i+2=i2)(L:List Int)(x:Int)(h:OwnRw rtI13 w base (.slice (some ⟨g,0,none⟩) n cap) L)(hB:Blk w B 3 [.int .i64 x])(hi:i2≤n)(hb:n≤1000):
  Calls Tryz.prog 186 #[.slice (some ⟨g,0,none⟩) n cap,.int .i64 (i:Int),.int .i64 (i2:Int),.slice (some ⟨B,0,none⟩) 1 1] w fun e w'=>e=.returned (.slice (some ⟨g,0,none⟩) (n-1) cap)∧OwnRw rtI13 w' base (.slice (some ⟨g,0,none⟩) (n-1) cap) (L.take i++x::L.drop (i+2))∧w.grownBy w' (some g):=by
 have hLn:L.length=n:=by obtain⟨_,_,_,hn,_⟩:=h.cur;exact hn.symm
 have hc:n≤cap:=by obtain⟨_,_,_,_,hc,_,_,_⟩:=h.cur;exact hc
 have hsb:=fun W=>slBI (some ⟨g,0,none⟩) n cap i i2 (by omega) (by omega) W
 have hn0:((i:Int)==(i2:Int))=false:=by rw[beq_eq_false_iff_ne];omega
 obtain⟨n1,hn1⟩:∃n1,n-1=n1:=⟨_,rfl⟩
 have h0:w.grownBy w.drew (some g):=⟨rfl,rfl,rfl,Nat.le_refl _,fun _ _ _=>rfl⟩
 by_cases hlast:i2=n
 ·subst hlast
  obtain⟨Y2,hr2,hO2,hg2⟩:=row_app1 okI13 h i (by omega) hB 58
  obtain⟨Y3,hr3,hO3,hg3⟩:=wipeI hO2 (by omega) (cap-(i+1)) 0
  have hl:L.take i++x::L.drop (i+2)=L.take i++[x]:=by rw[List.drop_of_length_le (by omega)]
  rw[hl,show i2-1=i+1 by omega]
  have hsh:∀W,(Instr.slice 58 (.slice (some ⟨g,0,none⟩) i2 cap) none (some (.int .i64 (i:Int))) none).run Tryz.prog W=.ok (.slice (some ⟨g,0,none⟩) i cap) W:=fun W=>slHC okI13 (some ⟨g,0,none⟩) i2 cap i (by omega) W
  have hsl:∀W,(Instr.slice 58 (.slice (some ⟨g,0,none⟩) i2 cap) (some (.int .i64 ((i:Int)+1))) none none).run Tryz.prog W=.ok (.slice (some ⟨g,i+1,none⟩) 1 (cap-(i+1))) W:=fun W=>by
   have:=slLC okI13 (some ⟨g,0,none⟩) i2 cap (i+1) (by omega) W
   rw[cutI (by omega),show i2-(i+1)=1 by omega] at this
   exact this
  have hlt:decide ((i:Int)+1<(i2:Int))=true:=decide_eq_true (by omega)
  have HG:Hid (w.grownBy Y3 (some g)):=grown_tr hg2 hg3
  have HO3:=mkHid hO3
  have HR2:=mkHid hr2
  have HR3:=mkHid hr3
  have hlt2:i+1<i2:=by omega
  clear hO2 hg2 hg3 hO3 hr2 hr3 h hl hB hLn hn1 h0
  generalize L.take i++[x]=L' at *
  go_enter Tryz.func186,Tryz.ntmps186
  go_upto_region 6 with(refine list_app_run _ rfl _ _ _ _ _ rfl rfl _ _ rfl rfl HR2.out ?_)
  have hr3:=HR3.out
  go_wp2_with fail
  go_ret
  exact⟨rfl,HO3.out,HG.out⟩
 ·obtain⟨q,hq⟩:∃q,n-i2=q:=⟨_,rfl⟩
  have hsh:∀W,(Instr.slice 58 (.slice (some ⟨g,0,none⟩) n cap) none (some (.int .i64 (i:Int))) none).run Tryz.prog W=.ok (.slice (some ⟨g,0,none⟩) i cap) W:=fun W=>slHC okI13 (some ⟨g,0,none⟩) n cap i (by omega) W
  have hsl:∀W,(Instr.slice 58 (.slice (some ⟨g,0,none⟩) n cap) (some (.int .i64 (i2:Int))) none none).run Tryz.prog W=.ok (.slice (some ⟨g,i2,none⟩) q (cap-i2)) W:=fun W=>by
   have:=slLC okI13 (some ⟨g,0,none⟩) n cap i2 (by omega) W
   rw[cutI (by omega),hq] at this
   exact this
  have hsh1:∀W,(Instr.slice 58 (.slice (some ⟨g,0,none⟩) n cap) none (some (.int .i64 (n1:Int))) none).run Tryz.prog W=.ok (.slice (some ⟨g,0,none⟩) n1 cap) W:=fun W=>slHC okI13 (some ⟨g,0,none⟩) n cap n1 (by omega) W
  have hsl1:∀W,(Instr.slice 58 (.slice (some ⟨g,0,none⟩) n1 cap) (some (.int .i64 (i:Int))) none none).run Tryz.prog W=.ok (.slice (some ⟨g,i,none⟩) (n1-i) (cap-i)) W:=fun W=>by
   have:=slLC okI13 (some ⟨g,0,none⟩) n1 cap i (by omega) W
   rw[cutI (by omega)] at this
   exact this
  have hsl2:∀W,(Instr.slice 58 (.slice (some ⟨g,0,none⟩) n1 cap) (some (.int .i64 ((i:Int)+1))) none none).run Tryz.prog W=.ok (.slice (some ⟨g,i+1,none⟩) (n1-(i+1)) (cap-(i+1))) W:=fun W=>by
   have:=slLC okI13 (some ⟨g,0,none⟩) n1 cap (i+1) (by omega) W
   rw[cutI (by omega)] at this
   exact this
  have hsl3:∀W,(Instr.slice 58 (.slice (some ⟨g,0,none⟩) n cap) (some (.int .i64 (n1:Int))) none none).run Tryz.prog W=.ok (.slice (some ⟨g,n1,none⟩) 1 (cap-n1)) W:=fun W=>by
   have:=slLC okI13 (some ⟨g,0,none⟩) n cap n1 (by omega) W
   rw[cutI (by omega),show n-n1=1 by omega] at this
   exact this
  obtain⟨Y2,hr2,hO2,hg2⟩:=row_set1 okI13 (h.on (Below.drew (Below.refl _ w))) i (by omega) hB (n1-i) (by omega) (cap-i) 3
  rw[cutI (by omega)] at hr2
  obtain⟨Y3,hr3,hO3,hg3⟩:=row_back okI13 (hO2.on (Below.drew (Below.refl _ Y2))) (i+1) (by omega) 3
  rw[cutI (by omega),cutI (by omega),hn1,show i+1+1=i2 by omega,hq] at hr3
  have hl:(L.take i++x::L.drop (i+1)).take (i+1)++(L.take i++x::L.drop (i+1)).drop (i+1+1)=L.take i++x::L.drop (i+2):=by
   have h1:(L.take i++[x]).length=i+1:=by rw[List.length_append,List.length_take,List.length_singleton];omega
   have h2:L.take i++x::L.drop (i+1)=(L.take i++[x])++L.drop (i+1):=by simp
   rw[h2,List.take_left' h1,←h1,List.drop_append,List.drop_of_length_le (by omega),List.nil_append,h1,List.drop_drop]
   simp
  rw[hl,hn1] at hO3
  obtain⟨Y4,hr4,hO4,hg4⟩:=wipeI hO3 (by omega) (cap-n1) 0
  have HG:Hid (w.grownBy Y4 (some g)):=grown_tr (grown_tr (grown_tr (grown_tr h0 hg2) (⟨rfl,rfl,rfl,Nat.le_refl _,fun _ _ _=>rfl⟩:Y2.grownBy Y2.drew (some g))) hg3) hg4
  have hw1:IntKind.i64.wrap ((i:Int)+1)=(i:Int)+1:=wrapi64_in _ (by omega) (by omega)
  have hw2:IntKind.i64.wrap ((i:Int)+1+(q:Int))=(n1:Int):=by rw[wrapi64_in _ (by omega) (by omega)];omega
  have hgt:decide ((cap:Int)<(n1:Int))=false:=decide_eq_false (by omega)
  have hle:decide ((i:Int)+1≤(i2:Int))=true:=decide_eq_true (by omega)
  have hnl:((i2:Int)==(n:Int))=false:=by rw[beq_eq_false_iff_ne];omega
  have hle2:(i:Int)+1≤(i2:Int):=by omega
  have hgt2:¬cap<n1:=by omega
  have HO4:=mkHid hO4
  have HR2:=mkHid hr2
  have HR3:=mkHid hr3
  have HR4:=mkHid hr4
  rw[hn1]
  clear hO2 hO3 hO4 hg2 hg3 hg4 hr2 hr3 hr4 h hl hB hLn h0 hn1 hq
  generalize L.take i++x::L.drop (i+2)=L' at *
  generalize n1-(i+1)=m1 at *
  generalize n1-i=m0 at *
  generalize cap-i2=c2 at *
  generalize cap-(i+1)=c1 at *
  generalize cap-i=c0 at *
  generalize cap-n1=c3 at *
  go_enter Tryz.func186,Tryz.ntmps186
  go_upto_region 9 with fail
  refine lk0 (fun _=>True) 12 trivial (fun hHeld=>?_)
  refine lkT 45 0 ?_ rfl (Or.inl ⟨by rfl,?_⟩) hHeld ?_
  rotate_left
  ·intro w hSw;go_simp;with_reducible rfl
  (try simp only[Act.put,sIx,sZ0,sZ1])
  refine lkT 46 1 ?_ rfl (Or.inl ⟨by rfl,?_⟩) hHeld ?_
  rotate_left
  ·intro w hSw;go_simp;with_reducible rfl
  (try simp only[Act.put,sIx,sZ0,sZ1])
  refine lkT 47 2 (.slice (some ⟨g,0,none⟩) i cap) rfl (Or.inl ⟨by rfl,?_⟩) hHeld ?_
  ·intro w hSw;go_simp
  (try simp only[Act.put,sIx,sZ0,sZ1])
  refine lkT 48 3 (.int .i64 (i:Int)) rfl (Or.inl ⟨by rfl,?_⟩) hHeld ?_
  ·intro w hSw;go_simp
  (try simp only[Act.put,sIx,sZ0,sZ1])
  refine lkT 49 4 ?_ rfl (Or.inl ⟨by rfl,?_⟩) hHeld ?_
  rotate_left
  ·intro w hSw;go_simp;with_reducible rfl
  (try simp only[Act.put,sIx,sZ0,sZ1])
  refine lkT 50 5 (.int .i64 1) rfl (Or.inl ⟨by rfl,?_⟩) hHeld ?_
  ·intro w hSw;go_simp
  (try simp only[Act.put,sIx,sZ0,sZ1])
  refine lkT 51 6 (.int .i64 ((i:Int)+1)) rfl (Or.inl ⟨by rfl,?_⟩) hHeld ?_
  ·intro w hSw;go_simp<;>(try rw[hw1])
  (try simp only[Act.put,sIx,sZ0,sZ1])
  refine lkT 52 7 ?_ rfl (Or.inl ⟨by rfl,?_⟩) hHeld ?_
  rotate_left
  ·intro w hSw;go_simp;with_reducible rfl
  (try simp only[Act.put,sIx,sZ0,sZ1])
  refine lkT 53 8 ?_ rfl (Or.inl ⟨by rfl,?_⟩) hHeld ?_
  rotate_left
  ·intro w hSw;go_simp;with_reducible rfl
  (try simp only[Act.put,sIx,sZ0,sZ1])
  refine lkT 54 9 (.slice (some ⟨g,i2,none⟩) q c2) rfl (Or.inl ⟨by rfl,?_⟩) hHeld ?_
  ·intro w hSw;go_simp
  (try simp only[Act.put,sIx,sZ0,sZ1])
  refine lkT 55 10 (.int .i64 (q:Int)) rfl (Or.inl ⟨by rfl,?_⟩) hHeld ?_
  ·intro w hSw;go_simp
  (try simp only[Act.put,sIx,sZ0,sZ1])
  refine lkT 56 11 (.int .i64 (n1:Int)) rfl (Or.inl ⟨by rfl,?_⟩) hHeld ?_
  ·intro w hSw;go_simp<;>(try rw[hw2])
  (try simp only[Act.put,sIx,sZ0,sZ1])
  refine lkZ rfl (fun K hK=>?_)
  go_simp
  refine hK.out _ _ ?_
  simp only[Exit.then]
  (try simp only[Act.put,sIx,sZ0,sZ1])
  clear hK K hHeld
  go_upto_region 18 with(refine list_copy_run _ rfl _ _ _ _ _ rfl rfl _ _ rfl rfl HR2.out ?_)
  refine lk0 (fun _=>True) 9 trivial (fun hHeld=>?_)
  refine lkC [5] 98 0 ?_ rfl (Or.inl ⟨by rfl,?_⟩) hHeld ?_
  rotate_left
  ·intro w hSw;go_simp;with_reducible rfl
  (try simp only[Act.put,sIx,sZ0,sZ1])
  refine lkC [4,5] 99 1 ?_ rfl (Or.inl ⟨by rfl,?_⟩) hHeld ?_
  rotate_left
  ·intro w hSw;go_simp;with_reducible rfl
  (try simp only[Act.put,sIx,sZ0,sZ1])
  refine lkC [3,4,5] 100 2 ?_ rfl (Or.inl ⟨by rfl,?_⟩) hHeld ?_
  rotate_left
  ·intro w hSw;go_simp;with_reducible rfl
  (try simp only[Act.put,sIx,sZ0,sZ1])
  refine lkC [4,5] 101 3 (.int .i64 1) rfl (Or.inl ⟨by rfl,?_⟩) hHeld ?_
  ·intro w hSw;go_simp
  (try simp only[Act.put,sIx,sZ0,sZ1])
  refine lkC [5] 102 4 (.int .i64 ((i:Int)+1)) rfl (Or.inl ⟨by rfl,?_⟩) hHeld ?_
  ·intro w hSw;go_simp<;>(try rw[hw1])
  (try simp only[Act.put,sIx,sZ0,sZ1])
  refine lkC [] 103 5 (.slice (some ⟨g,i+1,none⟩) m1 c1) rfl (Or.inl ⟨by rfl,?_⟩) hHeld ?_
  ·intro w hSw;go_simp
  (try simp only[Act.put,sIx,sZ0,sZ1])
  refine lkC [8] 104 6 ?_ rfl (Or.inl ⟨by rfl,?_⟩) hHeld ?_
  rotate_left
  ·intro w hSw;go_simp;with_reducible rfl
  (try simp only[Act.put,sIx,sZ0,sZ1])
  refine lkC [8] 105 7 ?_ rfl (Or.inl ⟨by rfl,?_⟩) hHeld ?_
  rotate_left
  ·intro w hSw;go_simp;with_reducible rfl
  (try simp only[Act.put,sIx,sZ0,sZ1])
  refine lkC [] 106 8 (.slice (some ⟨g,i2,none⟩) q c2) rfl (Or.inl ⟨by rfl,?_⟩) hHeld ?_
  ·intro w hSw;go_simp
  (try simp only[Act.put,sIx,sZ0,sZ1])
  refine lkZ rfl (fun K hK=>?_)
  refine step_copy_run Y2.drew (by rfl) _ _ 58 58 3 (by rfl) (by rfl) _ _ (by rfl) (by rfl) HR3.out 107 rfl ?_
  refine hK.out _ _ ?_
  simp only[Exit.then]
  (try simp only[Act.put,sIx,sZ0,sZ1])
  clear hK K hHeld
  have hr4:=HR4.out
  go_wp2_with fail
  go_ret
  exact⟨rfl,HO4.out,HG.out⟩
end
end Go.Proofs.YtpecobmfabmpkaaGreatDoor
