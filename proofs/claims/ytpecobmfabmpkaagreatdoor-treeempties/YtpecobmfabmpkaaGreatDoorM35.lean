/- PvC -/
import Derived.Test.YtpecobmfabmpkaaGreatDoorM28
set_option maxRecDepth 20000
set_option maxHeartbeats 4000000
namespace Go.Proofs.YtpecobmfabmpkaaGreatDoor
open Go.RowKit
abbrev SlV:=Option Addr × Nat × Nat
structure PrV where
 k:Int
 a1:Int
 l1:Int
 e1:SlV
 k1:SlV
 a2:Int
 l2:Int
 e2:SlV
 k2:SlV
def slv13 (s:SlV):Value:=.slice s.1 s.2.1 s.2.2
def prc (x:PrV):List Value:=[.int .i64 x.k,.int .i64 x.a1,.int .i64 x.l1,slv13 x.e1,slv13 x.k1,.int .i64 x.a2,.int .i64 x.l2,slv13 x.e2,slv13 x.k2]
abbrev rtP13:RT PrV:=⟨212,215,9,136,.agg #[.int .i64 0,.int .i64 0,.int .i64 0,.slice none 0 0,.slice none 0 0,.int .i64 0,.int .i64 0,.slice none 0 0,.slice none 0 0],prc⟩
theorem okP13:RtOK rtP13 :=
 ⟨Tryz.underlying212,by kernel_rfl,rfl,by intro u hu;simp[Value.cells] at hu;rcases hu with rfl|rfl|rfl|rfl<;>rfl,by decide,by decide,fun _=>rfl,by
  intro x u hu
  simp only[prc,List.mem_cons,List.not_mem_nil,or_false] at hu
  rcases hu with rfl|rfl|rfl|rfl|rfl|rfl|rfl|rfl|rfl<;>rfl⟩
def PrOk (w:World)(base:Nat)(ks:List Nat)(lf:Nat→List Et)(i s:Nat)(ke kk:SlV)(x:PrV):Prop :=
 (∃(i1 s1:Nat) (e1 k1:SlV) (v:Value) (L:List Eq3),i1+1=i∧ks[i1]?=some s1∧x=⟨(i1:Int),(s1:Int),0,e1,k1,(s:Int),0,ke,kk⟩∧PgO w base (s1:Int) ⟨0,lf i1,[]⟩ v (slv13 e1) (slv13 k1) L) ∨
 (∃(s2:Nat) (e2 k2:SlV) (v:Value) (L:List Eq3),ks[i+1]?=some s2∧x=⟨(i:Int),(s:Int),0,ke,kk,(s2:Int),0,e2,k2⟩∧PgO w base (s2:Int) ⟨0,lf (i+1),[]⟩ v (slv13 e2) (slv13 k2) L)
theorem own_low13 {w:World}{base base':Nat}{at_:Int}{p:Pg}{v ve vk:Value}{L:List Eq3}(h:PgO w base at_ p v ve vk L)(hb:base'≤base):PgO w base' at_ p v ve vk L:=⟨h.v,own_base h.e hb,own_base h.k hb,h.es,h.x⟩
theorem PrOk.below {w w':World}{base:Nat}{ks:List Nat}{lf:Nat→List Et}{i s:Nat}{ke kk:SlV}{x:PrV}(h:PrOk w base ks lf i s ke kk x)(hb:Below w.heap.size w w'):PrOk w' base ks lf i s ke kk x:=by
 rcases h with⟨i1,s1,e1,k1,v,L,h1,h2,h3,h4⟩|⟨s2,e2,k2,v,L,h2,h3,h4⟩
 ·exact .inl ⟨i1,s1,e1,k1,v,L,h1,h2,h3,h4.below hb⟩
 ·exact .inr ⟨s2,e2,k2,v,L,h2,h3,h4.below hb⟩
theorem PrOk.keep {w w':World}{base:Nat}{ks:List Nat}{lf:Nat→List Et}{i s:Nat}{ke kk:SlV}{x:PrV}(h:PrOk w base ks lf i s ke kk x)(hb:KeepO UE w w'):PrOk w' base ks lf i s ke kk x:=by
 rcases h with⟨i1,s1,e1,k1,v,L,h1,h2,h3,h4⟩|⟨s2,e2,k2,v,L,h2,h3,h4⟩
 ·exact .inl ⟨i1,s1,e1,k1,v,L,h1,h2,h3,h4.keep hb⟩
 ·exact .inr ⟨s2,e2,k2,v,L,h2,h3,h4.keep hb⟩
def BesPost (w:World)(ks:List Nat)(lf:Nat→List Et)(i s:Nat)(ke kk:SlV)(e:Ending)(w':World):Prop:=(∃v xs,e=.returned v∧OwnRw rtP13 w' w.heap.size v xs∧xs.length≤2∧∀x∈xs,PrOk w' w.heap.size ks lf i s ke kk x)∧Below w.heap.size w w'
theorem codBeside (w:World)(S J P base m:Nat)(t:Tl)(j:Jl)(x0:Int)(pa ka:Option Addr)(pn pc n kc i s:Nat)(ke kk:SlV)(ks:List Nat)(lf:Nat→List Et)(h:SpAx w S J P base t j)(hf:Fit t j m)(hz:RdZ w (.slice ka n kc) ks)(hl:KidL t j ks lf)(hks:ks.length≤1000)(hi:i<ks.length):
  Calls Tryz.prog 151 #[gT S,.agg #[.int .i64 x0,.int .i64 1,.slice pa pn pc,.slice ka n kc],.int .i64 (i:Int),.agg #[.int .i64 (s:Int),.int .i64 0,slv13 ke,slv13 kk]] w (BesPost w ks lf i s ke kk):=by
 have hn:n=ks.length:=by obtain⟨_,_,e1,_⟩:=hz;injection e1
 unfold slv13 gT
 have W1:Below w.heap.size w (((w.alloc (.cells #[.pointer (some ⟨S,0,none⟩)] 87)).alloc (.cells #[.int .i64 x0,.int .i64 1,.slice pa pn pc,.slice ka n kc] 133)).alloc (.cells #[.int .i64 (s:Int),.int .i64 0,.slice ke.1 ke.2.1 ke.2.2,.slice kk.1 kk.2.1 kk.2.2] 133)):=(((Below.refl _ w).alloc (Nat.le_refl _) _).alloc (by simp) _).alloc (by simp;omega) _
 have k0:Blk (((w.alloc (.cells #[.pointer (some ⟨S,0,none⟩)] 87)).alloc (.cells #[.int .i64 x0,.int .i64 1,.slice pa pn pc,.slice ka n kc] 133)).alloc (.cells #[.int .i64 (s:Int),.int .i64 0,.slice ke.1 ke.2.1 ke.2.2,.slice kk.1 kk.2.1 kk.2.2] 133)) w.heap.size 87 [.pointer (some ⟨S,0,none⟩)]:=((Blk.newAt w w.heap.size 87 #[.pointer (some ⟨S,0,none⟩)] [.pointer (some ⟨S,0,none⟩)] rfl rfl).alloc _).alloc _
 have k1:Blk (((w.alloc (.cells #[.pointer (some ⟨S,0,none⟩)] 87)).alloc (.cells #[.int .i64 x0,.int .i64 1,.slice pa pn pc,.slice ka n kc] 133)).alloc (.cells #[.int .i64 (s:Int),.int .i64 0,.slice ke.1 ke.2.1 ke.2.2,.slice kk.1 kk.2.1 kk.2.2] 133)) (w.heap.size+1) 133 [.int .i64 x0,.int .i64 1,.slice pa pn pc,.slice ka n kc]:=(Blk.newAt _ (w.heap.size+1) 133 _ _ (by simp) rfl).alloc _
 have k2:Blk (((w.alloc (.cells #[.pointer (some ⟨S,0,none⟩)] 87)).alloc (.cells #[.int .i64 x0,.int .i64 1,.slice pa pn pc,.slice ka n kc] 133)).alloc (.cells #[.int .i64 (s:Int),.int .i64 0,.slice ke.1 ke.2.1 ke.2.2,.slice kk.1 kk.2.1 kk.2.2] 133)) (w.heap.size+2) 133 [.int .i64 (s:Int),.int .i64 0,.slice ke.1 ke.2.1 ke.2.2,.slice kk.1 kk.2.1 kk.2.2]:=Blk.newAt _ (w.heap.size+2) 133 _ _ (by simp) rfl
 generalize hW:((w.alloc (.cells #[.pointer (some ⟨S,0,none⟩)] 87)).alloc (.cells #[.int .i64 x0,.int .i64 1,.slice pa pn pc,.slice ka n kc] 133)).alloc (.cells #[.int .i64 (s:Int),.int .i64 0,.slice ke.1 ke.2.1 ke.2.2,.slice kk.1 kk.2.1 kk.2.2] 133)=Y0 at *
 have hA0:=SpAx.keep h (KeepT.of_below W1)
 have hz0:RdZ Y0 (.slice ka n kc) ks:=hz.keep (KeepO.of_below W1)
 have HKd:Hid (∀(W:World) (i2 s2:Nat),Below Y0.heap.size Y0 W→ks[i2]?=some s2→Calls Tryz.prog 72 #[.agg #[.pointer (some ⟨S,0,none⟩)],.agg #[.int .i64 x0,.int .i64 1,.slice pa pn pc,.slice ka n kc],.int .i64 ((i2:Nat):Int)] W fun e w'=>(∃v ve vk L,e=.returned v∧PgO w' W.heap.size (s2:Int) ⟨0,lf i2,[]⟩ v ve vk L)∧Below W.heap.size W w'):=fun W i2 s2 hW hi2=>by
  obtain⟨f1,f2,f3,_⟩:=hl i2 s2 hi2
  exact pgKid W S J P base m t j x0 1 (.slice pa pn pc) (.slice ka n kc) ks i2 s2 ⟨0,lf i2,[]⟩ (SpAx.keep hA0 (KeepT.of_below hW)) hf (hz0.keep (KeepO.of_below hW)) hi2 f1 f2 f3 rfl (by omega)
 have HCt:Hid (∀W,KeepO UE Y0 W→Blk W w.heap.size 87 [.pointer (some ⟨S,0,none⟩)]→Blk W (w.heap.size+1) 133 [.int .i64 x0,.int .i64 1,.slice pa pn pc,.slice ka n kc]→Blk W (w.heap.size+2) 133 [.int .i64 (s:Int),.int .i64 0,.slice ke.1 ke.2.1 ke.2.2,.slice kk.1 kk.2.1 kk.2.2]→W.cell? ⟨w.heap.size,0,none⟩=some (.pointer (some ⟨S,0,none⟩))∧W.cell? ⟨w.heap.size+1,0,none⟩=some (.int .i64 x0)∧W.cell? ⟨w.heap.size+1,1,none⟩=some (.int .i64 1)∧W.cell? ⟨w.heap.size+1,2,none⟩=some (.slice pa pn pc)∧W.cell? ⟨w.heap.size+1,3,none⟩=some (.slice ka n kc)∧W.cell? ⟨w.heap.size+2,0,none⟩=some (.int .i64 (s:Int))∧W.cell? ⟨w.heap.size+2,1,none⟩=some (.int .i64 0)∧W.cell? ⟨w.heap.size+2,2,none⟩=some (.slice ke.1 ke.2.1 ke.2.2)∧W.cell? ⟨w.heap.size+2,3,none⟩=some (.slice kk.1 kk.2.1 kk.2.2)):=fun W _ b0 b1 b2 =>
  ⟨b0.cell 0,b1.cell 0,b1.cell 1,b1.cell 2,b1.cell 3,b2.cell 0,b2.cell 1,b2.cell 2,b2.cell 3⟩
 have HB0:=mkHid k0
 have HB1:=mkHid k1
 have HB2:=mkHid k2
 have HW1:=mkHid W1
 have c0:=k0.cell 0
 have d3:=k1.cell 3
 simp only[gZ0,gZ1] at c0 d3
 have hbsz:w.heap.size≤Y0.heap.size:=W1.size
 have HHi:=mkHid hi
 have hn1000:n≤1000:=by omega
 have HN:=mkHid hn
 have hin:i<n:=by rw[hn];exact hi
 clear h hf hz hl hA0 hz0 k0 k1 k2 W1 hn hi hks
 go_enter Tryz.func151,Tryz.ntmps151
 go_upto_region 2 with fail
 (try rw[hW])
 clear hW
 rcases Nat.eq_zero_or_pos i with hi0|hi0
 ·have hlt:decide ((0:Int)<(i:Int))=false:=decide_eq_false (by omega)
  have hlt0:¬0<i:=by omega
  have hV1:OwnRw rtP13 Y0 Y0.heap.size (.slice none 0 0) []:=OwnRw.nil _ _ _
  obtain⟨V1,hVe⟩:∃V1,V1=Value.slice none 0 0:=⟨_,rfl⟩
  rw[←hVe] at hV1
  clear hi0
  go_upto_region 4 with fail
  simp only[←hVe]
  clear hVe
  have hP4:=(HB1.out.on (Below.refl Y0.heap.size Y0)).cell 3
  simp only[gZ0,gZ1] at hP4
  rcases Nat.lt_or_ge (i+1) n with hj|hj
  ·have hlj:decide ((i:Int)+1<(n:Int))=true:=decide_eq_true (by omega)
   have hwk:IntKind.i64.wrap ((i:Int)+1)=(i:Int)+1:=wrapi64_in _ (by omega) (by omega)
   obtain⟨sb,hsb⟩:∃sb,ks[i+1]?=some sb:=⟨ks[i+1]'(by have:=HN.out;omega),List.getElem?_eq_getElem _⟩
   go_upto_region 5 with fail
   have hyD:Below Y0.heap.size Y0 Y0.drew:=((Below.refl Y0.heap.size Y0)).trans ((Below.refl _ Y0).drew)
   have HSt:=HCt.out Y0.drew (KeepO.of_below hyD) (HB0.out.on hyD) (HB1.out.on hyD) (HB2.out.on hyD)
   refine lk0 (fun W=>W.cell? ⟨w.heap.size,0,none⟩=some (.pointer (some ⟨S,0,none⟩))∧W.cell? ⟨w.heap.size+1,0,none⟩=some (.int .i64 x0)∧W.cell? ⟨w.heap.size+1,1,none⟩=some (.int .i64 1)∧W.cell? ⟨w.heap.size+1,2,none⟩=some (.slice pa pn pc)∧W.cell? ⟨w.heap.size+1,3,none⟩=some (.slice ka n kc)∧W.cell? ⟨w.heap.size+2,0,none⟩=some (.int .i64 (s:Int))∧W.cell? ⟨w.heap.size+2,1,none⟩=some (.int .i64 0)∧W.cell? ⟨w.heap.size+2,2,none⟩=some (.slice ke.1 ke.2.1 ke.2.2)∧W.cell? ⟨w.heap.size+2,3,none⟩=some (.slice kk.1 kk.2.1 kk.2.2)) 11 HSt (fun hHeld=>?_)
   refine lkT 30 0 (V1) rfl (Or.inl ⟨by rfl,?_⟩) hHeld ?_
   ·intro w hSw;go_simp
   (try simp only[Act.put,sIx,sZ0,sZ1])
   refine lkT 31 1 (.int .i64 (i:Int)) rfl (Or.inl ⟨by rfl,?_⟩) hHeld ?_
   ·intro w hSw;go_simp
   (try simp only[Act.put,sIx,sZ0,sZ1])
   refine lkT 32 2 (.agg #[.int .i64 (s:Int),.int .i64 0,.slice ke.1 ke.2.1 ke.2.2,.slice kk.1 kk.2.1 kk.2.2]) rfl (Or.inl ⟨by rfl,?_⟩) hHeld ?_
   ·intro w hSw;obtain⟨s0,s1,s2,s3,s4,s5,s6,s7,s8⟩:=hSw;go_simp
   (try simp only[Act.put,sIx,sZ0,sZ1])
   refine lkT 33 3 (.agg #[.pointer (some ⟨S,0,none⟩)]) rfl (Or.inl ⟨by rfl,?_⟩) hHeld ?_
   ·intro w hSw;obtain⟨s0,s1,s2,s3,s4,s5,s6,s7,s8⟩:=hSw;go_simp
   (try simp only[Act.put,sIx,sZ0,sZ1])
   refine lkT 34 4 (.agg #[.int .i64 x0,.int .i64 1,.slice pa pn pc,.slice ka n kc]) rfl (Or.inl ⟨by rfl,?_⟩) hHeld ?_
   ·intro w hSw;obtain⟨s0,s1,s2,s3,s4,s5,s6,s7,s8⟩:=hSw;go_simp
   (try simp only[Act.put,sIx,sZ0,sZ1])
   refine lkT 35 5 (.int .i64 (i:Int)) rfl (Or.inl ⟨by rfl,?_⟩) hHeld ?_
   ·intro w hSw;go_simp
   (try simp only[Act.put,sIx,sZ0,sZ1])
   refine lkT 36 6 (.int .i64 ((i:Int)+1)) rfl (Or.inl ⟨by rfl,?_⟩) hHeld ?_
   ·intro w hSw;go_simp<;>(try rw[hwk])
   (try simp only[Act.put,sIx,sZ0,sZ1])
   have hKd:=HKd.out _ (i+1) _ hyD hsb
   rw[show (((i+1:Nat)):Int)=(i:Int)+1 from rfl] at hKd
   refine lk1 7 rfl (fun K hK=>?_)
   go_simp
   refine hKd.mono ?_
   rintro r yb ⟨⟨vb,veb,vkb,Lb,rfl,hpb⟩,hbb⟩
   obtain⟨eab,ecb,kab,kcb,hveb,hvkb⟩:=hpb.r.forms
   subst hveb hvkb
   have hvvb:=hpb.v
   subst hvvb
   generalize (Pg.mk 0 (lf (i+1)) []).es.length=enb at hpb ⊢
   generalize (Pg.mk 0 (lf (i+1)) []).ks.length=knb at hpb ⊢
   unfold pgc
   go_simp
   have hyA:=hyD.trans (hbb.mono hyD.size)
   refine hK.out _ _ (HCt.out _ (KeepO.of_below hyA) (HB0.out.on hyA) (HB1.out.on hyA) (HB2.out.on hyA)) (fun hHeld=>?_)
   (try simp only[Act.put,sIx,sZ0,sZ1])
   clear hK K hKd
   refine lkT 38 8 (.agg #[.int .i64 (i:Int),.int .i64 (s:Int),.int .i64 0,.slice ke.1 ke.2.1 ke.2.2,.slice kk.1 kk.2.1 kk.2.2,.int .i64 (sb:Int),.int .i64 0,.slice eab enb ecb,.slice kab knb kcb]) rfl (Or.inl ⟨by rfl,?_⟩) hHeld ?_
   ·intro w hSw;go_simp
   (try simp only[Act.put,sIx,sZ0,sZ1])
   refine lk1 9 rfl (fun K hK=>?_)
   go_simp
   have kBb:Blk (yb.alloc (.cells (prc (⟨(i:Int),(s:Int),0,ke,kk,(sb:Int),0,(eab,enb,ecb),(kab,knb,kcb)⟩:PrV)).toArray 215)) yb.heap.size 215 (prc (⟨(i:Int),(s:Int),0,ke,kk,(sb:Int),0,(eab,enb,ecb),(kab,knb,kcb)⟩:PrV)):=Blk.new yb _ _
   have hyB:=hyA.alloc hyA.size (.cells (prc (⟨(i:Int),(s:Int),0,ke,kk,(sb:Int),0,(eab,enb,ecb),(kab,knb,kcb)⟩:PrV)).toArray 215)
   refine hK.out _ _ (HCt.out _ (KeepO.of_below hyB) (HB0.out.on hyB) (HB1.out.on hyB) (HB2.out.on hyB)) (fun hHeld=>?_)
   (try simp only[Act.put,sIx,sZ0,sZ1])
   clear hK K
   have hyC:Below yb.heap.size yb (yb.alloc (.cells (prc (⟨(i:Int),(s:Int),0,ke,kk,(sb:Int),0,(eab,enb,ecb),(kab,knb,kcb)⟩:PrV)).toArray 215)):=(Below.refl _ yb).alloc (Nat.le_refl _) _
   have hOw:OwnRw rtP13 (yb.alloc (.cells (prc (⟨(i:Int),(s:Int),0,ke,kk,(sb:Int),0,(eab,enb,ecb),(kab,knb,kcb)⟩:PrV)).toArray 215)) Y0.heap.size V1 []:=(((hV1).on (Below.refl _ Y0).drew).on hbb).on hyC
   refine lk1 10 rfl (fun K hK=>?_)
   refine step_appRw okP13 (yb.alloc (.cells (prc (⟨(i:Int),(s:Int),0,ke,kk,(sb:Int),0,(eab,enb,ecb),(kab,knb,kcb)⟩:PrV)).toArray 215)) rfl _ _ rfl Y0.heap.size V1 [] rfl hOw (some ⟨yb.heap.size,0,none⟩) 1 1 [(⟨(i:Int),(s:Int),0,ke,kk,(sb:Int),0,(eab,enb,ecb),(kab,knb,kcb)⟩:PrV)] rfl kBb.srcC (by simp) hyB.size 40 rfl ?_
   intro Vb zb hob hgb
   have hTb:KeepT [215] _ zb:=KeepT.grownC hOw hgb
   have hbzb:=(Below.refl Y0.heap.size (yb.alloc (.cells (prc (⟨(i:Int),(s:Int),0,ke,kk,(sb:Int),0,(eab,enb,ecb),(kab,knb,kcb)⟩:PrV)).toArray 215))).grown hgb hyB.size (fun k e=>(hOw.lt e).1)
   have hbyb:=hyB.trans hbzb
   have hPkb:KeepO UE yb zb:=(KeepO.of_below hyC).trans (KeepO.ofT hTb (by decide))
   have hPob:PrOk zb w.heap.size ks lf i s ke kk (⟨(i:Int),(s:Int),0,ke,kk,(sb:Int),0,(eab,enb,ecb),(kab,knb,kcb)⟩:PrV):=.inr ⟨sb,(eab,enb,ecb),(kab,knb,kcb),_,Lb,hsb,rfl,own_low13 (hpb.keep hPkb) (Nat.le_trans hbsz hyD.size)⟩
   refine hK.out _ _ (HCt.out _ (KeepO.of_below hbyb) (HB0.out.on hbyb) (HB1.out.on hbyb) (HB2.out.on hbyb)) (fun hHeld=>?_)
   (try simp only[Act.put,sIx,sZ0,sZ1])
   clear hK K
   refine lkZ rfl (fun K hK=>?_)
   go_simp
   refine hK.out _ _ ?_
   (try simp only[Exit.then])
   (try simp only[Act.put,sIx,sZ0,sZ1])
   clear hK K hHeld
   have HF:=mkHid (And.intro hob (And.intro hPob (And.intro hbyb hPkb)))
   have hPkz:KeepO UE Y0 zb:=(KeepO.of_below ((Below.refl _ Y0).drew.trans hbb)).trans hPkb
   clear hOw hob hPob hbyb hTb hbzb hgb kBb hyA hyB hyC hyD HSt
   go_wp2_with fail
   go_ret
   refine⟨⟨_,_,rfl,HF.out.1.base hbsz,by simp,fun x hx=>?_⟩,HW1.out.trans (HF.out.2.2.1.mono hbsz)⟩
   rw[List.mem_singleton.1 hx];exact HF.out.2.1
  ·have hlj:decide ((i:Int)+1<(n:Int))=false:=decide_eq_false (by omega)
   have hwk:IntKind.i64.wrap ((i:Int)+1)=(i:Int)+1:=wrapi64_in _ (by omega) (by omega)
   have HF:=mkHid (And.intro (hV1) ((Below.refl Y0.heap.size Y0)))
   go_wp2_with fail
   go_ret
   refine⟨⟨_,_,rfl,HF.out.1.base hbsz,by simp,fun x hx=>?_⟩,HW1.out.trans (HF.out.2.mono hbsz)⟩
   cases hx
 ·obtain⟨i1,hi1⟩:∃i1,i1+1=i:=⟨i-1,by omega⟩
  have hlt:decide ((0:Int)<(i:Int))=true:=decide_eq_true (by omega)
  have hwi:IntKind.i64.wrap ((i:Int)-1)=(i1:Int):=by rw[wrapi64_in _ (by omega) (by omega)];omega
  obtain⟨sa,hsa⟩:∃sa,ks[i1]?=some sa:=⟨ks[i1]'(by have:=HN.out;omega),List.getElem?_eq_getElem _⟩
  have hV0:OwnRw rtP13 Y0 Y0.heap.size (.slice none 0 0) []:=OwnRw.nil _ _ _
  obtain⟨V0,hVe⟩:∃V0,V0=Value.slice none 0 0:=⟨_,rfl⟩
  rw[←hVe] at hV0
  go_upto_region 3 with fail
  simp only[←hVe]
  clear hVe
  have hyD:Below Y0.heap.size Y0 Y0.drew:=((Below.refl Y0.heap.size Y0)).trans ((Below.refl _ Y0).drew)
  have HSt:=HCt.out Y0.drew (KeepO.of_below hyD) (HB0.out.on hyD) (HB1.out.on hyD) (HB2.out.on hyD)
  refine lk0 (fun W=>W.cell? ⟨w.heap.size,0,none⟩=some (.pointer (some ⟨S,0,none⟩))∧W.cell? ⟨w.heap.size+1,0,none⟩=some (.int .i64 x0)∧W.cell? ⟨w.heap.size+1,1,none⟩=some (.int .i64 1)∧W.cell? ⟨w.heap.size+1,2,none⟩=some (.slice pa pn pc)∧W.cell? ⟨w.heap.size+1,3,none⟩=some (.slice ka n kc)∧W.cell? ⟨w.heap.size+2,0,none⟩=some (.int .i64 (s:Int))∧W.cell? ⟨w.heap.size+2,1,none⟩=some (.int .i64 0)∧W.cell? ⟨w.heap.size+2,2,none⟩=some (.slice ke.1 ke.2.1 ke.2.2)∧W.cell? ⟨w.heap.size+2,3,none⟩=some (.slice kk.1 kk.2.1 kk.2.2)) 12 HSt (fun hHeld=>?_)
  refine lkT 12 0 (V0) rfl (Or.inl ⟨by rfl,?_⟩) hHeld ?_
  ·intro w hSw;go_simp
  (try simp only[Act.put,sIx,sZ0,sZ1])
  refine lkT 13 1 (.int .i64 (i:Int)) rfl (Or.inl ⟨by rfl,?_⟩) hHeld ?_
  ·intro w hSw;go_simp
  (try simp only[Act.put,sIx,sZ0,sZ1])
  refine lkT 14 2 (.int .i64 (i1:Int)) rfl (Or.inl ⟨by rfl,?_⟩) hHeld ?_
  ·intro w hSw;go_simp<;>(try rw[hwi])
  (try simp only[Act.put,sIx,sZ0,sZ1])
  refine lkT 15 3 (.agg #[.pointer (some ⟨S,0,none⟩)]) rfl (Or.inl ⟨by rfl,?_⟩) hHeld ?_
  ·intro w hSw;obtain⟨s0,s1,s2,s3,s4,s5,s6,s7,s8⟩:=hSw;go_simp
  (try simp only[Act.put,sIx,sZ0,sZ1])
  refine lkT 16 4 (.agg #[.int .i64 x0,.int .i64 1,.slice pa pn pc,.slice ka n kc]) rfl (Or.inl ⟨by rfl,?_⟩) hHeld ?_
  ·intro w hSw;obtain⟨s0,s1,s2,s3,s4,s5,s6,s7,s8⟩:=hSw;go_simp
  (try simp only[Act.put,sIx,sZ0,sZ1])
  refine lkT 17 5 (.int .i64 (i:Int)) rfl (Or.inl ⟨by rfl,?_⟩) hHeld ?_
  ·intro w hSw;go_simp
  (try simp only[Act.put,sIx,sZ0,sZ1])
  refine lkT 18 6 (.int .i64 (i1:Int)) rfl (Or.inl ⟨by rfl,?_⟩) hHeld ?_
  ·intro w hSw;go_simp<;>(try rw[hwi])
  (try simp only[Act.put,sIx,sZ0,sZ1])
  refine lkT 20 8 (.agg #[.int .i64 (s:Int),.int .i64 0,.slice ke.1 ke.2.1 ke.2.2,.slice kk.1 kk.2.1 kk.2.2]) rfl (Or.inl ⟨by rfl,?_⟩) hHeld ?_
  ·intro w hSw;obtain⟨s0,s1,s2,s3,s4,s5,s6,s7,s8⟩:=hSw;go_simp
  (try simp only[Act.put,sIx,sZ0,sZ1])
  have hKd:=HKd.out _ i1 _ hyD hsa
  refine lk1 7 rfl (fun K hK=>?_)
  go_simp
  refine hKd.mono ?_
  rintro r ya ⟨⟨va,vea,vka,La,rfl,hpa⟩,hba⟩
  obtain⟨eaa,eca,kaa,kca,hvea,hvka⟩:=hpa.r.forms
  subst hvea hvka
  have hvva:=hpa.v
  subst hvva
  generalize (Pg.mk 0 (lf i1) []).es.length=ena at hpa ⊢
  generalize (Pg.mk 0 (lf i1) []).ks.length=kna at hpa ⊢
  unfold pgc
  go_simp
  have hyA:=hyD.trans (hba.mono hyD.size)
  refine hK.out _ _ (HCt.out _ (KeepO.of_below hyA) (HB0.out.on hyA) (HB1.out.on hyA) (HB2.out.on hyA)) (fun hHeld=>?_)
  (try simp only[Act.put,sIx,sZ0,sZ1])
  clear hK K hKd
  refine lkT 21 9 (.agg #[.int .i64 (i1:Int),.int .i64 (sa:Int),.int .i64 0,.slice eaa ena eca,.slice kaa kna kca,.int .i64 (s:Int),.int .i64 0,.slice ke.1 ke.2.1 ke.2.2,.slice kk.1 kk.2.1 kk.2.2]) rfl (Or.inl ⟨by rfl,?_⟩) hHeld ?_
  ·intro w hSw;go_simp
  (try simp only[Act.put,sIx,sZ0,sZ1])
  refine lk1 10 rfl (fun K hK=>?_)
  go_simp
  have kBa:Blk (ya.alloc (.cells (prc (⟨(i1:Int),(sa:Int),0,(eaa,ena,eca),(kaa,kna,kca),(s:Int),0,ke,kk⟩:PrV)).toArray 215)) ya.heap.size 215 (prc (⟨(i1:Int),(sa:Int),0,(eaa,ena,eca),(kaa,kna,kca),(s:Int),0,ke,kk⟩:PrV)):=Blk.new ya _ _
  have hyB:=hyA.alloc hyA.size (.cells (prc (⟨(i1:Int),(sa:Int),0,(eaa,ena,eca),(kaa,kna,kca),(s:Int),0,ke,kk⟩:PrV)).toArray 215)
  refine hK.out _ _ (HCt.out _ (KeepO.of_below hyB) (HB0.out.on hyB) (HB1.out.on hyB) (HB2.out.on hyB)) (fun hHeld=>?_)
  (try simp only[Act.put,sIx,sZ0,sZ1])
  clear hK K
  have hyC:Below ya.heap.size ya (ya.alloc (.cells (prc (⟨(i1:Int),(sa:Int),0,(eaa,ena,eca),(kaa,kna,kca),(s:Int),0,ke,kk⟩:PrV)).toArray 215)):=(Below.refl _ ya).alloc (Nat.le_refl _) _
  have hOw:OwnRw rtP13 (ya.alloc (.cells (prc (⟨(i1:Int),(sa:Int),0,(eaa,ena,eca),(kaa,kna,kca),(s:Int),0,ke,kk⟩:PrV)).toArray 215)) Y0.heap.size V0 []:=(((hV0).on (Below.refl _ Y0).drew).on hba).on hyC
  refine lk1 11 rfl (fun K hK=>?_)
  refine step_appRw okP13 (ya.alloc (.cells (prc (⟨(i1:Int),(sa:Int),0,(eaa,ena,eca),(kaa,kna,kca),(s:Int),0,ke,kk⟩:PrV)).toArray 215)) rfl _ _ rfl Y0.heap.size V0 [] rfl hOw (some ⟨ya.heap.size,0,none⟩) 1 1 [(⟨(i1:Int),(sa:Int),0,(eaa,ena,eca),(kaa,kna,kca),(s:Int),0,ke,kk⟩:PrV)] rfl kBa.srcC (by simp) hyB.size 23 rfl ?_
  intro Va za hoa hga
  have hTa:KeepT [215] _ za:=KeepT.grownC hOw hga
  have hbza:=(Below.refl Y0.heap.size (ya.alloc (.cells (prc (⟨(i1:Int),(sa:Int),0,(eaa,ena,eca),(kaa,kna,kca),(s:Int),0,ke,kk⟩:PrV)).toArray 215))).grown hga hyB.size (fun k e=>(hOw.lt e).1)
  have hbya:=hyB.trans hbza
  have hPka:KeepO UE ya za:=(KeepO.of_below hyC).trans (KeepO.ofT hTa (by decide))
  have hPoa:PrOk za w.heap.size ks lf i s ke kk (⟨(i1:Int),(sa:Int),0,(eaa,ena,eca),(kaa,kna,kca),(s:Int),0,ke,kk⟩:PrV):=.inl ⟨i1,sa,(eaa,ena,eca),(kaa,kna,kca),_,La,hi1,hsa,rfl,own_low13 (hpa.keep hPka) (Nat.le_trans hbsz hyD.size)⟩
  refine hK.out _ _ (HCt.out _ (KeepO.of_below hbya) (HB0.out.on hbya) (HB1.out.on hbya) (HB2.out.on hbya)) (fun hHeld=>?_)
  (try simp only[Act.put,sIx,sZ0,sZ1])
  clear hK K
  refine lkZ rfl (fun K hK=>?_)
  go_simp
  refine hK.out _ _ ?_
  (try simp only[Exit.then])
  (try simp only[Act.put,sIx,sZ0,sZ1])
  clear hK K hHeld
  have HPa:=mkHid hPoa
  have HOa:=mkHid hoa
  have HBa:=mkHid hbya
  clear hOw hPoa hoa hbya hTa hbza hga kBa hyA hyB hyC hyD HSt hPka hpa hba hV0
  have hP4:=(HB1.out.on HBa.out).cell 3
  simp only[gZ0,gZ1] at hP4
  rcases Nat.lt_or_ge (i+1) n with hj|hj
  ·have hlj:decide ((i:Int)+1<(n:Int))=true:=decide_eq_true (by omega)
   have hwk:IntKind.i64.wrap ((i:Int)+1)=(i:Int)+1:=wrapi64_in _ (by omega) (by omega)
   obtain⟨sb,hsb⟩:∃sb,ks[i+1]?=some sb:=⟨ks[i+1]'(by have:=HN.out;omega),List.getElem?_eq_getElem _⟩
   go_upto_region 5 with fail
   have hyD:Below Y0.heap.size Y0 za.drew:=(HBa.out).trans ((Below.refl _ za).drew)
   have HSt:=HCt.out za.drew (KeepO.of_below hyD) (HB0.out.on hyD) (HB1.out.on hyD) (HB2.out.on hyD)
   refine lk0 (fun W=>W.cell? ⟨w.heap.size,0,none⟩=some (.pointer (some ⟨S,0,none⟩))∧W.cell? ⟨w.heap.size+1,0,none⟩=some (.int .i64 x0)∧W.cell? ⟨w.heap.size+1,1,none⟩=some (.int .i64 1)∧W.cell? ⟨w.heap.size+1,2,none⟩=some (.slice pa pn pc)∧W.cell? ⟨w.heap.size+1,3,none⟩=some (.slice ka n kc)∧W.cell? ⟨w.heap.size+2,0,none⟩=some (.int .i64 (s:Int))∧W.cell? ⟨w.heap.size+2,1,none⟩=some (.int .i64 0)∧W.cell? ⟨w.heap.size+2,2,none⟩=some (.slice ke.1 ke.2.1 ke.2.2)∧W.cell? ⟨w.heap.size+2,3,none⟩=some (.slice kk.1 kk.2.1 kk.2.2)) 11 HSt (fun hHeld=>?_)
   refine lkT 30 0 (Va) rfl (Or.inl ⟨by rfl,?_⟩) hHeld ?_
   ·intro w hSw;go_simp
   (try simp only[Act.put,sIx,sZ0,sZ1])
   refine lkT 31 1 (.int .i64 (i:Int)) rfl (Or.inl ⟨by rfl,?_⟩) hHeld ?_
   ·intro w hSw;go_simp
   (try simp only[Act.put,sIx,sZ0,sZ1])
   refine lkT 32 2 (.agg #[.int .i64 (s:Int),.int .i64 0,.slice ke.1 ke.2.1 ke.2.2,.slice kk.1 kk.2.1 kk.2.2]) rfl (Or.inl ⟨by rfl,?_⟩) hHeld ?_
   ·intro w hSw;obtain⟨s0,s1,s2,s3,s4,s5,s6,s7,s8⟩:=hSw;go_simp
   (try simp only[Act.put,sIx,sZ0,sZ1])
   refine lkT 33 3 (.agg #[.pointer (some ⟨S,0,none⟩)]) rfl (Or.inl ⟨by rfl,?_⟩) hHeld ?_
   ·intro w hSw;obtain⟨s0,s1,s2,s3,s4,s5,s6,s7,s8⟩:=hSw;go_simp
   (try simp only[Act.put,sIx,sZ0,sZ1])
   refine lkT 34 4 (.agg #[.int .i64 x0,.int .i64 1,.slice pa pn pc,.slice ka n kc]) rfl (Or.inl ⟨by rfl,?_⟩) hHeld ?_
   ·intro w hSw;obtain⟨s0,s1,s2,s3,s4,s5,s6,s7,s8⟩:=hSw;go_simp
   (try simp only[Act.put,sIx,sZ0,sZ1])
   refine lkT 35 5 (.int .i64 (i:Int)) rfl (Or.inl ⟨by rfl,?_⟩) hHeld ?_
   ·intro w hSw;go_simp
   (try simp only[Act.put,sIx,sZ0,sZ1])
   refine lkT 36 6 (.int .i64 ((i:Int)+1)) rfl (Or.inl ⟨by rfl,?_⟩) hHeld ?_
   ·intro w hSw;go_simp<;>(try rw[hwk])
   (try simp only[Act.put,sIx,sZ0,sZ1])
   have hKd:=HKd.out _ (i+1) _ hyD hsb
   rw[show (((i+1:Nat)):Int)=(i:Int)+1 from rfl] at hKd
   refine lk1 7 rfl (fun K hK=>?_)
   go_simp
   refine hKd.mono ?_
   rintro r yb ⟨⟨vb,veb,vkb,Lb,rfl,hpb⟩,hbb⟩
   obtain⟨eab,ecb,kab,kcb,hveb,hvkb⟩:=hpb.r.forms
   subst hveb hvkb
   have hvvb:=hpb.v
   subst hvvb
   generalize (Pg.mk 0 (lf (i+1)) []).es.length=enb at hpb ⊢
   generalize (Pg.mk 0 (lf (i+1)) []).ks.length=knb at hpb ⊢
   unfold pgc
   go_simp
   have hyA:=hyD.trans (hbb.mono hyD.size)
   refine hK.out _ _ (HCt.out _ (KeepO.of_below hyA) (HB0.out.on hyA) (HB1.out.on hyA) (HB2.out.on hyA)) (fun hHeld=>?_)
   (try simp only[Act.put,sIx,sZ0,sZ1])
   clear hK K hKd
   refine lkT 38 8 (.agg #[.int .i64 (i:Int),.int .i64 (s:Int),.int .i64 0,.slice ke.1 ke.2.1 ke.2.2,.slice kk.1 kk.2.1 kk.2.2,.int .i64 (sb:Int),.int .i64 0,.slice eab enb ecb,.slice kab knb kcb]) rfl (Or.inl ⟨by rfl,?_⟩) hHeld ?_
   ·intro w hSw;go_simp
   (try simp only[Act.put,sIx,sZ0,sZ1])
   refine lk1 9 rfl (fun K hK=>?_)
   go_simp
   have kBb:Blk (yb.alloc (.cells (prc (⟨(i:Int),(s:Int),0,ke,kk,(sb:Int),0,(eab,enb,ecb),(kab,knb,kcb)⟩:PrV)).toArray 215)) yb.heap.size 215 (prc (⟨(i:Int),(s:Int),0,ke,kk,(sb:Int),0,(eab,enb,ecb),(kab,knb,kcb)⟩:PrV)):=Blk.new yb _ _
   have hyB:=hyA.alloc hyA.size (.cells (prc (⟨(i:Int),(s:Int),0,ke,kk,(sb:Int),0,(eab,enb,ecb),(kab,knb,kcb)⟩:PrV)).toArray 215)
   refine hK.out _ _ (HCt.out _ (KeepO.of_below hyB) (HB0.out.on hyB) (HB1.out.on hyB) (HB2.out.on hyB)) (fun hHeld=>?_)
   (try simp only[Act.put,sIx,sZ0,sZ1])
   clear hK K
   have hyC:Below yb.heap.size yb (yb.alloc (.cells (prc (⟨(i:Int),(s:Int),0,ke,kk,(sb:Int),0,(eab,enb,ecb),(kab,knb,kcb)⟩:PrV)).toArray 215)):=(Below.refl _ yb).alloc (Nat.le_refl _) _
   have hOw:OwnRw rtP13 (yb.alloc (.cells (prc (⟨(i:Int),(s:Int),0,ke,kk,(sb:Int),0,(eab,enb,ecb),(kab,knb,kcb)⟩:PrV)).toArray 215)) Y0.heap.size Va ([]++[(⟨(i1:Int),(sa:Int),0,(eaa,ena,eca),(kaa,kna,kca),(s:Int),0,ke,kk⟩:PrV)]):=(((HOa.out).on (Below.refl _ za).drew).on hbb).on hyC
   refine lk1 10 rfl (fun K hK=>?_)
   refine step_appRw okP13 (yb.alloc (.cells (prc (⟨(i:Int),(s:Int),0,ke,kk,(sb:Int),0,(eab,enb,ecb),(kab,knb,kcb)⟩:PrV)).toArray 215)) rfl _ _ rfl Y0.heap.size Va ([]++[(⟨(i1:Int),(sa:Int),0,(eaa,ena,eca),(kaa,kna,kca),(s:Int),0,ke,kk⟩:PrV)]) rfl hOw (some ⟨yb.heap.size,0,none⟩) 1 1 [(⟨(i:Int),(s:Int),0,ke,kk,(sb:Int),0,(eab,enb,ecb),(kab,knb,kcb)⟩:PrV)] rfl kBb.srcC (by simp) hyB.size 40 rfl ?_
   intro Vb zb hob hgb
   have hTb:KeepT [215] _ zb:=KeepT.grownC hOw hgb
   have hbzb:=(Below.refl Y0.heap.size (yb.alloc (.cells (prc (⟨(i:Int),(s:Int),0,ke,kk,(sb:Int),0,(eab,enb,ecb),(kab,knb,kcb)⟩:PrV)).toArray 215))).grown hgb hyB.size (fun k e=>(hOw.lt e).1)
   have hbyb:=hyB.trans hbzb
   have hPkb:KeepO UE yb zb:=(KeepO.of_below hyC).trans (KeepO.ofT hTb (by decide))
   have hPob:PrOk zb w.heap.size ks lf i s ke kk (⟨(i:Int),(s:Int),0,ke,kk,(sb:Int),0,(eab,enb,ecb),(kab,knb,kcb)⟩:PrV):=.inr ⟨sb,(eab,enb,ecb),(kab,knb,kcb),_,Lb,hsb,rfl,own_low13 (hpb.keep hPkb) (Nat.le_trans hbsz hyD.size)⟩
   refine hK.out _ _ (HCt.out _ (KeepO.of_below hbyb) (HB0.out.on hbyb) (HB1.out.on hbyb) (HB2.out.on hbyb)) (fun hHeld=>?_)
   (try simp only[Act.put,sIx,sZ0,sZ1])
   clear hK K
   refine lkZ rfl (fun K hK=>?_)
   go_simp
   refine hK.out _ _ ?_
   (try simp only[Exit.then])
   (try simp only[Act.put,sIx,sZ0,sZ1])
   clear hK K hHeld
   have HF:=mkHid (And.intro hob (And.intro hPob (And.intro hbyb hPkb)))
   have hPkz:KeepO UE za zb:=(KeepO.of_below ((Below.refl _ za).drew.trans hbb)).trans hPkb
   clear hOw hob hPob hbyb hTb hbzb hgb kBb hyA hyB hyC hyD HSt
   go_wp2_with fail
   go_ret
   refine⟨⟨_,_,rfl,HF.out.1.base hbsz,by simp,fun x hx=>?_⟩,HW1.out.trans (HF.out.2.2.1.mono hbsz)⟩
   rcases List.mem_append.1 hx with h1|h1
   ·rw[List.mem_singleton.1 h1];exact HPa.out.keep hPkz
   ·rw[List.mem_singleton.1 h1];exact HF.out.2.1
  ·have hlj:decide ((i:Int)+1<(n:Int))=false:=decide_eq_false (by omega)
   have hwk:IntKind.i64.wrap ((i:Int)+1)=(i:Int)+1:=wrapi64_in _ (by omega) (by omega)
   have HF:=mkHid (And.intro (HOa.out) (HBa.out))
   go_wp2_with fail
   go_ret
   refine⟨⟨_,_,rfl,HF.out.1.base hbsz,by simp,fun x hx=>?_⟩,HW1.out.trans (HF.out.2.mono hbsz)⟩
   rw[List.mem_singleton.1 hx];exact HPa.out
end Go.Proofs.YtpecobmfabmpkaaGreatDoor
