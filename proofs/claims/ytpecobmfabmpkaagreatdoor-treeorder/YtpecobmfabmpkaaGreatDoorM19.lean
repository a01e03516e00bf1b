/- PuF InsI PuG -/
import Derived.Test.YtpecobmfabmpkaaGreatDoorM17
set_option maxRecDepth 20000
set_option maxHeartbeats 4000000
namespace Go.Proofs.YtpecobmfabmpkaaGreatDoor
section
open Go.RowKit
variable {fl:Nat}
theorem KS.over {base:Nat}{w0 a b:World}(h:KS base w0 a)(hb:Below w0.heap.size a b)(hlo:base≤w0.heap.size):KS base w0 b :=
 ⟨⟨Nat.le_trans h.o.size hb.4,fun k c t fz hk ht=>(hb.5 k (Array.getElem?_eq_some_iff.1 hk).1).trans (h.o.same k c t fz hk ht),fun k o hk ho=>(hb.5 k (Array.getElem?_eq_some_iff.1 hk).1).trans (h.o.ctl k o hk ho)⟩,h.b.trans (hb.mono hlo)⟩
def PgKeep (w w':World):Prop:=∀B cs,Blk w B 133 cs→Blk w' B 133 cs
theorem codInsLeaf (w w0:World)(S J P base m:Nat)(t:Tl)(j:Jl)(A B:Ps)(X:List Int)(s:Nat)(l:List Et)(v ve vk:Value)(L:List Eq3)(e:Et)(q:EtA)(h:SpAx w S J P base t j)(hF:FR t j m (A++(s,l):: B) X)(hK:KS base w0 w)(hp:PgO w w0.heap.size (s:Int) ⟨0,l,[]⟩ v ve vk L)
  (he:EtQ fl w e q) (hit:itemOk e.k e.v=true) (hroom:t.l.length+5≤48) (hdisk:X.length+(A++(s,l):: B).length<j.p.n-51) (hlo0:base≤w0.heap.size) (hfl:fl≤base:=by omega):
  Calls Tryz.prog 68 #[gT S,v,.agg (etc2 e q).toArray] w fun r w'=>(∃b t',r=.returned (.int .i64 b)∧SpAx w' S J P base t' j∧KeepPost t j m A B X s (putE13 l e.k e.v) b t')∧KS base w0 w'∧PgKeep w w':=by
 have hlo:=spcOK.lo h
 have hle:LfOk l:=(hF.lf (s,l) (List.mem_append_right A List.mem_cons_self)).ok
 obtain⟨ea,ec,ka,kc,rfl,rfl⟩:=hp.r.forms
 obtain rfl:=hp.v
 have hL:L.map Prod.fst=l:=hp.es
 have hLl:=hle.len
 have hsz0:w0.heap.size≤w.heap.size:=hK.o.size
 unfold gT
 have W1:Below w.heap.size w (((w.alloc (.cells #[.pointer (some ⟨S,0,none⟩)] 87)).alloc (.cells #[.int .i64 (s:Int),.int .i64 0,.slice ea l.length ec,.slice ka 0 kc] 133)).alloc (.cells (etc2 e q).toArray 64)):=(((Below.refl _ w).alloc (Nat.le_refl _) _).alloc (by simp) _).alloc (by simp;omega) _
 have k0:Blk (((w.alloc (.cells #[.pointer (some ⟨S,0,none⟩)] 87)).alloc (.cells #[.int .i64 (s:Int),.int .i64 0,.slice ea l.length ec,.slice ka 0 kc] 133)).alloc (.cells (etc2 e q).toArray 64)) w.heap.size 87 [.pointer (some ⟨S,0,none⟩)]:=((Blk.newAt w w.heap.size 87 #[.pointer (some ⟨S,0,none⟩)] [.pointer (some ⟨S,0,none⟩)] rfl rfl).alloc _).alloc _
 have k1:Blk (((w.alloc (.cells #[.pointer (some ⟨S,0,none⟩)] 87)).alloc (.cells #[.int .i64 (s:Int),.int .i64 0,.slice ea l.length ec,.slice ka 0 kc] 133)).alloc (.cells (etc2 e q).toArray 64)) (w.heap.size+1) 133 [.int .i64 (s:Int),.int .i64 0,.slice ea l.length ec,.slice ka 0 kc]:=(Blk.newAt _ (w.heap.size+1) 133 _ _ (by simp) rfl).alloc _
 have k2:Blk (((w.alloc (.cells #[.pointer (some ⟨S,0,none⟩)] 87)).alloc (.cells #[.int .i64 (s:Int),.int .i64 0,.slice ea l.length ec,.slice ka 0 kc] 133)).alloc (.cells (etc2 e q).toArray 64)) (w.heap.size+2) 64 (etc2 e q):=Blk.newAt _ (w.heap.size+2) 64 _ _ (by simp) rfl
 generalize hW:((w.alloc (.cells #[.pointer (some ⟨S,0,none⟩)] 87)).alloc (.cells #[.int .i64 (s:Int),.int .i64 0,.slice ea l.length ec,.slice ka 0 kc] 133)).alloc (.cells (etc2 e q).toArray 64)=Y0 at *
 have HPK:Hid (∀B cs,Blk w B 133 cs→B<w.heap.size∧Blk Y0 B 133 cs):=fun B cs hB=>⟨hB.lt,hB.on W1⟩
 have hA0:=SpAx.keep h (KeepT.of_below W1)
 have hK0:=hK.trans (KS.of_below W1 hlo)
 have HSt:=codSet13 Y0 (w.heap.size+1) w0.heap.size (s:Int) (.slice ea l.length ec) (.slice ka 0 kc) L e q k1 (hp.e.on W1) (fun x hx=>(hp.x x hx).below W1) (by rw[hL];exact hle.srt) (he.below W1) (by rw[hp.r.len];show l.length≤400;omega) (Nat.le_trans hsz0 W1.size) (by omega)
 rw[hL] at HSt
 obtain⟨ps,pi,pn,pz⟩:=put_leaf hle (k:=e.k) (v:=e.v) hit
 have HKp:Hid (∀ve' L' W,SpAx W S J P base t j→PgR fl W ⟨0,putE13 l e.k e.v,[]⟩ ve' (.slice ka 0 kc) L'→Calls Tryz.prog 104 #[.agg #[.pointer (some ⟨S,0,none⟩)],.agg #[.int .i64 (s:Int),.int .i64 0,ve',.slice ka 0 kc]] W fun r w'=>(∃b t',r=.returned (.int .i64 b)∧SpAx w' S J P base t' j∧KeepPost t j m A B X s (putE13 l e.k e.v) b t')∧KS base W w'):=fun ve' L' W hA hP =>
  codKeepLeaf W S J P base m t j A B X s l (putE13 l e.k e.v) ve' ka kc L' hA hF hP ps pi pn pz hroom hdisk
 have HA0:=mkHid hA0
 have HK0:=mkHid hK0
 have HB0:=mkHid k0
 have HL:=mkHid hL
 unfold etc2 at *
 have c0:=k0.cell 0
 have d0:=k1.cell 0
 have d1:=k1.cell 1
 have d2:=k1.cell 2
 have d3:=k1.cell 3
 have e0:=k2.cell 0
 have e1:=k2.cell 1
 simp only[gZ0,gZ1] at c0 d0 d1 d2 d3 e0 e1
 have HPr:=mkHid (show (pgc (s:Int) 0 (.slice ea l.length ec) (.slice ka 0 kc))=[.int .i64 (s:Int),.int .i64 0,.slice ea l.length ec,.slice ka 0 kc] from rfl)
 show Calls Tryz.prog _ #[_,.agg #[.int .i64 (s:Int),.int .i64 0,.slice ea l.length ec,.slice ka 0 kc],_] w _
 clear hF hp he hit hle hA0 hK0 k0 k1 k2 W1 hK h hL ps pi pn pz hLl HPr
 go_enter Tryz.func68,Tryz.ntmps68
 go_upto_region 1 with fail
 (try rw[hW])
 clear hW
 go_upto_region 2 with fail
 go_upto_region 3 with(go_at_call 103;refine HSt.mono ?_;rintro r1 y1 ⟨rfl,ve',L',kb,ho,hm,hx,hkt,hbl,hpk⟩;obtain⟨a',c',hv',_⟩:=ho.form;subst hv')
 have hA1:=HA0.out.keep13 (hkt.more (us:=T13) (by decide))
 have hP1:PgR fl y1 ⟨0,putE13 l e.k e.v,[]⟩ (.slice a' L'.length c') (.slice ka 0 kc) L':=⟨ho.rdq hx,⟨ka,kc,rfl,Nat.zero_le _,fun hp=>absurd hp (Nat.lt_irrefl 0)⟩,hm⟩
 have hKp:=HKp.out _ _ y1 hA1 hP1
 have KB0:=hkt.blk HB0.out (by decide)
 have hk1:=HK0.out.over hbl hlo0
 have c0:=KB0.cell 0
 have d0:=kb.cell 0
 have d1:=kb.cell 1
 have d2:=kb.cell 2
 have d3:=kb.cell 3
 simp only[gZ0,gZ1] at c0 d0 d1 d2 d3
 have HPK1:Hid (∀B cs,Blk w B 133 cs→Blk y1 B 133 cs):=fun B cs hB=>by
  have h1:=HPK.out B cs hB
  exact hpk B cs (by omega) h1.2
 clear HKp HSt hm hx ho hkt hbl hA1 hP1 KB0 kb hpk HPK
 have HK1:=mkHid hk1
 clear hk1
 go_wp2_with (go_at_call 104;refine hKp.mono ?_;rintro r2 y2 ⟨⟨b,t',rfl,hA2,hkp⟩,hk2⟩;have HR:=mkHid (And.intro hA2 (And.intro hkp hk2));clear hA2 hkp hk2)
 go_ret
 exact⟨⟨b,t',rfl,HR.out.1,HR.out.2.1⟩,HK1.out.trans HR.out.2.2,fun B cs hB=>HR.out.2.2.o.blk (HPK1.out B cs hB) (by decide)⟩
end
section
open Go.RowKit
theorem codInsertI (w:World)(base:Nat)(a:Option Addr)(n cap i B:Nat)(L:List Int)(x:Int)(hn:L.length=n)(h:OwnRw rtI13 w base (.slice a n cap) L)(hB:Blk w B 3 (rtI13.c x))(hi:i≤n)(hb:n≤1000)(hc:cap≤9223372036854775807)(hlo:base≤w.heap.size)(hne:∀g,a=some ⟨g,0,none⟩→B≠g):
  Calls Tryz.prog 105 #[.slice a n cap,.int .i64 (i:Int),.slice (some ⟨B,0,none⟩) 1 1] w fun e w'=>(∃v',e=.returned v'∧OwnRw rtI13 w' base v' (L.take i++x::L.drop i))∧w.grownBy w' (Value.slice a n cap).ownBlock:=by
 rcases Nat.lt_or_ge i n with hin|hin
 rotate_left
 ·obtain rfl:i=n:=by omega
  have hsl:∀W,(Instr.slice 58 (.slice a i cap) (some (.int .i64 (i:Int))) none none).run Tryz.prog W=.ok (.slice (cutC rtI13 a cap i) (i-i) (cap-i)) W:=fun W=>slLC okI13 a i cap i (Nat.le_refl _) W
  have HO:=mkHid h
  have HS:Hid (SrcC rtI13 w (some ⟨B,0,none⟩) 1 1 [x]):=hB.srcC
  have HLn:Hid (L.take i++x::L.drop i=L++[x]):=by unfold Hid;rw[←hn,List.take_length,List.drop_length]
  have HLl:=mkHid hn
  rw[HLn.out]
  clear h hB hn
  generalize cutC rtI13 a cap i=ca at *
  generalize i-i=c0 at *
  generalize cap-i=cc at *
  go_enter Tryz.func105,Tryz.ntmps105
  go_wp2_with (at_builtin;refine list_appC okI13 _ rfl (.tmp 23) (.tmp 24) rfl base _ L rfl HO.out (some ⟨B,0,none⟩) 1 1 [x] rfl HS.out (by rw[HLl.out];show (i+1) * 8≤_;omega) hlo ?_;intro v2 V2 ho2 hg2;have HO2:=mkHid ho2;have HG2:=mkHid hg2;clear ho2 hg2)
  go_ret
  exact⟨⟨_,rfl,HO2.out⟩,HG2.out⟩
 obtain⟨a',cap',he,hle,-,hcl⟩:=h.form okI13
 injection he with e1 e2 e3
 subst e1 e3
 clear e2
 obtain⟨g,rfl,hg0,hgl,-⟩:=hcl (by omega)
 have hBg:=hne g rfl
 have hlc:n≤cap:=by omega
 have hne1:((i:Int)==(n:Int))=false:=by rw[beq_eq_false_iff_ne];omega
 have hsl1:∀W,(Instr.slice 58 (.slice (some ⟨g,0,none⟩) n cap) (some (.int .i64 (i:Int))) none none).run Tryz.prog W=.ok (.slice (cutC rtI13 (some ⟨g,0,none⟩) cap i) (n-i) (cap-i)) W:=fun W=>slLC okI13 (some ⟨g,0,none⟩) n cap i hi W
 by_cases hroom:n+1≤cap
 ·have hgt:decide ((cap:Int)<(n:Int)+1)=false:=decide_eq_false (by omega)
  obtain⟨w1,w2,r1,r2,ho,hgb⟩:=ins_room okI13 (w:=w.drew) (h.on (Below.drew (Below.refl _ w))) hin hroom (show Blk w.drew B 3 (rtI13.c x) from hB) hBg 3 3
  have hslH:∀W,(Instr.slice 58 (.slice (some ⟨g,0,none⟩) n cap) none (some (.int .i64 ((n:Int)+1))) none).run Tryz.prog W=.ok (.slice (some ⟨g,0,none⟩) (n+1) cap) W:=fun W=>slHC okI13 (some ⟨g,0,none⟩) n cap (n+1) hroom W
  have hslA:∀W,(Instr.slice 58 (.slice (some ⟨g,0,none⟩) (n+1) cap) (some (.int .i64 ((i:Int)+1))) none none).run Tryz.prog W=.ok (.slice (cutC rtI13 (some ⟨g,0,none⟩) cap (i+1)) (n+1-(i+1)) (cap-(i+1))) W:=fun W=>slLC okI13 (some ⟨g,0,none⟩) (n+1) cap (i+1) (by omega) W
  have hslB:∀W,(Instr.slice 58 (.slice (some ⟨g,0,none⟩) (n+1) cap) (some (.int .i64 (i:Int))) none none).run Tryz.prog W=.ok (.slice (cutC rtI13 (some ⟨g,0,none⟩) cap i) (n+1-i) (cap-i)) W:=fun W=>slLC okI13 (some ⟨g,0,none⟩) (n+1) cap i (by omega) W
  have hc1:cutC rtI13 (some ⟨g,0,none⟩) cap (i+1)=some ⟨g,(i+1) * rtI13.k,none⟩:=cutC_some (by omega)
  obtain⟨cur,-,hgc,-,-,-,hsz,-⟩:=h.cur
  have hov:∀lb cb,(callFunc 147 #[.slice (some ⟨B,0,none⟩) 1 1,.slice (cutC rtI13 (some ⟨g,0,none⟩) cap (i+1)) lb cb]).run Tryz.prog w=.ok (.value (.bool false)) w:=fun lb cb=>by
   rw[hc1]
   exact overlapsI w B g ((i+1) * rtI13.k) (rtI13.c x) cur 1 1 lb cb hB hgc (by rw[hsz];show cap * 1≠0;omega) hBg
  have hw1:IntKind.i64.wrap ((i:Int)+1)=(i:Int)+1:=wrapi64_in _ (by omega) (by omega)
  have HO:=mkHid ho
  have HG:=mkHid hgb
  have HR1:=mkHid r1
  have HR2:=mkHid r2
  have Hnl:=mkHid hn
  clear h hB hn ho hgb r1 r2 hcl hg0 hgl hlo hle hne hroom hc1 hgc hsz
  generalize cutC rtI13 (some ⟨g,0,none⟩) cap i=cA at *
  generalize cutC rtI13 (some ⟨g,0,none⟩) cap (i+1)=cB at *
  generalize n-i=q1 at *
  generalize cap-i=q2 at *
  generalize n+1-(i+1)=q3 at *
  generalize cap-(i+1)=q4 at *
  generalize n+1-i=q5 at *
  generalize L.take i++x::L.drop i=L' at *
  go_enter Tryz.func105,Tryz.ntmps105
  go_upto_region 15 with fail
  refine lk0 (fun _=>True) 8 trivial (fun hHeld=>?_)
  refine lkC [4] 69 0 ?_ rfl (Or.inl ⟨by rfl,?_⟩) hHeld ?_
  rotate_left
  ·intro w hSw;go_simp;with_reducible rfl
  (try simp only[Act.put,sIx,sZ0,sZ1])
  refine lkC [3,4] 70 1 ?_ rfl (Or.inl ⟨by rfl,?_⟩) hHeld ?_
  rotate_left
  ·intro w hSw;go_simp;with_reducible rfl
  (try simp only[Act.put,sIx,sZ0,sZ1])
  refine lkC [3,4] 71 2 ?_ rfl (Or.inl ⟨by rfl,?_⟩) hHeld ?_
  rotate_left
  ·intro w hSw;go_simp;with_reducible rfl
  (try simp only[Act.put,sIx,sZ0,sZ1])
  refine lkC [4] 72 3 (.int .i64 ((i:Int)+1)) rfl (Or.inl ⟨by rfl,?_⟩) hHeld ?_
  ·intro w hSw;go_simp<;>(try rw[hw1])
  (try simp only[Act.put,sIx,sZ0,sZ1])
  refine lkC [] 73 4 (.slice cB q3 q4) rfl (Or.inl ⟨by rfl,?_⟩) hHeld ?_
  ·intro w hSw;go_simp
  (try simp only[Act.put,sIx,sZ0,sZ1])
  refine lkC [7] 74 5 ?_ rfl (Or.inl ⟨by rfl,?_⟩) hHeld ?_
  rotate_left
  ·intro w hSw;go_simp;with_reducible rfl
  (try simp only[Act.put,sIx,sZ0,sZ1])
  refine lkC [7] 75 6 ?_ rfl (Or.inl ⟨by rfl,?_⟩) hHeld ?_
  rotate_left
  ·intro w hSw;go_simp;with_reducible rfl
  (try simp only[Act.put,sIx,sZ0,sZ1])
  refine lkC [] 76 7 (.slice cA q5 q2) rfl (Or.inl ⟨by rfl,?_⟩) hHeld ?_
  ·intro w hSw;go_simp
  (try simp only[Act.put,sIx,sZ0,sZ1])
  refine lkZ rfl (fun K hK=>?_)
  refine step_copy_run w.drew (by rfl) _ _ 58 58 3 (by rfl) (by rfl) _ _ (by rfl) (by rfl) HR1.out 77 rfl ?_
  refine hK.out _ _ ?_
  simp only[Exit.then]
  (try simp only[Act.put,sIx,sZ0,sZ1])
  clear hK K hHeld
  go_wp2_with (refine list_copy_run _ rfl _ _ _ _ _ rfl rfl _ _ rfl rfl HR2.out ?_)
  go_ret
  exact⟨⟨_,rfl,HO.out⟩,(grown_tr (⟨rfl,rfl,rfl,Nat.le_refl _,fun _ _ _=>rfl⟩:w.grownBy w.drew (some g)) HG.out)⟩
 ·obtain rfl:cap=n:=by omega
  have hgt:decide ((cap:Int)<(cap:Int)+1)=true:=decide_eq_true (by omega)
  obtain⟨w1,w2,w3,cap2,H,hcap2,r0,r1,r2,ho,hbe⟩:=ins_grow okI13 3 Tryz.underlying3 h hin hB hlo (by show (cap+1) * 8≤_;omega) 58 3 3
  have hsub:((cap+1-i:Nat):Int)=(cap:Int)+1-(i:Int):=by omega
  rw[hsub] at r0
  have hslH:∀W,(Instr.slice 58 (.slice (some ⟨g,0,none⟩) cap cap) none (some (.int .i64 (i:Int))) none).run Tryz.prog W=.ok (.slice (some ⟨g,0,none⟩) i cap) W:=fun W=>slHC okI13 (some ⟨g,0,none⟩) cap cap i (by omega) W
  have hslA:∀W,(Instr.slice 58 (.slice (some ⟨H,0,none⟩) (cap+1) cap2) (some (.int .i64 (i:Int))) none none).run Tryz.prog W=.ok (.slice (cutC rtI13 (some ⟨H,0,none⟩) cap2 i) (cap+1-i) (cap2-i)) W:=fun W=>slLC okI13 (some ⟨H,0,none⟩) (cap+1) cap2 i (by omega) W
  have hslB:∀W,(Instr.slice 58 (.slice (some ⟨H,0,none⟩) (cap+1) cap2) (some (.int .i64 ((i:Int)+1))) none none).run Tryz.prog W=.ok (.slice (cutC rtI13 (some ⟨H,0,none⟩) cap2 (i+1)) (cap+1-(i+1)) (cap2-(i+1))) W:=fun W=>slLC okI13 (some ⟨H,0,none⟩) (cap+1) cap2 (i+1) (by omega) W
  have hw1:IntKind.i64.wrap ((i:Int)+1)=(i:Int)+1:=wrapi64_in _ (by omega) (by omega)
  have HO:=mkHid ho
  have HB:=mkHid hbe
  have HR0:=mkHid r0
  have HR1:=mkHid r1
  have HR2:=mkHid r2
  have Hnl:=mkHid hn
  clear h hB hn ho hbe r0 r1 r2 hcl hg0 hgl hlo hle hne hroom hlc hsub hcap2
  generalize cutC rtI13 (some ⟨g,0,none⟩) cap i=cA at *
  generalize cutC rtI13 (some ⟨H,0,none⟩) cap2 i=cB at *
  generalize cutC rtI13 (some ⟨H,0,none⟩) cap2 (i+1)=cC at *
  generalize cap-i=q1 at *
  generalize cap+1-(i+1)=q3 at *
  generalize cap2-(i+1)=q4 at *
  generalize cap+1-i=q5 at *
  generalize cap2-i=q6 at *
  generalize L.take i++x::L.drop i=L' at *
  go_enter Tryz.func105,Tryz.ntmps105
  go_upto_region 11 with(first|(at_builtin;refine Lib.wpList_append_run _ rfl _ _ _ _ rfl _ _ rfl rfl _ _ HR0.out ?_)|(refine list_copy_run _ rfl _ _ _ _ _ rfl rfl _ _ rfl rfl HR1.out ?_))
  refine lk0 (fun _=>True) 8 trivial (fun hHeld=>?_)
  refine lkC [4] 46 0 ?_ rfl (Or.inl ⟨by rfl,?_⟩) hHeld ?_
  rotate_left
  ·intro w hSw;go_simp;with_reducible rfl
  (try simp only[Act.put,sIx,sZ0,sZ1])
  refine lkC [3,4] 47 1 ?_ rfl (Or.inl ⟨by rfl,?_⟩) hHeld ?_
  rotate_left
  ·intro w hSw;go_simp;with_reducible rfl
  (try simp only[Act.put,sIx,sZ0,sZ1])
  refine lkC [3,4] 48 2 ?_ rfl (Or.inl ⟨by rfl,?_⟩) hHeld ?_
  rotate_left
  ·intro w hSw;go_simp;with_reducible rfl
  (try simp only[Act.put,sIx,sZ0,sZ1])
  refine lkC [4] 49 3 (.int .i64 ((i:Int)+1)) rfl (Or.inl ⟨by rfl,?_⟩) hHeld ?_
  ·intro w hSw;go_simp<;>(try rw[hw1])
  (try simp only[Act.put,sIx,sZ0,sZ1])
  refine lkC [] 50 4 (.slice cC q3 q4) rfl (Or.inl ⟨by rfl,?_⟩) hHeld ?_
  ·intro w hSw;go_simp
  (try simp only[Act.put,sIx,sZ0,sZ1])
  refine lkC [7] 51 5 ?_ rfl (Or.inl ⟨by rfl,?_⟩) hHeld ?_
  rotate_left
  ·intro w hSw;go_simp;with_reducible rfl
  (try simp only[Act.put,sIx,sZ0,sZ1])
  refine lkC [7] 52 6 ?_ rfl (Or.inl ⟨by rfl,?_⟩) hHeld ?_
  rotate_left
  ·intro w hSw;go_simp;with_reducible rfl
  (try simp only[Act.put,sIx,sZ0,sZ1])
  refine lkC [] 53 7 (.slice cA q1 q1) rfl (Or.inl ⟨by rfl,?_⟩) hHeld ?_
  ·intro w hSw;go_simp
  (try simp only[Act.put,sIx,sZ0,sZ1])
  refine lkZ rfl (fun K hK=>?_)
  refine step_copy_run w2.drew (by rfl) _ _ 58 58 3 (by rfl) (by rfl) _ _ (by rfl) (by rfl) HR2.out 54 rfl ?_
  refine hK.out _ _ ?_
  simp only[Exit.then]
  (try simp only[Act.put,sIx,sZ0,sZ1])
  clear hK K hHeld
  go_wp2_with fail
  go_ret
  exact⟨⟨_,rfl,HO.out⟩,⟨HB.out.1,HB.out.2,HB.out.3,HB.out.4,fun k hk _=>HB.out.5 k hk⟩⟩
variable {fl:Nat}
theorem pgS_node13 {ks:List Nat}(h1:ks.length≤254)(h2:∀i∈ks,i<65536):PgS ⟨1,[],ks⟩ :=
 ⟨⟨fun _=>rfl,fun h=>absurd h (by simp),by simp only[List.length_nil];omega,by simp,fun e he=>by cases he⟩,by simp only[List.length_nil];omega,by simp only[szL];omega,h2,fun e he=>by cases he⟩
theorem ks_ins (A B:Ps)(s k:Nat)(l l1 l2:List Et):
  (((A++(s,l):: B).map (·.1)).map Int.ofNat).take (A.length+1)++(k:Int):: (((A++(s,l):: B).map (·.1)).map Int.ofNat).drop (A.length+1)=((A++(s,l1):: (k,l2):: B).map (·.1)).map Int.ofNat:=by
 have e:((A++(s,l):: B).map (·.1)).map Int.ofNat=((A++[(s,l)]).map (·.1)).map Int.ofNat++(B.map (·.1)).map Int.ofNat:=by simp
 have hl:(((A++[(s,l)]).map (·.1)).map Int.ofNat).length=A.length+1:=by simp
 rw[e,←hl,List.take_left',List.drop_left']
 ·simp
 ·rfl
 ·rfl
theorem rdN_empty (w:World)(a:Option Addr)(c:Nat):RdN fl w (.slice a 0 c) []:=⟨⟨a,c,rfl,Nat.zero_le _,fun h=>absurd h (Nat.lt_irrefl 0)⟩,fun x hx=>by cases hx⟩
theorem codInsNode (w w0:World)(S J P base m:Nat)(t:Tl)(j:Jl)(Q:Ps)(s:Nat)(v ve vk:Value)(L:List Eq3)(e:Et)(q:EtA)(h:SpAx w S J P base t j)(hN:NdAt t j s Q)(hk:Tk t j m ((s:Int):: secsP Q))(hs:SrtE (entsP Q))(hK:KS base w0 w)(hp:PgO w w0.heap.size (s:Int) ⟨1,[],Q.map (·.1)⟩ v ve vk L)
  (he:EtQ fl w e q) (hit:itemOk e.k e.v=true) (hroom:t.l.length+6≤48) (hq:Q.length≤200) (hdisk:Q.length+1<j.p.n-51) (hlo0:base≤w0.heap.size) (hfl:fl≤base:=by omega):
  Calls Tryz.prog 68 #[gT S,v,.agg (etc2 e q).toArray] w fun r w'=>(∃t' S',r=.returned (.int .i64 0)∧SpAx w' S J P base t' j∧Tk t' j m S'∧TR t' j s (putE13 (entsP Q) e.k e.v) S'∧t'.l.length≤t.l.length+5)∧KS base w0 w':=by
 have hlo:=spcOK.lo h
 have hf:=hk.fit
 have hn2:=hf.few.n
 obtain⟨ka,kc,hvk,hkc,hka,_⟩:=OwnRw.form okI13 hp.k.c
 have hks:((Q.map (·.1)).map Int.ofNat).length=Q.length:=by simp
 obtain⟨ea,ec,hve⟩:∃ea ec,ve=.slice ea 0 ec:=by
  obtain⟨ea,ec,_,_,h1,_⟩:=hp.r.forms
  exact⟨ea,ec,h1⟩
 have hL0:L=[]:=List.map_eq_nil_iff.1 hp.es
 subst hL0
 rw[hks] at hvk hkc
 obtain⟨n,hn⟩:∃n,n=Q.length:=⟨_,rfl⟩
 rw[←hn] at hvk hkc hq hdisk
 subst hvk
 obtain rfl:=hp.v
 have hsz0:w0.heap.size≤w.heap.size:=hK.o.size
 have hNd:=node_kids hN hk
 have hkey:=he.is.k
 unfold gT
 have W1:Below w.heap.size w (((w.alloc (.cells #[.pointer (some ⟨S,0,none⟩)] 87)).alloc (.cells #[.int .i64 (s:Int),.int .i64 1,ve,.slice ka n kc] 133)).alloc (.cells (etc2 e q).toArray 64)):=(((Below.refl _ w).alloc (Nat.le_refl _) _).alloc (by simp) _).alloc (by simp;omega) _
 have k0:Blk (((w.alloc (.cells #[.pointer (some ⟨S,0,none⟩)] 87)).alloc (.cells #[.int .i64 (s:Int),.int .i64 1,ve,.slice ka n kc] 133)).alloc (.cells (etc2 e q).toArray 64)) w.heap.size 87 [.pointer (some ⟨S,0,none⟩)]:=((Blk.newAt w w.heap.size 87 #[.pointer (some ⟨S,0,none⟩)] [.pointer (some ⟨S,0,none⟩)] rfl rfl).alloc _).alloc _
 have k1:Blk (((w.alloc (.cells #[.pointer (some ⟨S,0,none⟩)] 87)).alloc (.cells #[.int .i64 (s:Int),.int .i64 1,ve,.slice ka n kc] 133)).alloc (.cells (etc2 e q).toArray 64)) (w.heap.size+1) 133 [.int .i64 (s:Int),.int .i64 1,ve,.slice ka n kc]:=(Blk.newAt _ (w.heap.size+1) 133 _ _ (by simp) rfl).alloc _
 have k2:Blk (((w.alloc (.cells #[.pointer (some ⟨S,0,none⟩)] 87)).alloc (.cells #[.int .i64 (s:Int),.int .i64 1,ve,.slice ka n kc] 133)).alloc (.cells (etc2 e q).toArray 64)) (w.heap.size+2) 64 (etc2 e q):=Blk.newAt _ (w.heap.size+2) 64 _ _ (by simp) rfl
 generalize hW:((w.alloc (.cells #[.pointer (some ⟨S,0,none⟩)] 87)).alloc (.cells #[.int .i64 (s:Int),.int .i64 1,ve,.slice ka n kc] 133)).alloc (.cells (etc2 e q).toArray 64)=Y0 at *
 have hA0:=SpAx.keep h (KeepT.of_below W1)
 have hK0:=hK.trans (KS.of_below W1 hlo)
 have hp0:=hp.below W1
 have he0:=he.below W1
 have HFd:=pgFind Y0 S J P base m t j (s:Int) ve (.slice ka n kc) (Q.map (·.1)) _ q.a e.k.length q.c e.k hA0 hf hp0.r.k ⟨ea,0,ec,hve⟩ he0.is.k hNd (by simp;omega) (by have:=hN.n;simp;omega)
 unfold gT pgc at HFd
 unfold etc2 at *
 have HCt:Hid (∀W,KS base Y0 W→W.cell? ⟨w.heap.size,0,none⟩=some (.pointer (some ⟨S,0,none⟩))∧W.cell? ⟨w.heap.size+1,0,none⟩=some (.int .i64 (s:Int))∧W.cell? ⟨w.heap.size+1,1,none⟩=some (.int .i64 1)∧W.cell? ⟨w.heap.size+1,2,none⟩=some ve∧W.cell? ⟨w.heap.size+1,3,none⟩=some (.slice ka n kc)∧W.cell? ⟨w.heap.size+2,0,none⟩=some (.slice q.a e.k.length q.c)∧W.cell? ⟨w.heap.size+2,1,none⟩=some (.slice q.b e.v.length q.d)):=fun W hW=>by
  have b0:=hW.o.blk k0 (by decide)
  have b1:=hW.o.blk k1 (by decide)
  have b2:=hW.o.blk k2 (by decide)
  exact⟨b0.cell 0,b1.cell 0,b1.cell 1,b1.cell 2,b1.cell 3,b2.cell 0,b2.cell 1⟩
 have HA0:=mkHid hA0
 have HK0:=mkHid hK0
 have HB0:=mkHid k0
 have HB1:=mkHid k1
 have HP0:=mkHid hp0
 have HE0:=mkHid he0
 have HN:=mkHid hN
 have HKt:=mkHid (And.intro hk hs)
 have HNd:=mkHid hNd
 have HIt:=mkHid hit
 have HLo:Hid (base≤Y0.heap.size):=spcOK.lo hA0
 have HVe:=mkHid hve
 have HNn:=mkHid hn
 have c0:=k0.cell 0
 have d0:=k1.cell 0
 have d1:=k1.cell 1
 have d2:=k1.cell 2
 have d3:=k1.cell 3
 have e0:=k2.cell 0
 have e1:=k2.cell 1
 simp only[gZ0,gZ1] at c0 d0 d1 d2 d3 e0 e1
 obtain⟨kn,hkn⟩:∃x,x=e.k.length:=⟨_,rfl⟩
 obtain⟨vn,hvn⟩:∃x,x=e.v.length:=⟨_,rfl⟩
 rw[←hkn] at e0 HFd
 rw[←hvn] at e1
 rw[←hkn,←hvn] at HCt
 unfold pgc
 show Calls Tryz.prog _ #[_,.agg #[.int .i64 (s:Int),.int .i64 1,ve,.slice ka n kc],.agg #[.slice q.a e.k.length q.c,.slice q.b e.v.length q.d]] w _
 rw[←hkn,←hvn] at hW ⊢
 have HKn:=mkHid (And.intro hkn hvn)
 have hsz1:w.heap.size+1<Y0.heap.size:=k1.lt
 clear hp he hit hA0 hK0 hp0 he0 k0 k1 k2 W1 hK h hN hk hs hNd hkey hve hn hkn hvn hka hks hkc
 go_enter Tryz.func68,Tryz.ntmps68
 go_upto_region 1 with fail
 (try rw[hW])
 clear hW
 go_upto_region 4 with fail
 go_upto_region 5 with(go_at_call 73;refine HFd.mono ?_;rintro r1 y1 ⟨⟨i,rfl,hil,hi1,hi2⟩,hb1⟩)
 rw[List.length_map] at hil hi2
 obtain⟨A,p,B,hQ,hAi,hgi,hpm,hAl,hAg⟩:=node_cut HN.out HKt.out.2 hil hi1 hi2
 obtain⟨s1,l1⟩:=p
 have hlf:=HNd.out i s1 (by rw[List.getElem?_map,hQ,←hAi];simp)
 simp only[hgi] at hlf
 obtain⟨f1,f2,f3,f4⟩:=hlf
 have hD:Below y1.heap.size y1 y1.drew:=(Below.refl _ y1).drew
 have hb0D:Below Y0.heap.size Y0 y1.drew:=hb1.trans (hD.mono hb1.size)
 have hKD:KS base Y0 y1.drew:=KS.of_below hb0D HLo.out
 have hAD:=SpAx.keep HA0.out (KeepT.of_below hb0D)
 have HKd:=pgKid y1.drew S J P base m t j (s:Int) 1 ve (.slice ka n kc) (Q.map (·.1)) i s1 ⟨0,l1,[]⟩ hAD hf (HP0.out.below hb0D).r.k (by rw[List.getElem?_map,hQ,←hAi];simp) f1 f2 f3 rfl (by omega)
 unfold gT pgc at HKd
 have hFR:FR t j m (A++(s1,l1):: B) [(s:Int)]:=by rw[←hQ];exact FR.ofNode HN.out HKt.out.1
 have HIL:Hid (∀y2 v2 ve2 vk2 L2,Below y1.drew.heap.size y1.drew y2→PgO y2 y1.drew.heap.size (s1:Int) ⟨0,l1,[]⟩ v2 ve2 vk2 L2→Calls Tryz.prog 68 #[.agg #[.pointer (some ⟨S,0,none⟩)],v2,.agg #[.slice q.a kn q.c,.slice q.b vn q.d]] y2 fun r w'=>(∃b t',r=.returned (.int .i64 b)∧SpAx w' S J P base t' j∧KeepPost t j m A B [(s:Int)] s1 (putE13 l1 e.k e.v) b t')∧KS base y1.drew w'∧PgKeep y2 w'):=fun y2 v2 ve2 vk2 L2 hb2 hp2=>by
  rw[HKn.out.1,HKn.out.2]
  exact codInsLeaf y2 y1.drew S J P base m t j A B [(s:Int)] s1 l1 v2 ve2 vk2 L2 e q (SpAx.keep hAD (KeepT.of_below hb2)) hFR (KS.of_below hb2 (spcOK.lo hAD)) hp2 ((HE0.out.below hb0D).below hb2) HIt.out (by omega) (by rw[←hQ,←HNn.out];show 1+n<_;omega) (spcOK.lo hAD)
 have HKD:=mkHid (And.intro hKD hAD)
 have HQ:=mkHid (And.intro hQ hAi)
 have HAl:=mkHid (And.intro hAl hAg)
 have hin:i<n:=by rw[HNn.out];exact hil
 clear hb1 hb0D hKD hAD hFR hQ hAl hAg hpm hgi hi1 hi2 f1 f2 f3 f4 HFd HNd hD hAi hil
 refine lk0 (fun W=>W.cell? ⟨w.heap.size,0,none⟩=some (.pointer (some ⟨S,0,none⟩))∧W.cell? ⟨w.heap.size+1,0,none⟩=some (.int .i64 (s:Int))∧W.cell? ⟨w.heap.size+1,1,none⟩=some (.int .i64 1)∧W.cell? ⟨w.heap.size+1,2,none⟩=some ve∧W.cell? ⟨w.heap.size+1,3,none⟩=some (.slice ka n kc)∧W.cell? ⟨w.heap.size+2,0,none⟩=some (.slice q.a kn q.c)∧W.cell? ⟨w.heap.size+2,1,none⟩=some (.slice q.b vn q.d)) 7 (HCt.out _ HKD.out.1) (fun hHeld=>?_)
 refine lkT 22 0 (.agg #[.pointer (some ⟨S,0,none⟩)]) rfl (Or.inl ⟨by rfl,?_⟩) hHeld ?_
 ·intro w hSw;obtain⟨s0,s1,s2,s3,s4,s5,s6⟩:=hSw;go_simp
 (try simp only[Act.put,sIx,sZ0,sZ1])
 refine lkT 23 1 (.agg #[.pointer (some ⟨S,0,none⟩)]) rfl (Or.inl ⟨by rfl,?_⟩) hHeld ?_
 ·intro w hSw;obtain⟨s0,s1,s2,s3,s4,s5,s6⟩:=hSw;go_simp
 (try simp only[Act.put,sIx,sZ0,sZ1])
 refine lkT 24 2 (.agg #[.int .i64 (s:Int),.int .i64 1,ve,.slice ka n kc]) rfl (Or.inl ⟨by rfl,?_⟩) hHeld ?_
 ·intro w hSw;obtain⟨s0,s1,s2,s3,s4,s5,s6⟩:=hSw;go_simp
 (try simp only[Act.put,sIx,sZ0,sZ1])
 refine lkT 25 3 (.int .i64 (i:Int)) rfl (Or.inl ⟨by rfl,?_⟩) hHeld ?_
 ·intro w hSw;go_simp
 (try simp only[Act.put,sIx,sZ0,sZ1])
 refine lkT 27 5 (.agg #[.slice q.a kn q.c,.slice q.b vn q.d]) rfl (Or.inl ⟨by rfl,?_⟩) hHeld ?_
 ·intro w hSw;obtain⟨s0,s1,s2,s3,s4,s5,s6⟩:=hSw;go_simp
 (try simp only[Act.put,sIx,sZ0,sZ1])
 refine lk1 4 rfl (fun K hK=>?_)
 go_simp
 refine HKd.mono ?_
 rintro r2 y2 ⟨⟨v2,ve2,vk2,L2,rfl,hp2⟩,hb2⟩
 go_simp
 refine hK.out _ _ (HCt.out _ (HKD.out.1.trans (KS.of_below hb2 (spcOK.lo HKD.out.2)))) (fun hHeld=>?_)
 (try simp only[Act.put,sIx,sZ0,sZ1])
 clear hK K HKd
 have HIL2:=HIL.out y2 v2 ve2 vk2 L2 hb2 hp2
 clear hp2 HIL
 refine lk1 6 rfl (fun K hK=>?_)
 go_simp
 refine HIL2.mono ?_
 rintro r3 y3 ⟨⟨b,t',rfl,hA3,hr3,hkp⟩,hk3,-⟩
 go_simp
 refine hK.out _ _ (HCt.out _ (HKD.out.1.trans hk3)) (fun hHeld=>?_)
 (try simp only[Act.put,sIx,sZ0,sZ1])
 clear hK K HIL2 hb2
 refine lkZ rfl (fun K hK=>?_)
 go_simp
 refine hK.out _ _ ?_
 simp only[Exit.then]
 (try simp only[Act.put,sIx,sZ0,sZ1])
 clear hK K
 have HA3:=mkHid hA3
 have HK3:=mkHid (HK0.out.trans (HKD.out.1.trans hk3))
 have HB03:=mkHid ((HKD.out.1.trans hk3).o.blk HB0.out (by decide))
 have HB13:=mkHid ((HKD.out.1.trans hk3).o.blk HB1.out (by decide))
 have HZ3:Hid (OwnZ y3 w0.heap.size (.slice ka n kc) ((Q.map (·.1)).map Int.ofNat)):=own_keepO (us:=[3]) ((HKD.out.1.trans hk3).o.less (by decide)) HP0.out.k (by decide)
 clear hA3 hk3 HCt HKD
 rcases hkp with⟨rfl,hl3,hF3,hX3⟩|⟨k,c,rfl,hk51,hkn',hl3,hl4,hF3⟩
 ·have HR:Hid (Tk t' j m ((s:Int):: secsP (A++(s1,putE13 l1 e.k e.v):: B))∧TR t' j s (putE13 (entsP Q) e.k e.v) ((s:Int):: secsP (A++(s1,putE13 l1 e.k e.v):: B))):=by
   have hN':=HN.out
   rw[HQ.out.1] at hN'
   have hrd:spRdB t' j (s:Int)=nodeB ((A++(s1,putE13 l1 e.k e.v):: B).map (·.1)):=by
    rw[hX3 s List.mem_cons_self,hN'.rd]
    simp only[List.map_append,List.map_cons]
   have hs2:=HKt.out.2.put e.k e.v
   have hpe:putE13 (entsP Q) e.k e.v=entsP (A++(s1,putE13 l1 e.k e.v):: B):=by rw[HQ.out.1,node_put HAl.out.1 HAl.out.2,ents_mid]
   rw[hpe] at hs2 ⊢
   have:=hF3.node hs2 (by have:=hN'.n;simpa using this) (by have:=hN'.n2;simpa using this) hrd
   exact⟨this.2,this.1⟩
  clear hl3 hF3 hX3
  go_wp2_with fail
  go_ret
  exact⟨⟨t',_,rfl,HA3.out,HR.out.1,HR.out.2,by omega⟩,HK3.out⟩
 have hi:=HQ.out.2
 have hQe:=HQ.out.1
 have hQl:n=A.length+(B.length+1):=by rw[HNn.out,hQe];simp
 obtain⟨ks,hks⟩:∃ks,ks=(A++(s1,(putE13 l1 e.k e.v).take c):: (k,(putE13 l1 e.k e.v).drop c):: B).map (·.1):=⟨_,rfl⟩
 have hksl:ks.length=n+1:=by rw[hks,hQl];simp;omega
 obtain⟨z1,z2,z3,z4⟩:=hF3.top (s:=s) (by omega) ks
 have hR:TR (spWr t' j (s:Int) (nodeB ks)) j s (putE13 (entsP Q) e.k e.v) ((s:Int):: secsP (A++(s1,(putE13 l1 e.k e.v).take c):: (k,(putE13 l1 e.k e.v).drop c):: B))∧Tk (spWr t' j (s:Int) (nodeB ks)) j m ((s:Int):: secsP (A++(s1,(putE13 l1 e.k e.v).take c):: (k,(putE13 l1 e.k e.v).drop c):: B)):=by
  have hs2:=HKt.out.2.put e.k e.v
  have hpe:putE13 (entsP Q) e.k e.v=entsP (A++(s1,(putE13 l1 e.k e.v).take c):: (k,(putE13 l1 e.k e.v).drop c):: B):=by rw[hQe,node_put HAl.out.1 HAl.out.2,ents_two]
  rw[hpe] at hs2 ⊢
  rw[hks] at z2 z4 ⊢
  have h254:n+1≤254:=by omega
  rw[←hksl,hks,List.length_map] at h254
  exact z2.node hs2 (by simp;omega) h254 z4
 have hks6:∀x∈ks,x<65536:=fun x hx=>by
  rw[hks] at hx
  obtain⟨y,hy,rfl⟩:=List.mem_map.1 hx
  have:=hF3.rng hy
  omega
 have hsn:s≤4096:=by
  have:=hF3.tk.rng (s:Int) (List.mem_append_left _ List.mem_cons_self)
  omega
 have HPg:Hid (∀W v4,SpAx W S J P base t' j→OwnZ W w0.heap.size v4 (ks.map Int.ofNat)→Calls Tryz.prog 104 #[.agg #[.pointer (some ⟨S,0,none⟩)],.agg #[.int .i64 (s:Int),.int .i64 1,ve,v4]] W fun e w'=>e=.returned (.int .i64 0)∧SpAx w' S J P base (spWr t' j (s:Int) (nodeB ks)) j∧KS base W w'):=fun W v4 hA hO=>by
  have:=codKeepFits (fl:=0) W S J P base m t' j s ⟨1,[],ks⟩ ve v4 [] hA hF3.tk.fit ⟨by rw[HVe.out];exact rdN_empty _ _ _,hO.rd,rfl⟩ (pgS_node13 (by omega) hks6) hsn (by rw[pgB_node];exact z1)
  rw[pgB_node] at this
  exact this
 have hka:∀g,ka=some ⟨g,0,none⟩→w0.heap.size≤g∧g<y3.heap.size:=fun g e2=>by
  have:=HZ3.out
  rw[e2] at this
  exact World.ownsRow.lt this g rfl
 have hkc:kc≤9223372036854775807:=by
  rcases HZ3.out.2 with⟨h1,_⟩|⟨g2,cap2,cur,h3,_,_,_,h5,_⟩
  ·injection h1 with _ _ h1;omega
  ·injection h3 with _ _ h3;rw[h3];unfold maxLen at h5;omega
 have hA4:Below y3.heap.size y3 (y3.alloc (.cells #[.int .i64 (k:Int)] 3)):=(Below.refl _ y3).alloc (Nat.le_refl _) _
 have hHi3:w0.heap.size≤y3.heap.size:=HK3.out.o.size
 have HIn:Calls Tryz.prog 105 #[.slice ka n kc,.int .i64 ((i:Int)+1),.slice (some ⟨y3.heap.size,0,none⟩) 1 1] (y3.alloc (.cells #[.int .i64 (k:Int)] 3)) fun r w'=>(∃v',r=.returned v'∧OwnRw rtI13 w' w0.heap.size v' (ks.map Int.ofNat))∧(y3.alloc (.cells #[.int .i64 (k:Int)] 3)).grownBy w' (Value.slice ka n kc).ownBlock:=by
  have:=codInsertI (y3.alloc (.cells #[.int .i64 (k:Int)] 3)) w0.heap.size ka n kc (i+1) y3.heap.size _ (k:Int) (by simp only[List.length_map];exact HNn.out.symm) (OwnZ.c (own_keepO (us:=[3]) (KeepO.of_below hA4) HZ3.out (by decide))) (Blk.new y3 3 [.int .i64 (k:Int)]) (by omega) (by omega) hkc (Nat.le_trans hHi3 hA4.size) (fun g e2=>by have:=(hka g e2).2;omega)
  rw[hQe,←hi,ks_ins A B s1 k l1 ((putE13 l1 e.k e.v).take c) ((putE13 l1 e.k e.v).drop c),←hks] at this
  rw[←hi]
  exact this
 have hkne:((k:Int)==0)=false:=by rw[beq_eq_false_iff_ne];omega
 have hkne2:¬k=0:=by omega
 have hw1:IntKind.i64.wrap ((i:Int)+1)=(i:Int)+1:=wrapi64_in _ (by omega) (by omega)
 have HR:=mkHid hR
 have HZe:=mkHid z3
 have HKa:=mkHid hka
 clear hl3 hl4 hF3 z1 z2 z3 z4 hR hks6 hsn hksl hks hQl hQe hi hkc hka
 have c0:=HB03.out.cell 0
 have d0:=HB13.out.cell 0
 have d1:=HB13.out.cell 1
 have d2:=HB13.out.cell 2
 have d3:=HB13.out.cell 3
 simp only[gZ0,gZ1] at c0 d0 d1 d2 d3
 go_upto_region 9 with(go_at_call 105;refine HIn.mono ?_;rintro r4 y4 ⟨⟨v4,rfl,ho4⟩,hg4⟩;obtain⟨va,vc,hv4,_⟩:=OwnRw.form okI13 ho4;generalize (ks.map Int.ofNat).length=n4 at hv4;subst hv4;have hkt4:KeepT [3] (y3.alloc (.cells #[.int .i64 (k:Int)] 3)) y4:=KeepT.grownC (OwnZ.c (own_keepO (us:=[3]) (KeepO.of_below hA4) HZ3.out (by decide))) hg4;have kb4:=hkt4.blk (HB13.out.on hA4) (by decide);have kq3:=kb4.cell 3;have kf3:=kb4.frozen 3;simp only[gZ0,gZ1] at kq3)
 have kb5:=kb4.set 3 (.slice va n4 vc)
 have kb05:=(hkt4.blk (HB03.out.on hA4) (by decide)).other ⟨w.heap.size+1,3,none⟩ (.slice va n4 vc) (by show w.heap.size≠w.heap.size+1;omega)
 have hT:KeepT T13 y3 (y4.setCell ⟨w.heap.size+1,3,none⟩ (.slice va n4 vc)):=((KeepT.of_below hA4).trans (hkt4.more (by decide))).set kb4 (by decide) 3 _
 have hA5:=HA3.out.keep13 hT
 have hT1:KeepT [133] y4 (y4.setCell ⟨w.heap.size+1,3,none⟩ (.slice va n4 vc)):=(KeepT.refl _ y4).set kb4 (by decide) 3 _
 have hO5:OwnZ (y4.setCell ⟨w.heap.size+1,3,none⟩ (.slice va n4 vc)) w0.heap.size (.slice va n4 vc) (ks.map Int.ofNat):=own_keepO (us:=[3]) (KeepO.ofT hT1 (by decide)) ho4.z13 (by decide)
 have hB5:Below w0.heap.size y3 (y4.setCell ⟨w.heap.size+1,3,none⟩ (.slice va n4 vc)):=((hA4.mono hHi3).grown hg4 (Nat.le_trans hHi3 hA4.size) (fun b e2=>by
  cases ka with
  | none=>cases e2
  | some ad =>
   obtain⟨ag,ao,aq⟩:=ad
   have h7:ag=b:=Option.some.inj e2
   rcases HZ3.out.2 with⟨h1,_⟩|⟨g2,_,_,h3,_⟩
   ·injection h1 with h1 _ _;cases h1
   ·injection h3 with h3 _ _
    have h4:=Option.some.inj h3
    injection h4 with h4 h5 h6
    subst h4 h5 h6
    rw[←h7]
    exact(HKa.out _ rfl).1)).setCell (p:=⟨w.heap.size+1,3,none⟩) (by show w0.heap.size≤w.heap.size+1;omega) _
 have HK5:=mkHid (HK3.out.over hB5 hlo0)
 have hPg:=HPg.out _ _ hA5 hO5
 clear hB5 hT hT1 hA5 hO5 kb4 kq3 kf3 hkt4 hg4 ho4 HIn HPg
 generalize y4.setCell ⟨w.heap.size+1,3,none⟩ (.slice va n4 vc)=Y5 at *
 have c0:=kb05.cell 0
 have d0:=kb5.cell 0
 have d1:=kb5.cell 1
 have d2:=kb5.cell 2
 have d3:=kb5.cell 3
 simp only[List.set_cons_zero,List.set_cons_succ,gZ0,gZ1] at c0 d0 d1 d2 d3
 clear kb05 kb5
 go_wp2_with (go_at_call 104;refine hPg.mono ?_;rintro r6 y6 ⟨rfl,hA6,hk6⟩;have HA6:=mkHid (And.intro hA6 hk6);clear hA6 hk6)
 go_ret
 exact⟨⟨_,_,rfl,HA6.out.1,HR.out.2,HR.out.1,by have:=HZe.out;omega⟩,HK5.out.trans HA6.out.2⟩
end
end Go.Proofs.YtpecobmfabmpkaaGreatDoor
