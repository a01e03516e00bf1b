/- PuF InsI PuG PuH PuI PuJ PvO -/
import Derived.Test.YtpecobmfabmpkaaGreatDoorM15
set_option maxRecDepth 20000
set_option maxHeartbeats 4000000
namespace Go.Proofs.YtpecobmfabmpkaaGreatDoor
section
open Go.RowKit
variable {fl:Nat}
theorem KS.over {base:Nat}{w0 a b:World}(h:KS base w0 a)(hb:Below w0.heap.size a b)(hlo:base≤w0.heap.size):KS base w0 b :=
 ⟨⟨Nat.le_trans h.o.size hb.4,fun k c t fz hk ht=>(hb.5 k (Array.getElem?_eq_some_iff.1 hk).1).trans (h.o.same k c t fz hk ht),fun k o hk ho=>(hb.5 k (Array.getElem?_eq_some_iff.1 hk).1).trans (h.o.ctl k o hk ho)⟩,h.b.trans (hb.mono hlo)⟩
def PgKeep (w w':World):Prop:=∀B cs,Blk w B 133 cs→Blk w' B 133 cs
theorem codInsLeaf (w w0:World)(S J P base m:Nat)(t:Tl)(j:Jl)(A B:Ps)(X:List Int)(s:Nat)(l:List Et)(v ve vk:Value)(L:List Eq3)(e:Et)(q:EtA)(h:SpAx w S J P base t j)(hF:FR t j m (A++(s,l):: B) X)(hK:KS base w0 w)(hp:PgO w w0.heap.size (s:Int) ⟨0,l,[]⟩ v ve vk L)
  (he:EtQ fl w e q) (hit:itemOk e.k e.v=true) (hroom:t.l.length+5≤48) (hdisk:X.length+(A++(s,l):: B).length<j.p.n-51) (hlo0:base≤w0.heap.size) (hfl:fl≤base:=by omega):
  Calls Tryz.prog 68 #[gT S,v,.agg (etc2 e q).toArray] w fun r w'=>(∃b t',r=.returned (.int .i64 b)∧SpAx w' S J P base t' j∧KeepPost t j m A B X s (putE13 l e.k e.v) b t')∧KS base w0 w'∧PgKeep w w':=by
 have hlo:=spcOK.lo h
 have hle:LfOk l:=(hF.lf (s,l) (List.mem_append_right A List.mem_cons_self)).ok
 obtain⟨ea,ec,ka,kc,rfl,rfl⟩:=hp.r.forms
 obtain rfl:=hp.v
 have hL:L.map Prod.fst=l:=hp.es
 have hLl:=hle.len
 have hsz0:w0.heap.size≤w.heap.size:=hK.o.size
 unfold gT
 have W1:Below w.heap.size w (((w.alloc (.cells #[.pointer (some ⟨S,0,none⟩)] 87)).alloc (.cells #[.int .i64 (s:Int),.int .i64 0,.slice ea l.length ec,.slice ka 0 kc] 133)).alloc (.cells (etc2 e q).toArray 64)):=(((Below.refl _ w).alloc (Nat.le_refl _) _).alloc (by simp) _).alloc (by simp;omega) _
 have k0:Blk (((w.alloc (.cells #[.pointer (some ⟨S,0,none⟩)] 87)).alloc (.cells #[.int .i64 (s:Int),.int .i64 0,.slice ea l.length ec,.slice ka 0 kc] 133)).alloc (.cells (etc2 e q).toArray 64)) w.heap.size 87 [.pointer (some ⟨S,0,none⟩)]:=((Blk.newAt w w.heap.size 87 #[.pointer (some ⟨S,0,none⟩)] [.pointer (some ⟨S,0,none⟩)] rfl rfl).alloc _).alloc _
 have k1:Blk (((w.alloc (.cells #[.pointer (some ⟨S,0,none⟩)] 87)).alloc (.cells #[.int .i64 (s:Int),.int .i64 0,.slice ea l.length ec,.slice ka 0 kc] 133)).alloc (.cells (etc2 e q).toArray 64)) (w.heap.size+1) 133 [.int .i64 (s:Int),.int .i64 0,.slice ea l.length ec,.slice ka 0 kc]:=(Blk.newAt _ (w.heap.size+1) 133 _ _ (by simp) rfl).alloc _
 have k2:Blk (((w.alloc (.cells #[.pointer (some ⟨S,0,none⟩)] 87)).alloc (.cells #[.int .i64 (s:Int),.int .i64 0,.slice ea l.length ec,.slice ka 0 kc] 133)).alloc (.cells (etc2 e q).toArray 64)) (w.heap.size+2) 64 (etc2 e q):=Blk.newAt _ (w.heap.size+2) 64 _ _ (by simp) rfl
 generalize hW:((w.alloc (.cells #[.pointer (some ⟨S,0,none⟩)] 87)).alloc (.cells #[.int .i64 (s:Int),.int .i64 0,.slice ea l.length ec,.slice ka 0 kc] 133)).alloc (.cells (etc2 e q).toArray 64)=Y0 at *
 have HPK:Hid (∀B cs,Blk w B 133 cs→B<w.heap.size∧Blk Y0 B 133 cs):=fun B cs hB=>⟨hB.lt,hB.on W1⟩
 have hA0:=SpAx.keep h (KeepT.of_below W1)
 have hK0:=hK.trans (KS.of_below W1 hlo)
 have HSt:=codSet13 Y0 (w.heap.size+1) w0.heap.size (s:Int) (.slice ea l.length ec) (.slice ka 0 kc) L e q k1 (hp.e.on W1) (fun x hx=>(hp.x x hx).below W1) (by rw[hL];exact hle.srt) (he.below W1) (by rw[hp.r.len];show l.length≤400;omega) (Nat.le_trans hsz0 W1.size) (by omega)
 rw[hL] at HSt
 obtain⟨ps,pi,pn,pz⟩:=put_leaf hle (k:=e.k) (v:=e.v) hit
 have HKp:Hid (∀ve' L' W,SpAx W S J P base t j→PgR fl W ⟨0,putE13 l e.k e.v,[]⟩ ve' (.slice ka 0 kc) L'→Calls Tryz.prog 104 #[.agg #[.pointer (some ⟨S,0,none⟩)],.agg #[.int .i64 (s:Int),.int .i64 0,ve',.slice ka 0 kc]] W fun r w'=>(∃b t',r=.returned (.int .i64 b)∧SpAx w' S J P base t' j∧KeepPost t j m A B X s (putE13 l e.k e.v) b t')∧KS base W w'):=fun ve' L' W hA hP =>
  codKeepLeaf W S J P base m t j A B X s l (putE13 l e.k e.v) ve' ka kc L' hA hF hP ps pi pn pz hroom hdisk
 have HA0:=mkHid hA0
 have HK0:=mkHid hK0
 have HB0:=mkHid k0
 have HL:=mkHid hL
 unfold etc2 at *
 have c0:=k0.cell 0
 have d0:=k1.cell 0
 have d1:=k1.cell 1
 have d2:=k1.cell 2
 have d3:=k1.cell 3
 have e0:=k2.cell 0
 have e1:=k2.cell 1
 simp only[gZ0,gZ1] at c0 d0 d1 d2 d3 e0 e1
 have HPr:=mkHid (show (pgc (s:Int) 0 (.slice ea l.length ec) (.slice ka 0 kc))=[.int .i64 (s:Int),.int .i64 0,.slice ea l.length ec,.slice ka 0 kc] from rfl)
 show Calls Tryz.prog _ #[_,.agg #[.int .i64 (s:Int),.int .i64 0,.slice ea l.length ec,.slice ka 0 kc],_] w _
 clear hF hp he hit hle hA0 hK0 k0 k1 k2 W1 hK h hL ps pi pn pz hLl HPr
 go_enter Tryz.func68,Tryz.ntmps68
 go_upto_region 1 with fail
 (try rw[hW])
 clear hW
 go_upto_region 2 with fail
 go_upto_region 3 with(go_at_call 103;refine HSt.mono ?_;rintro r1 y1 ⟨rfl,ve',L',kb,ho,hm,hx,hkt,hbl,hpk⟩;obtain⟨a',c',hv',_⟩:=ho.form;subst hv')
 have hA1:=HA0.out.keep13 (hkt.more (us:=T13) (by decide))
 have hP1:PgR fl y1 ⟨0,putE13 l e.k e.v,[]⟩ (.slice a' L'.length c') (.slice ka 0 kc) L':=⟨ho.rdq hx,⟨ka,kc,rfl,Nat.zero_le _,fun hp=>absurd hp (Nat.lt_irrefl 0)⟩,hm⟩
 have hKp:=HKp.out _ _ y1 hA1 hP1
 have KB0:=hkt.blk HB0.out (by decide)
 have hk1:=HK0.out.over hbl hlo0
 have c0:=KB0.cell 0
 have d0:=kb.cell 0
 have d1:=kb.cell 1
 have d2:=kb.cell 2
 have d3:=kb.cell 3
 simp only[gZ0,gZ1] at c0 d0 d1 d2 d3
 have HPK1:Hid (∀B cs,Blk w B 133 cs→Blk y1 B 133 cs):=fun B cs hB=>by
  have h1:=HPK.out B cs hB
  exact hpk B cs (by omega) h1.2
 clear HKp HSt hm hx ho hkt hbl hA1 hP1 KB0 kb hpk HPK
 have HK1:=mkHid hk1
 clear hk1
 go_wp2_with (go_at_call 104;refine hKp.mono ?_;rintro r2 y2 ⟨⟨b,t',rfl,hA2,hkp⟩,hk2⟩;have HR:=mkHid (And.intro hA2 (And.intro hkp hk2));clear hA2 hkp hk2)
 go_ret
 exact⟨⟨b,t',rfl,HR.out.1,HR.out.2.1⟩,HK1.out.trans HR.out.2.2,fun B cs hB=>HR.out.2.2.o.blk (HPK1.out B cs hB) (by decide)⟩
end
section
open Go.RowKit
theorem codInsertI (w:World)(base:Nat)(a:Option Addr)(n cap i B:Nat)(L:List Int)(x:Int)(hn:L.length=n)(h:OwnRw rtI13 w base (.slice a n cap) L)(hB:Blk w B 3 (rtI13.c x))(hi:i≤n)(hb:n≤1000)(hc:cap≤9223372036854775807)(hlo:base≤w.heap.size)(hne:∀g,a=some ⟨g,0,none⟩→B≠g):
  Calls Tryz.prog 105 #[.slice a n cap,.int .i64 (i:Int),.slice (some ⟨B,0,none⟩) 1 1] w fun e w'=>(∃v',e=.returned v'∧OwnRw rtI13 w' base v' (L.take i++x::L.drop i))∧w.grownBy w' (Value.slice a n cap).ownBlock:=by
 rcases Nat.lt_or_ge i n with hin|hin
 rotate_left
 ·obtain rfl:i=n:=by omega
  have hsl:∀W,(Instr.slice 58 (.slice a i cap) (some (.int .i64 (i:Int))) none none).run Tryz.prog W=.ok (.slice (cutC rtI13 a cap i) (i-i) (cap-i)) W:=fun W=>slLC okI13 a i cap i (Nat.le_refl _) W
  have HO:=mkHid h
  have HS:Hid (SrcC rtI13 w (some ⟨B,0,none⟩) 1 1 [x]):=hB.srcC
  have HLn:Hid (L.take i++x::L.drop i=L++[x]):=by unfold Hid;rw[←hn,List.take_length,List.drop_length]
  have HLl:=mkHid hn
  rw[HLn.out]
  clear h hB hn
  generalize cutC rtI13 a cap i=ca at *
  generalize i-i=c0 at *
  generalize cap-i=cc at *
  go_enter Tryz.func105,Tryz.ntmps105
  go_wp2_with (at_builtin;refine list_appC okI13 _ rfl (.tmp 23) (.tmp 24) rfl base _ L rfl HO.out (some ⟨B,0,none⟩) 1 1 [x] rfl HS.out (by rw[HLl.out];show (i+1) * 8≤_;omega) hlo ?_;intro v2 V2 ho2 hg2;have HO2:=mkHid ho2;have HG2:=mkHid hg2;clear ho2 hg2)
  go_ret
  exact⟨⟨_,rfl,HO2.out⟩,HG2.out⟩
 obtain⟨a',cap',he,hle,-,hcl⟩:=h.form okI13
 injection he with e1 e2 e3
 subst e1 e3
 clear e2
 obtain⟨g,rfl,hg0,hgl,-⟩:=hcl (by omega)
 have hBg:=hne g rfl
 have hlc:n≤cap:=by omega
 have hne1:((i:Int)==(n:Int))=false:=by rw[beq_eq_false_iff_ne];omega
 have hsl1:∀W,(Instr.slice 58 (.slice (some ⟨g,0,none⟩) n cap) (some (.int .i64 (i:Int))) none none).run Tryz.prog W=.ok (.slice (cutC rtI13 (some ⟨g,0,none⟩) cap i) (n-i) (cap-i)) W:=fun W=>slLC okI13 (some ⟨g,0,none⟩) n cap i hi W
 by_cases hroom:n+1≤cap
 ·have hgt:decide ((cap:Int)<(n:Int)+1)=false:=decide_eq_false (by omega)
  obtain⟨w1,w2,r1,r2,ho,hgb⟩:=ins_room okI13 (w:=w.drew) (h.on (Below.drew (Below.refl _ w))) hin hroom (show Blk w.drew B 3 (rtI13.c x) from hB) hBg 3 3
  have hslH:∀W,(Instr.slice 58 (.slice (some ⟨g,0,none⟩) n cap) none (some (.int .i64 ((n:Int)+1))) none).run Tryz.prog W=.ok (.slice (some ⟨g,0,none⟩) (n+1) cap) W:=fun W=>slHC okI13 (some ⟨g,0,none⟩) n cap (n+1) hroom W
  have hslA:∀W,(Instr.slice 58 (.slice (some ⟨g,0,none⟩) (n+1) cap) (some (.int .i64 ((i:Int)+1))) none none).run Tryz.prog W=.ok (.slice (cutC rtI13 (some ⟨g,0,none⟩) cap (i+1)) (n+1-(i+1)) (cap-(i+1))) W:=fun W=>slLC okI13 (some ⟨g,0,none⟩) (n+1) cap (i+1) (by omega) W
  have hslB:∀W,(Instr.slice 58 (.slice (some ⟨g,0,none⟩) (n+1) cap) (some (.int .i64 (i:Int))) none none).run Tryz.prog W=.ok (.slice (cutC rtI13 (some ⟨g,0,none⟩) cap i) (n+1-i) (cap-i)) W:=fun W=>slLC okI13 (some ⟨g,0,none⟩) (n+1) cap i (by omega) W
  have hc1:cutC rtI13 (some ⟨g,0,none⟩) cap (i+1)=some ⟨g,(i+1) * rtI13.k,none⟩:=cutC_some (by omega)
  obtain⟨cur,-,hgc,-,-,-,hsz,-⟩:=h.cur
  have hov:∀lb cb,(callFunc 147 #[.slice (some ⟨B,0,none⟩) 1 1,.slice (cutC rtI13 (some ⟨g,0,none⟩) cap (i+1)) lb cb]).run Tryz.prog w=.ok (.value (.bool false)) w:=fun lb cb=>by
   rw[hc1]
   exact overlapsI w B g ((i+1) * rtI13.k) (rtI13.c x) cur 1 1 lb cb hB hgc (by rw[hsz];show cap * 1≠0;omega) hBg
  have hw1:IntKind.i64.wrap ((i:Int)+1)=(i:Int)+1:=wrapi64_in _ (by omega) (by omega)
  have HO:=mkHid ho
  have HG:=mkHid hgb
  have HR1:=mkHid r1
  have HR2:=mkHid r2
  have Hnl:=mkHid hn
  clear h hB hn ho hgb r1 r2 hcl hg0 hgl hlo hle hne hroom hc1 hgc hsz
  generalize cutC rtI13 (some ⟨g,0,none⟩) cap i=cA at *
  generalize cutC rtI13 (some ⟨g,0,none⟩) cap (i+1)=cB at *
  generalize n-i=q1 at *
  generalize cap-i=q2 at *
  generalize n+1-(i+1)=q3 at *
  generalize cap-(i+1)=q4 at *
  generalize n+1-i=q5 at *
  generalize L.take i++x::L.drop i=L' at *
  go_enter Tryz.func105,Tryz.ntmps105
  go_upto_region 15 with fail
  refine lk0 (fun _=>True) 8 trivial (fun hHeld=>?_)
  refine lkC [4] 69 0 ?_ rfl (Or.inl ⟨by rfl,?_⟩) hHeld ?_
  rotate_left
  ·intro w hSw;go_simp;with_reducible rfl
  (try simp only[Act.put,sIx,sZ0,sZ1])
  refine lkC [3,4] 70 1 ?_ rfl (Or.inl ⟨by rfl,?_⟩) hHeld ?_
  rotate_left
  ·intro w hSw;go_simp;with_reducible rfl
  (try simp only[Act.put,sIx,sZ0,sZ1])
  refine lkC [3,4] 71 2 ?_ rfl (Or.inl ⟨by rfl,?_⟩) hHeld ?_
  rotate_left
  ·intro w hSw;go_simp;with_reducible rfl
  (try simp only[Act.put,sIx,sZ0,sZ1])
  refine lkC [4] 72 3 (.int .i64 ((i:Int)+1)) rfl (Or.inl ⟨by rfl,?_⟩) hHeld ?_
  ·intro w hSw;go_simp<;>(try rw[hw1])
  (try simp only[Act.put,sIx,sZ0,sZ1])
  refine lkC [] 73 4 (.slice cB q3 q4) rfl (Or.inl ⟨by rfl,?_⟩) hHeld ?_
  ·intro w hSw;go_simp
  (try simp only[Act.put,sIx,sZ0,sZ1])
  refine lkC [7] 74 5 ?_ rfl (Or.inl ⟨by rfl,?_⟩) hHeld ?_
  rotate_left
  ·intro w hSw;go_simp;with_reducible rfl
  (try simp only[Act.put,sIx,sZ0,sZ1])
  refine lkC [7] 75 6 ?_ rfl (Or.inl ⟨by rfl,?_⟩) hHeld ?_
  rotate_left
  ·intro w hSw;go_simp;with_reducible rfl
  (try simp only[Act.put,sIx,sZ0,sZ1])
  refine lkC [] 76 7 (.slice cA q5 q2) rfl (Or.inl ⟨by rfl,?_⟩) hHeld ?_
  ·intro w hSw;go_simp
  (try simp only[Act.put,sIx,sZ0,sZ1])
  refine lkZ rfl (fun K hK=>?_)
  refine step_copy_run w.drew (by rfl) _ _ 58 58 3 (by rfl) (by rfl) _ _ (by rfl) (by rfl) HR1.out 77 rfl ?_
  refine hK.out _ _ ?_
  simp only[Exit.then]
  (try simp only[Act.put,sIx,sZ0,sZ1])
  clear hK K hHeld
  go_wp2_with (refine list_copy_run _ rfl _ _ _ _ _ rfl rfl _ _ rfl rfl HR2.out ?_)
  go_ret
  exact⟨⟨_,rfl,HO.out⟩,(grown_tr (⟨rfl,rfl,rfl,Nat.le_refl _,fun _ _ _=>rfl⟩:w.grownBy w.drew (some g)) HG.out)⟩
 ·obtain rfl:cap=n:=by omega
  have hgt:decide ((cap:Int)<(cap:Int)+1)=true:=decide_eq_true (by omega)
  obtain⟨w1,w2,w3,cap2,H,hcap2,r0,r1,r2,ho,hbe⟩:=ins_grow okI13 3 Tryz.underlying3 h hin hB hlo (by show (cap+1) * 8≤_;omega) 58 3 3
  have hsub:((cap+1-i:Nat):Int)=(cap:Int)+1-(i:Int):=by omega
  rw[hsub] at r0
  have hslH:∀W,(Instr.slice 58 (.slice (some ⟨g,0,none⟩) cap cap) none (some (.int .i64 (i:Int))) none).run Tryz.prog W=.ok (.slice (some ⟨g,0,none⟩) i cap) W:=fun W=>slHC okI13 (some ⟨g,0,none⟩) cap cap i (by omega) W
  have hslA:∀W,(Instr.slice 58 (.slice (some ⟨H,0,none⟩) (cap+1) cap2) (some (.int .i64 (i:Int))) none none).run Tryz.prog W=.ok (.slice (cutC rtI13 (some ⟨H,0,none⟩) cap2 i) (cap+1-i) (cap2-i)) W:=fun W=>slLC okI13 (some ⟨H,0,none⟩) (cap+1) cap2 i (by omega) W
  have hslB:∀W,(Instr.slice 58 (.slice (some ⟨H,0,none⟩) (cap+1) cap2) (some (.int .i64 ((i:Int)+1))) none none).run Tryz.prog W=.ok (.slice (cutC rtI13 (some ⟨H,0,none⟩) cap2 (i+1)) (cap+1-(i+1)) (cap2-(i+1))) W:=fun W=>slLC okI13 (some ⟨H,0,none⟩) (cap+1) cap2 (i+1) (by omega) W
  have hw1:IntKind.i64.wrap ((i:Int)+1)=(i:Int)+1:=wrapi64_in _ (by omega) (by omega)
  have HO:=mkHid ho
  have HB:=mkHid hbe
  have HR0:=mkHid r0
  have HR1:=mkHid r1
  have HR2:=mkHid r2
  have Hnl:=mkHid hn
  clear h hB hn ho hbe r0 r1 r2 hcl hg0 hgl hlo hle hne hroom hlc hsub hcap2
  generalize cutC rtI13 (some ⟨g,0,none⟩) cap i=cA at *
  generalize cutC rtI13 (some ⟨H,0,none⟩) cap2 i=cB at *
  generalize cutC rtI13 (some ⟨H,0,none⟩) cap2 (i+1)=cC at *
  generalize cap-i=q1 at *
  generalize cap+1-(i+1)=q3 at *
  generalize cap2-(i+1)=q4 at *
  generalize cap+1-i=q5 at *
  generalize cap2-i=q6 at *
  generalize L.take i++x::L.drop i=L' at *
  go_enter Tryz.func105,Tryz.ntmps105
  go_upto_region 11 with(first|(at_builtin;refine Lib.wpList_append_run _ rfl _ _ _ _ rfl _ _ rfl rfl _ _ HR0.out ?_)|(refine list_copy_run _ rfl _ _ _ _ _ rfl rfl _ _ rfl rfl HR1.out ?_))
  refine lk0 (fun _=>True) 8 trivial (fun hHeld=>?_)
  refine lkC [4] 46 0 ?_ rfl (Or.inl ⟨by rfl,?_⟩) hHeld ?_
  rotate_left
  ·intro w hSw;go_simp;with_reducible rfl
  (try simp only[Act.put,sIx,sZ0,sZ1])
  refine lkC [3,4] 47 1 ?_ rfl (Or.inl ⟨by rfl,?_⟩) hHeld ?_
  rotate_left
  ·intro w hSw;go_simp;with_reducible rfl
  (try simp only[Act.put,sIx,sZ0,sZ1])
  refine lkC [3,4] 48 2 ?_ rfl (Or.inl ⟨by rfl,?_⟩) hHeld ?_
  rotate_left
  ·intro w hSw;go_simp;with_reducible rfl
  (try simp only[Act.put,sIx,sZ0,sZ1])
  refine lkC [4] 49 3 (.int .i64 ((i:Int)+1)) rfl (Or.inl ⟨by rfl,?_⟩) hHeld ?_
  ·intro w hSw;go_simp<;>(try rw[hw1])
  (try simp only[Act.put,sIx,sZ0,sZ1])
  refine lkC [] 50 4 (.slice cC q3 q4) rfl (Or.inl ⟨by rfl,?_⟩) hHeld ?_
  ·intro w hSw;go_simp
  (try simp only[Act.put,sIx,sZ0,sZ1])
  refine lkC [7] 51 5 ?_ rfl (Or.inl ⟨by rfl,?_⟩) hHeld ?_
  rotate_left
  ·intro w hSw;go_simp;with_reducible rfl
  (try simp only[Act.put,sIx,sZ0,sZ1])
  refine lkC [7] 52 6 ?_ rfl (Or.inl ⟨by rfl,?_⟩) hHeld ?_
  rotate_left
  ·intro w hSw;go_simp;with_reducible rfl
  (try simp only[Act.put,sIx,sZ0,sZ1])
  refine lkC [] 53 7 (.slice cA q1 q1) rfl (Or.inl ⟨by rfl,?_⟩) hHeld ?_
  ·intro w hSw;go_simp
  (try simp only[Act.put,sIx,sZ0,sZ1])
  refine lkZ rfl (fun K hK=>?_)
  refine step_copy_run w2.drew (by rfl) _ _ 58 58 3 (by rfl) (by rfl) _ _ (by rfl) (by rfl) HR2.out 54 rfl ?_
  refine hK.out _ _ ?_
  simp only[Exit.then]
  (try simp only[Act.put,sIx,sZ0,sZ1])
  clear hK K hHeld
  go_wp2_with fail
  go_ret
  exact⟨⟨_,rfl,HO.out⟩,⟨HB.out.1,HB.out.2,HB.out.3,HB.out.4,fun k hk _=>HB.out.5 k hk⟩⟩
variable {fl:Nat}
theorem pgS_node13 {ks:List Nat}(h1:ks.length≤254)(h2:∀i∈ks,i<65536):PgS ⟨1,[],ks⟩ :=
 ⟨⟨fun _=>rfl,fun h=>absurd h (by simp),by simp only[List.length_nil];omega,by simp,fun e he=>by cases he⟩,by simp only[List.length_nil];omega,by simp only[szL];omega,h2,fun e he=>by cases he⟩
theorem ks_ins (A B:Ps)(s k:Nat)(l l1 l2:List Et):
  (((A++(s,l):: B).map (·.1)).map Int.ofNat).take (A.length+1)++(k:Int):: (((A++(s,l):: B).map (·.1)).map Int.ofNat).drop (A.length+1)=((A++(s,l1):: (k,l2):: B).map (·.1)).map Int.ofNat:=by
 have e:((A++(s,l):: B).map (·.1)).map Int.ofNat=((A++[(s,l)]).map (·.1)).map Int.ofNat++(B.map (·.1)).map Int.ofNat:=by simp
 have hl:(((A++[(s,l)]).map (·.1)).map Int.ofNat).length=A.length+1:=by simp
 rw[e,←hl,List.take_left',List.drop_left']
 ·simp
 ·rfl
 ·rfl
theorem rdN_empty (w:World)(a:Option Addr)(c:Nat):RdN fl w (.slice a 0 c) []:=⟨⟨a,c,rfl,Nat.zero_le _,fun h=>absurd h (Nat.lt_irrefl 0)⟩,fun x hx=>by cases hx⟩
theorem codInsNode (w w0:World)(S J P base m:Nat)(t:Tl)(j:Jl)(Q:Ps)(s:Nat)(v ve vk:Value)(L:List Eq3)(e:Et)(q:EtA)(h:SpAx w S J P base t j)(hN:NdAt t j s Q)(hk:Tk t j m ((s:Int):: secsP Q))(hs:SrtE (entsP Q))(hK:KS base w0 w)(hp:PgO w w0.heap.size (s:Int) ⟨1,[],Q.map (·.1)⟩ v ve vk L)
  (he:EtQ fl w e q) (hit:itemOk e.k e.v=true) (hroom:t.l.length+6≤48) (hq:Q.length≤200) (hdisk:Q.length+1<j.p.n-51) (hlo0:base≤w0.heap.size) (hfl:fl≤base:=by omega):
  Calls Tryz.prog 68 #[gT S,v,.agg (etc2 e q).toArray] w fun r w'=>(∃t' S',r=.returned (.int .i64 0)∧SpAx w' S J P base t' j∧Tk t' j m S'∧TR t' j s (putE13 (entsP Q) e.k e.v) S'∧t'.l.length≤t.l.length+5)∧KS base w0 w':=by
 have hlo:=spcOK.lo h
 have hf:=hk.fit
 have hn2:=hf.few.n
 obtain⟨ka,kc,hvk,hkc,hka,_⟩:=OwnRw.form okI13 hp.k.c
 have hks:((Q.map (·.1)).map Int.ofNat).length=Q.length:=by simp
 obtain⟨ea,ec,hve⟩:∃ea ec,ve=.slice ea 0 ec:=by
  obtain⟨ea,ec,_,_,h1,_⟩:=hp.r.forms
  exact⟨ea,ec,h1⟩
 have hL0:L=[]:=List.map_eq_nil_iff.1 hp.es
 subst hL0
 rw[hks] at hvk hkc
 obtain⟨n,hn⟩:∃n,n=Q.length:=⟨_,rfl⟩
 rw[←hn] at hvk hkc hq hdisk
 subst hvk
 obtain rfl:=hp.v
 have hsz0:w0.heap.size≤w.heap.size:=hK.o.size
 have hNd:=node_kids hN hk
 have hkey:=he.is.k
 unfold gT
 have W1:Below w.heap.size w (((w.alloc (.cells #[.pointer (some ⟨S,0,none⟩)] 87)).alloc (.cells #[.int .i64 (s:Int),.int .i64 1,ve,.slice ka n kc] 133)).alloc (.cells (etc2 e q).toArray 64)):=(((Below.refl _ w).alloc (Nat.le_refl _) _).alloc (by simp) _).alloc (by simp;omega) _
 have k0:Blk (((w.alloc (.cells #[.pointer (some ⟨S,0,none⟩)] 87)).alloc (.cells #[.int .i64 (s:Int),.int .i64 1,ve,.slice ka n kc] 133)).alloc (.cells (etc2 e q).toArray 64)) w.heap.size 87 [.pointer (some ⟨S,0,none⟩)]:=((Blk.newAt w w.heap.size 87 #[.pointer (some ⟨S,0,none⟩)] [.pointer (some ⟨S,0,none⟩)] rfl rfl).alloc _).alloc _
 have k1:Blk (((w.alloc (.cells #[.pointer (some ⟨S,0,none⟩)] 87)).alloc (.cells #[.int .i64 (s:Int),.int .i64 1,ve,.slice ka n kc] 133)).alloc (.cells (etc2 e q).toArray 64)) (w.heap.size+1) 133 [.int .i64 (s:Int),.int .i64 1,ve,.slice ka n kc]:=(Blk.newAt _ (w.heap.size+1) 133 _ _ (by simp) rfl).alloc _
 have k2:Blk (((w.alloc (.cells #[.pointer (some ⟨S,0,none⟩)] 87)).alloc (.cells #[.int .i64 (s:Int),.int .i64 1,ve,.slice ka n kc] 133)).alloc (.cells (etc2 e q).toArray 64)) (w.heap.size+2) 64 (etc2 e q):=Blk.newAt _ (w.heap.size+2) 64 _ _ (by simp) rfl
 generalize hW:((w.alloc (.cells #[.pointer (some ⟨S,0,none⟩)] 87)).alloc (.cells #[.int .i64 (s:Int),.int .i64 1,ve,.slice ka n kc] 133)).alloc (.cells (etc2 e q).toArray 64)=Y0 at *
 have hA0:=SpAx.keep h (KeepT.of_below W1)
 have hK0:=hK.trans (KS.of_below W1 hlo)
 have hp0:=hp.below W1
 have he0:=he.below W1
 have HFd:=pgFind Y0 S J P base m t j (s:Int) ve (.slice ka n kc) (Q.map (·.1)) _ q.a e.k.length q.c e.k hA0 hf hp0.r.k ⟨ea,0,ec,hve⟩ he0.is.k hNd (by simp;omega) (by have:=hN.n;simp;omega)
 unfold gT pgc at HFd
 unfold etc2 at *
 have HCt:Hid (∀W,KS base Y0 W→W.cell? ⟨w.heap.size,0,none⟩=some (.pointer (some ⟨S,0,none⟩))∧W.cell? ⟨w.heap.size+1,0,none⟩=some (.int .i64 (s:Int))∧W.cell? ⟨w.heap.size+1,1,none⟩=some (.int .i64 1)∧W.cell? ⟨w.heap.size+1,2,none⟩=some ve∧W.cell? ⟨w.heap.size+1,3,none⟩=some (.slice ka n kc)∧W.cell? ⟨w.heap.size+2,0,none⟩=some (.slice q.a e.k.length q.c)∧W.cell? ⟨w.heap.size+2,1,none⟩=some (.slice q.b e.v.length q.d)):=fun W hW=>by
  have b0:=hW.o.blk k0 (by decide)
  have b1:=hW.o.blk k1 (by decide)
  have b2:=hW.o.blk k2 (by decide)
  exact⟨b0.cell 0,b1.cell 0,b1.cell 1,b1.cell 2,b1.cell 3,b2.cell 0,b2.cell 1⟩
 have HA0:=mkHid hA0
 have HK0:=mkHid hK0
 have HB0:=mkHid k0
 have HB1:=mkHid k1
 have HP0:=mkHid hp0
 have HE0:=mkHid he0
 have HN:=mkHid hN
 have HKt:=mkHid (And.intro hk hs)
 have HNd:=mkHid hNd
 have HIt:=mkHid hit
 have HLo:Hid (base≤Y0.heap.size):=spcOK.lo hA0
 have HVe:=mkHid hve
 have HNn:=mkHid hn
 have c0:=k0.cell 0
 have d0:=k1.cell 0
 have d1:=k1.cell 1
 have d2:=k1.cell 2
 have d3:=k1.cell 3
 have e0:=k2.cell 0
 have e1:=k2.cell 1
 simp only[gZ0,gZ1] at c0 d0 d1 d2 d3 e0 e1
 obtain⟨kn,hkn⟩:∃x,x=e.k.length:=⟨_,rfl⟩
 obtain⟨vn,hvn⟩:∃x,x=e.v.length:=⟨_,rfl⟩
 rw[←hkn] at e0 HFd
 rw[←hvn] at e1
 rw[←hkn,←hvn] at HCt
 unfold pgc
 show Calls Tryz.prog _ #[_,.agg #[.int .i64 (s:Int),.int .i64 1,ve,.slice ka n kc],.agg #[.slice q.a e.k.length q.c,.slice q.b e.v.length q.d]] w _
 rw[←hkn,←hvn] at hW ⊢
 have HKn:=mkHid (And.intro hkn hvn)
 have hsz1:w.heap.size+1<Y0.heap.size:=k1.lt
 clear hp he hit hA0 hK0 hp0 he0 k0 k1 k2 W1 hK h hN hk hs hNd hkey hve hn hkn hvn hka hks hkc
 go_enter Tryz.func68,Tryz.ntmps68
 go_upto_region 1 with fail
 (try rw[hW])
 clear hW
 go_upto_region 4 with fail
 go_upto_region 5 with(go_at_call 73;refine HFd.mono ?_;rintro r1 y1 ⟨⟨i,rfl,hil,hi1,hi2⟩,hb1⟩)
 rw[List.length_map] at hil hi2
 obtain⟨A,p,B,hQ,hAi,hgi,hpm,hAl,hAg⟩:=node_cut HN.out HKt.out.2 hil hi1 hi2
 obtain⟨s1,l1⟩:=p
 have hlf:=HNd.out i s1 (by rw[List.getElem?_map,hQ,←hAi];simp)
 simp only[hgi] at hlf
 obtain⟨f1,f2,f3,f4⟩:=hlf
 have hD:Below y1.heap.size y1 y1.drew:=(Below.refl _ y1).drew
 have hb0D:Below Y0.heap.size Y0 y1.drew:=hb1.trans (hD.mono hb1.size)
 have hKD:KS base Y0 y1.drew:=KS.of_below hb0D HLo.out
 have hAD:=SpAx.keep HA0.out (KeepT.of_below hb0D)
 have HKd:=pgKid y1.drew S J P base m t j (s:Int) 1 ve (.slice ka n kc) (Q.map (·.1)) i s1 ⟨0,l1,[]⟩ hAD hf (HP0.out.below hb0D).r.k (by rw[List.getElem?_map,hQ,←hAi];simp) f1 f2 f3 rfl (by omega)
 unfold gT pgc at HKd
 have hFR:FR t j m (A++(s1,l1):: B) [(s:Int)]:=by rw[←hQ];exact FR.ofNode HN.out HKt.out.1
 have HIL:Hid (∀y2 v2 ve2 vk2 L2,Below y1.drew.heap.size y1.drew y2→PgO y2 y1.drew.heap.size (s1:Int) ⟨0,l1,[]⟩ v2 ve2 vk2 L2→Calls Tryz.prog 68 #[.agg #[.pointer (some ⟨S,0,none⟩)],v2,.agg #[.slice q.a kn q.c,.slice q.b vn q.d]] y2 fun r w'=>(∃b t',r=.returned (.int .i64 b)∧SpAx w' S J P base t' j∧KeepPost t j m A B [(s:Int)] s1 (putE13 l1 e.k e.v) b t')∧KS base y1.drew w'∧PgKeep y2 w'):=fun y2 v2 ve2 vk2 L2 hb2 hp2=>by
  rw[HKn.out.1,HKn.out.2]
  exact codInsLeaf y2 y1.drew S J P base m t j A B [(s:Int)] s1 l1 v2 ve2 vk2 L2 e q (SpAx.keep hAD (KeepT.of_below hb2)) hFR (KS.of_below hb2 (spcOK.lo hAD)) hp2 ((HE0.out.below hb0D).below hb2) HIt.out (by omega) (by rw[←hQ,←HNn.out];show 1+n<_;omega) (spcOK.lo hAD)
 have HKD:=mkHid (And.intro hKD hAD)
 have HQ:=mkHid (And.intro hQ hAi)
 have HAl:=mkHid (And.intro hAl hAg)
 have hin:i<n:=by rw[HNn.out];exact hil
 clear hb1 hb0D hKD hAD hFR hQ hAl hAg hpm hgi hi1 hi2 f1 f2 f3 f4 HFd HNd hD hAi hil
 refine lk0 (fun W=>W.cell? ⟨w.heap.size,0,none⟩=some (.pointer (some ⟨S,0,none⟩))∧W.cell? ⟨w.heap.size+1,0,none⟩=some (.int .i64 (s:Int))∧W.cell? ⟨w.heap.size+1,1,none⟩=some (.int .i64 1)∧W.cell? ⟨w.heap.size+1,2,none⟩=some ve∧W.cell? ⟨w.heap.size+1,3,none⟩=some (.slice ka n kc)∧W.cell? ⟨w.heap.size+2,0,none⟩=some (.slice q.a kn q.c)∧W.cell? ⟨w.heap.size+2,1,none⟩=some (.slice q.b vn q.d)) 7 (HCt.out _ HKD.out.1) (fun hHeld=>?_)
 refine lkT 22 0 (.agg #[.pointer (some ⟨S,0,none⟩)]) rfl (Or.inl ⟨by rfl,?_⟩) hHeld ?_
 ·intro w hSw;obtain⟨s0,s1,s2,s3,s4,s5,s6⟩:=hSw;go_simp
 (try simp only[Act.put,sIx,sZ0,sZ1])
 refine lkT 23 1 (.agg #[.pointer (some ⟨S,0,none⟩)]) rfl (Or.inl ⟨by rfl,?_⟩) hHeld ?_
 ·intro w hSw;obtain⟨s0,s1,s2,s3,s4,s5,s6⟩:=hSw;go_simp
 (try simp only[Act.put,sIx,sZ0,sZ1])
 refine lkT 24 2 (.agg #[.int .i64 (s:Int),.int .i64 1,ve,.slice ka n kc]) rfl (Or.inl ⟨by rfl,?_⟩) hHeld ?_
 ·intro w hSw;obtain⟨s0,s1,s2,s3,s4,s5,s6⟩:=hSw;go_simp
 (try simp only[Act.put,sIx,sZ0,sZ1])
 refine lkT 25 3 (.int .i64 (i:Int)) rfl (Or.inl ⟨by rfl,?_⟩) hHeld ?_
 ·intro w hSw;go_simp
 (try simp only[Act.put,sIx,sZ0,sZ1])
 refine lkT 27 5 (.agg #[.slice q.a kn q.c,.slice q.b vn q.d]) rfl (Or.inl ⟨by rfl,?_⟩) hHeld ?_
 ·intro w hSw;obtain⟨s0,s1,s2,s3,s4,s5,s6⟩:=hSw;go_simp
 (try simp only[Act.put,sIx,sZ0,sZ1])
 refine lk1 4 rfl (fun K hK=>?_)
 go_simp
 refine HKd.mono ?_
 rintro r2 y2 ⟨⟨v2,ve2,vk2,L2,rfl,hp2⟩,hb2⟩
 go_simp
 refine hK.out _ _ (HCt.out _ (HKD.out.1.trans (KS.of_below hb2 (spcOK.lo HKD.out.2)))) (fun hHeld=>?_)
 (try simp only[Act.put,sIx,sZ0,sZ1])
 clear hK K HKd
 have HIL2:=HIL.out y2 v2 ve2 vk2 L2 hb2 hp2
 clear hp2 HIL
 refine lk1 6 rfl (fun K hK=>?_)
 go_simp
 refine HIL2.mono ?_
 rintro r3 y3 ⟨⟨b,t',rfl,hA3,hr3,hkp⟩,hk3,-⟩
 go_simp
 refine hK.out _ _ (HCt.out _ (HKD.out.1.trans hk3)) (fun hHeld=>?_)
 (try simp only[Act.put,sIx,sZ0,sZ1])
 clear hK K HIL2 hb2
 refine lkZ rfl (fun K hK=>?_)
 go_simp
 refine hK.out _ _ ?_
 simp only[Exit.then]
 (try simp only[Act.put,sIx,sZ0,sZ1])
 clear hK K
 have HA3:=mkHid hA3
 have HK3:=mkHid (HK0.out.trans (HKD.out.1.trans hk3))
 have HB03:=mkHid ((HKD.out.1.trans hk3).o.blk HB0.out (by decide))
 have HB13:=mkHid ((HKD.out.1.trans hk3).o.blk HB1.out (by decide))
 have HZ3:Hid (OwnZ y3 w0.heap.size (.slice ka n kc) ((Q.map (·.1)).map Int.ofNat)):=own_keepO (us:=[3]) ((HKD.out.1.trans hk3).o.less (by decide)) HP0.out.k (by decide)
 clear hA3 hk3 HCt HKD
 rcases hkp with⟨rfl,hl3,hF3,hX3⟩|⟨k,c,rfl,hk51,hkn',hl3,hl4,hF3⟩
 ·have HR:Hid (Tk t' j m ((s:Int):: secsP (A++(s1,putE13 l1 e.k e.v):: B))∧TR t' j s (putE13 (entsP Q) e.k e.v) ((s:Int):: secsP (A++(s1,putE13 l1 e.k e.v):: B))):=by
   have hN':=HN.out
   rw[HQ.out.1] at hN'
   have hrd:spRdB t' j (s:Int)=nodeB ((A++(s1,putE13 l1 e.k e.v):: B).map (·.1)):=by
    rw[hX3 s List.mem_cons_self,hN'.rd]
    simp only[List.map_append,List.map_cons]
   have hs2:=HKt.out.2.put e.k e.v
   have hpe:putE13 (entsP Q) e.k e.v=entsP (A++(s1,putE13 l1 e.k e.v):: B):=by rw[HQ.out.1,node_put HAl.out.1 HAl.out.2,ents_mid]
   rw[hpe] at hs2 ⊢
   have:=hF3.node hs2 (by have:=hN'.n;simpa using this) (by have:=hN'.n2;simpa using this) hrd
   exact⟨this.2,this.1⟩
  clear hl3 hF3 hX3
  go_wp2_with fail
  go_ret
  exact⟨⟨t',_,rfl,HA3.out,HR.out.1,HR.out.2,by omega⟩,HK3.out⟩
 have hi:=HQ.out.2
 have hQe:=HQ.out.1
 have hQl:n=A.length+(B.length+1):=by rw[HNn.out,hQe];simp
 obtain⟨ks,hks⟩:∃ks,ks=(A++(s1,(putE13 l1 e.k e.v).take c):: (k,(putE13 l1 e.k e.v).drop c):: B).map (·.1):=⟨_,rfl⟩
 have hksl:ks.length=n+1:=by rw[hks,hQl];simp;omega
 obtain⟨z1,z2,z3,z4⟩:=hF3.top (s:=s) (by omega) ks
 have hR:TR (spWr t' j (s:Int) (nodeB ks)) j s (putE13 (entsP Q) e.k e.v) ((s:Int):: secsP (A++(s1,(putE13 l1 e.k e.v).take c):: (k,(putE13 l1 e.k e.v).drop c):: B))∧Tk (spWr t' j (s:Int) (nodeB ks)) j m ((s:Int):: secsP (A++(s1,(putE13 l1 e.k e.v).take c):: (k,(putE13 l1 e.k e.v).drop c):: B)):=by
  have hs2:=HKt.out.2.put e.k e.v
  have hpe:putE13 (entsP Q) e.k e.v=entsP (A++(s1,(putE13 l1 e.k e.v).take c):: (k,(putE13 l1 e.k e.v).drop c):: B):=by rw[hQe,node_put HAl.out.1 HAl.out.2,ents_two]
  rw[hpe] at hs2 ⊢
  rw[hks] at z2 z4 ⊢
  have h254:n+1≤254:=by omega
  rw[←hksl,hks,List.length_map] at h254
  exact z2.node hs2 (by simp;omega) h254 z4
 have hks6:∀x∈ks,x<65536:=fun x hx=>by
  rw[hks] at hx
  obtain⟨y,hy,rfl⟩:=List.mem_map.1 hx
  have:=hF3.rng hy
  omega
 have hsn:s≤4096:=by
  have:=hF3.tk.rng (s:Int) (List.mem_append_left _ List.mem_cons_self)
  omega
 have HPg:Hid (∀W v4,SpAx W S J P base t' j→OwnZ W w0.heap.size v4 (ks.map Int.ofNat)→Calls Tryz.prog 104 #[.agg #[.pointer (some ⟨S,0,none⟩)],.agg #[.int .i64 (s:Int),.int .i64 1,ve,v4]] W fun e w'=>e=.returned (.int .i64 0)∧SpAx w' S J P base (spWr t' j (s:Int) (nodeB ks)) j∧KS base W w'):=fun W v4 hA hO=>by
  have:=codKeepFits (fl:=0) W S J P base m t' j s ⟨1,[],ks⟩ ve v4 [] hA hF3.tk.fit ⟨by rw[HVe.out];exact rdN_empty _ _ _,hO.rd,rfl⟩ (pgS_node13 (by omega) hks6) hsn (by rw[pgB_node];exact z1)
  rw[pgB_node] at this
  exact this
 have hka:∀g,ka=some ⟨g,0,none⟩→w0.heap.size≤g∧g<y3.heap.size:=fun g e2=>by
  have:=HZ3.out
  rw[e2] at this
  exact World.ownsRow.lt this g rfl
 have hkc:kc≤9223372036854775807:=by
  rcases HZ3.out.2 with⟨h1,_⟩|⟨g2,cap2,cur,h3,_,_,_,h5,_⟩
  ·injection h1 with _ _ h1;omega
  ·injection h3 with _ _ h3;rw[h3];unfold maxLen at h5;omega
 have hA4:Below y3.heap.size y3 (y3.alloc (.cells #[.int .i64 (k:Int)] 3)):=(Below.refl _ y3).alloc (Nat.le_refl _) _
 have hHi3:w0.heap.size≤y3.heap.size:=HK3.out.o.size
 have HIn:Calls Tryz.prog 105 #[.slice ka n kc,.int .i64 ((i:Int)+1),.slice (some ⟨y3.heap.size,0,none⟩) 1 1] (y3.alloc (.cells #[.int .i64 (k:Int)] 3)) fun r w'=>(∃v',r=.returned v'∧OwnRw rtI13 w' w0.heap.size v' (ks.map Int.ofNat))∧(y3.alloc (.cells #[.int .i64 (k:Int)] 3)).grownBy w' (Value.slice ka n kc).ownBlock:=by
  have:=codInsertI (y3.alloc (.cells #[.int .i64 (k:Int)] 3)) w0.heap.size ka n kc (i+1) y3.heap.size _ (k:Int) (by simp only[List.length_map];exact HNn.out.symm) (OwnZ.c (own_keepO (us:=[3]) (KeepO.of_below hA4) HZ3.out (by decide))) (Blk.new y3 3 [.int .i64 (k:Int)]) (by omega) (by omega) hkc (Nat.le_trans hHi3 hA4.size) (fun g e2=>by have:=(hka g e2).2;omega)
  rw[hQe,←hi,ks_ins A B s1 k l1 ((putE13 l1 e.k e.v).take c) ((putE13 l1 e.k e.v).drop c),←hks] at this
  rw[←hi]
  exact this
 have hkne:((k:Int)==0)=false:=by rw[beq_eq_false_iff_ne];omega
 have hkne2:¬k=0:=by omega
 have hw1:IntKind.i64.wrap ((i:Int)+1)=(i:Int)+1:=wrapi64_in _ (by omega) (by omega)
 have HR:=mkHid hR
 have HZe:=mkHid z3
 have HKa:=mkHid hka
 clear hl3 hl4 hF3 z1 z2 z3 z4 hR hks6 hsn hksl hks hQl hQe hi hkc hka
 have c0:=HB03.out.cell 0
 have d0:=HB13.out.cell 0
 have d1:=HB13.out.cell 1
 have d2:=HB13.out.cell 2
 have d3:=HB13.out.cell 3
 simp only[gZ0,gZ1] at c0 d0 d1 d2 d3
 go_upto_region 9 with(go_at_call 105;refine HIn.mono ?_;rintro r4 y4 ⟨⟨v4,rfl,ho4⟩,hg4⟩;obtain⟨va,vc,hv4,_⟩:=OwnRw.form okI13 ho4;generalize (ks.map Int.ofNat).length=n4 at hv4;subst hv4;have hkt4:KeepT [3] (y3.alloc (.cells #[.int .i64 (k:Int)] 3)) y4:=KeepT.grownC (OwnZ.c (own_keepO (us:=[3]) (KeepO.of_below hA4) HZ3.out (by decide))) hg4;have kb4:=hkt4.blk (HB13.out.on hA4) (by decide);have kq3:=kb4.cell 3;have kf3:=kb4.frozen 3;simp only[gZ0,gZ1] at kq3)
 have kb5:=kb4.set 3 (.slice va n4 vc)
 have kb05:=(hkt4.blk (HB03.out.on hA4) (by decide)).other ⟨w.heap.size+1,3,none⟩ (.slice va n4 vc) (by show w.heap.size≠w.heap.size+1;omega)
 have hT:KeepT T13 y3 (y4.setCell ⟨w.heap.size+1,3,none⟩ (.slice va n4 vc)):=((KeepT.of_below hA4).trans (hkt4.more (by decide))).set kb4 (by decide) 3 _
 have hA5:=HA3.out.keep13 hT
 have hT1:KeepT [133] y4 (y4.setCell ⟨w.heap.size+1,3,none⟩ (.slice va n4 vc)):=(KeepT.refl _ y4).set kb4 (by decide) 3 _
 have hO5:OwnZ (y4.setCell ⟨w.heap.size+1,3,none⟩ (.slice va n4 vc)) w0.heap.size (.slice va n4 vc) (ks.map Int.ofNat):=own_keepO (us:=[3]) (KeepO.ofT hT1 (by decide)) ho4.z13 (by decide)
 have hB5:Below w0.heap.size y3 (y4.setCell ⟨w.heap.size+1,3,none⟩ (.slice va n4 vc)):=((hA4.mono hHi3).grown hg4 (Nat.le_trans hHi3 hA4.size) (fun b e2=>by
  cases ka with
  | none=>cases e2
  | some ad =>
   obtain⟨ag,ao,aq⟩:=ad
   have h7:ag=b:=Option.some.inj e2
   rcases HZ3.out.2 with⟨h1,_⟩|⟨g2,_,_,h3,_⟩
   ·injection h1 with h1 _ _;cases h1
   ·injection h3 with h3 _ _
    have h4:=Option.some.inj h3
    injection h4 with h4 h5 h6
    subst h4 h5 h6
    rw[←h7]
    exact(HKa.out _ rfl).1)).setCell (p:=⟨w.heap.size+1,3,none⟩) (by show w0.heap.size≤w.heap.size+1;omega) _
 have HK5:=mkHid (HK3.out.over hB5 hlo0)
 have hPg:=HPg.out _ _ hA5 hO5
 clear hB5 hT hT1 hA5 hO5 kb4 kq3 kf3 hkt4 hg4 ho4 HIn HPg
 generalize y4.setCell ⟨w.heap.size+1,3,none⟩ (.slice va n4 vc)=Y5 at *
 have c0:=kb05.cell 0
 have d0:=kb5.cell 0
 have d1:=kb5.cell 1
 have d2:=kb5.cell 2
 have d3:=kb5.cell 3
 simp only[List.set_cons_zero,List.set_cons_succ,gZ0,gZ1] at c0 d0 d1 d2 d3
 clear kb05 kb5
 go_wp2_with (go_at_call 104;refine hPg.mono ?_;rintro r6 y6 ⟨rfl,hA6,hk6⟩;have HA6:=mkHid (And.intro hA6 hk6);clear hA6 hk6)
 go_ret
 exact⟨⟨_,_,rfl,HA6.out.1,HR.out.2,HR.out.1,by have:=HZe.out;omega⟩,HK5.out.trans HA6.out.2⟩
end
section
open Go.RowKit
variable {fl:Nat}
theorem rdN_one {w:World}{B:Nat}{e:Et}{q:EtA}(hB:Blk w B 64 (etc2 e q))(he:EtQ fl w e q):RdN fl w (.slice (some ⟨B,0,none⟩) 1 1) [(e,q)] :=
 ⟨⟨_,1,rfl,Nat.le_refl _,fun _=>⟨B,0,_,_,rfl,hB,fun i u hu=>by
  rw[Nat.zero_add]
  refine(hB.cell i).trans ?_
  have h2:ets [((e,q):Eq3)]=etc2 e q:=by simp[ets]
  rw[←h2]
  exact hu⟩⟩,fun x hx=>by rw[List.mem_singleton.1 hx];exact he⟩
theorem rdZ_two {w:World}{B a b:Nat}(hB:Blk w B 3 [.int .i64 (a:Int),.int .i64 (b:Int)]):RdZ w (.slice (some ⟨B,0,none⟩) 2 2) [a,b] :=
 ⟨_,2,rfl,Nat.le_refl _,fun _=>⟨B,0,_,_,rfl,hB,fun i hi=>by
  rw[Nat.zero_add]
  refine(hB.cell i).trans ?_
  rcases i with _|_|i
  ·rfl
  ·rfl
  ·simp only[List.length_cons,List.length_nil] at hi
   omega⟩⟩
def PutT (w:World)(S J P base m:Nat)(t:Tl)(j:Jl)(l:List Et)(e:Et)(r:Ending)(w':World):Prop :=
 (∃t' root' S',r=.returned (.int .i64 ((root':Nat):Int))∧SpAx w' S J P base t' j∧Tk t' j m S'∧TR t' j root' (putE13 l e.k e.v) S'∧t'.l.length≤t.l.length+7)∧KS base w w'
theorem pgPut0 (w:World)(S J P base m:Nat)(t:Tl)(j:Jl)(e:Et)(q:EtA)(h:SpAx w S J P base t j)(hk:Tk t j m [])(he:EtQ fl w e q)(hit:itemOk e.k e.v=true)(hroom:t.l.length+8≤48)(hdisk:2<j.p.n-51)(hfl:fl≤base:=by omega):
  Calls Tryz.prog 43 #[gT S,.int .i64 0,.agg (etc2 e q).toArray] w (PutT w S J P base m t j [] e):=by
 have hlo:=spcOK.lo h
 have hFR:FR t j m ([]++[]) []:=⟨hk,fun p hp=>by cases hp⟩
 have hL1:LfOk [e]:=one_leaf hit
 obtain⟨a1,a2,a3,a4,a5,a6,a7⟩:=hFR.add (by omega) (by simp;omega) hL1
 unfold gT
 have W1:Below w.heap.size w ((w.alloc (.cells #[.pointer (some ⟨S,0,none⟩)] 87)).alloc (.cells (etc2 e q).toArray 64)):=((Below.refl _ w).alloc (Nat.le_refl _) _).alloc (by simp) _
 have k0:Blk ((w.alloc (.cells #[.pointer (some ⟨S,0,none⟩)] 87)).alloc (.cells (etc2 e q).toArray 64)) w.heap.size 87 [.pointer (some ⟨S,0,none⟩)]:=(Blk.newAt w w.heap.size 87 #[.pointer (some ⟨S,0,none⟩)] [.pointer (some ⟨S,0,none⟩)] rfl rfl).alloc _
 have k2:Blk ((w.alloc (.cells #[.pointer (some ⟨S,0,none⟩)] 87)).alloc (.cells (etc2 e q).toArray 64)) (w.heap.size+1) 64 (etc2 e q):=Blk.newAt _ (w.heap.size+1) 64 _ _ (by simp) rfl
 generalize hW:(w.alloc (.cells #[.pointer (some ⟨S,0,none⟩)] 87)).alloc (.cells (etc2 e q).toArray 64)=Y0 at *
 have W2:Below w.heap.size w (Y0.alloc (.cells (etc2 e q).toArray 64)):=W1.alloc W1.size _
 have hAd:=pgAdd (Y0.alloc (.cells (etc2 e q).toArray 64)) S J P base m t j 0 ⟨0,[e],[]⟩ (.slice (some ⟨Y0.heap.size,0,none⟩) 1 1) (.slice none 0 0) [(e,q)] (SpAx.keep h (KeepT.of_below W2)) hk.fit ⟨rdN_one (Blk.new Y0 64 (etc2 e q)) (he.below W2),RdZ.nil _,rfl⟩ (pgS_leaf13 hL1) a1 a2 a4 (by rw[pgB_leaf];exact a5)
 rw[pgB_leaf] at hAd
 unfold gT pgc at hAd
 have HR:Hid (Tk (addT t j (leafB [e])) j m [(tkV t j:Int)]∧TR (addT t j (leafB [e])) j (tkV t j) [e] [(tkV t j:Int)]∧(addT t j (leafB [e])).l.length≤t.l.length+7):=by
  have:=a6.leaf
  exact⟨this.2,this.1,by omega⟩
 have HK0:=mkHid (KS.of_below (base:=base) W2 hlo)
 unfold etc2 at *
 have c0:=k0.cell 0
 have e0:=k2.cell 0
 have e1:=k2.cell 1
 simp only[gZ0,gZ1] at c0 e0 e1
 clear h hk he hit hFR hL1 a1 a2 a3 a4 a5 a6 a7 W1 W2 k0 k2
 unfold PutT
 have HPut:Hid (putE13 [] e.k e.v=[e]):=put_nil e.k e.v
 rw[HPut.out]
 go_enter Tryz.func43,Tryz.ntmps43
 go_upto_region 1 with fail
 (try rw[hW])
 clear hW
 go_wp2_with (go_at_call 66;refine hAd.mono ?_;rintro r6 y6 ⟨rfl,hA6,hk6⟩;have HA6:=mkHid (And.intro hA6 hk6);clear hA6 hk6)
 go_ret
 exact⟨⟨_,_,_,rfl,HA6.out.1,HR.out.1,HR.out.2.1,HR.out.2.2⟩,HK0.out.trans HA6.out.2⟩
end
section
open Go.RowKit
variable {fl:Nat}
theorem pgPutL (w:World)(S J P base m:Nat)(t:Tl)(j:Jl)(s:Nat)(l:List Et)(e:Et)(q:EtA)(h:SpAx w S J P base t j)(hk:Tk t j m [(s:Int)])(hl:LfAt t j s l)(he:EtQ fl w e q)(hit:itemOk e.k e.v=true)(hroom:t.l.length+8≤48)(hdisk:3<j.p.n-51)(hfl:fl≤base:=by omega):
  Calls Tryz.prog 43 #[gT S,.int .i64 (s:Int),.agg (etc2 e q).toArray] w (PutT w S J P base m t j l e):=by
 have hlo:=spcOK.lo h
 have hf:=hk.fit
 have hn2:=hf.few.n
 have hsr:=hk.rng (s:Int) List.mem_cons_self
 have hFR:FR t j m ([]++(s,l):: []) []:=FR.ofLeaf hl hk
 unfold gT
 have W1:Below w.heap.size w ((w.alloc (.cells #[.pointer (some ⟨S,0,none⟩)] 87)).alloc (.cells (etc2 e q).toArray 64)):=((Below.refl _ w).alloc (Nat.le_refl _) _).alloc (by simp) _
 have k0:Blk ((w.alloc (.cells #[.pointer (some ⟨S,0,none⟩)] 87)).alloc (.cells (etc2 e q).toArray 64)) w.heap.size 87 [.pointer (some ⟨S,0,none⟩)]:=(Blk.newAt w w.heap.size 87 #[.pointer (some ⟨S,0,none⟩)] [.pointer (some ⟨S,0,none⟩)] rfl rfl).alloc _
 have k2:Blk ((w.alloc (.cells #[.pointer (some ⟨S,0,none⟩)] 87)).alloc (.cells (etc2 e q).toArray 64)) (w.heap.size+1) 64 (etc2 e q):=Blk.newAt _ (w.heap.size+1) 64 _ _ (by simp) rfl
 generalize hW:(w.alloc (.cells #[.pointer (some ⟨S,0,none⟩)] 87)).alloc (.cells (etc2 e q).toArray 64)=Y0 at *
 have hA0:=SpAx.keep h (KeepT.of_below W1)
 have he0:=he.below W1
 have HRd:=pgRead Y0 S J P base m t j s ⟨0,l,[]⟩ hA0 hf (by omega) (by omega) (by rw[hl.rd];exact pg_leaf hl.ok)
 have HIL:Hid (∀Y2 v ve vk L,Below Y0.heap.size Y0 Y2→PgO Y2 Y0.heap.size (s:Int) ⟨0,l,[]⟩ v ve vk L→Calls Tryz.prog 68 #[gT S,v,.agg (etc2 e q).toArray] Y2 fun r w'=>(∃b t',r=.returned (.int .i64 b)∧SpAx w' S J P base t' j∧KeepPost t j m [] [] [] s (putE13 l e.k e.v) b t')∧KS base Y0 w'∧PgKeep Y2 w'):=fun Y2 v ve vk L hb hp =>
  codInsLeaf Y2 Y0 S J P base m t j [] [] [] s l v ve vk L e q (SpAx.keep hA0 (KeepT.of_below hb)) hFR (KS.of_below hb (spcOK.lo hA0)) hp (he0.below hb) hit (by omega) (by simp;omega) (spcOK.lo hA0)
 have HK0:=mkHid (KS.of_below (base:=base) W1 hlo)
 have HLo:Hid (base≤Y0.heap.size):=spcOK.lo hA0
 unfold etc2 gT at *
 have HB0:=mkHid k0
 have HB2:=mkHid k2
 have c0:=k0.cell 0
 simp only[List.getElem?_cons_zero] at c0
 have hs0:((s:Int)==0)=false:=by rw[beq_eq_false_iff_ne];omega
 have hs1:¬s=0:=by omega
 clear h hk he hit hFR W1 k0 k2 hA0 he0 hsr
 unfold PutT
 go_enter Tryz.func43,Tryz.ntmps43
 go_upto_region 1 with fail
 (try rw[hW])
 clear hW
 go_upto_region 3 with fail
 go_upto_region 4 with(go_at_call 67;refine HRd.mono ?_;rintro r1 y1 ⟨⟨v,ve,vk,L,rfl,hp1⟩,hb1⟩;obtain⟨ea,ec,ka,kc,hve,hvk⟩:=hp1.r.forms;subst hve hvk;obtain rfl:=hp1.v;unfold pgc)
 have W2:Below y1.heap.size y1 (y1.alloc (.cells #[.int .i64 (s:Int),.int .i64 0,.slice ea l.length ec,.slice ka 0 kc] 133)):=(Below.refl _ y1).alloc (Nat.le_refl _) _
 have kp:Blk (y1.alloc (.cells #[.int .i64 (s:Int),.int .i64 0,.slice ea l.length ec,.slice ka 0 kc] 133)) y1.heap.size 133 [.int .i64 (s:Int),.int .i64 0,.slice ea l.length ec,.slice ka 0 kc]:=Blk.new y1 133 [.int .i64 (s:Int),.int .i64 0,.slice ea l.length ec,.slice ka 0 kc]
 have hb2:=hb1.trans (W2.mono hb1.size)
 have hIL:=HIL.out _ _ _ _ L hb2 (hp1.below W2)
 have kb0:=HB0.out.on hb2
 have kb2:=HB2.out.on hb2
 simp only[List.length_nil] at hIL
 unfold pgc at hIL
 generalize hn:l.length=n at hIL kp W2 hb2 hp1 kb0 kb2 ⊢
 generalize y1.alloc (.cells #[.int .i64 (s:Int),.int .i64 0,.slice ea n ec,.slice ka 0 kc] 133)=Y2 at *
 have c0:=kb0.cell 0
 have d0:=kp.cell 0
 have d1:=kp.cell 1
 have d2:=kp.cell 2
 have d3:=kp.cell 3
 have e0:=kb2.cell 0
 have e1:=kb2.cell 1
 simp only[gZ0,gZ1] at c0 d0 d1 d2 d3 e0 e1
 have HKP:=mkHid kp
 have hbz:w.heap.size+1<Y2.heap.size:=kb2.lt
 have hkb2:KS base Y0 Y2:=KS.of_below hb2 HLo.out
 clear hp1 HIL HRd hb1 kb0 kb2 kp HB2 hn
 go_upto_region 5 with(go_at_call 68;refine hIL.mono ?_;rintro r3 y3 ⟨⟨b,t',rfl,hA3,hr3,hkp⟩,hk3,hpk⟩)
 have HA3:=mkHid hA3
 have HK3:=mkHid (HK0.out.trans hk3)
 clear hA3 hIL
 rcases hkp with⟨rfl,hl3,hF3,hX3⟩|⟨k,c,rfl,hk51,hkn',hl3,hl4,hF3⟩
 ·have HR:=mkHid hF3.leaf
  clear hl3 hF3 hX3 hk3 W2 hb2 HKP hpk
  go_wp2_with fail
  go_ret
  exact⟨⟨t',s,_,rfl,HA3.out,HR.out.2,HR.out.1,by omega⟩,HK3.out⟩
 have hF3':FR t' j m [(s,(putE13 l e.k e.v).take c),(k,(putE13 l e.k e.v).drop c)] []:=hF3
 obtain⟨z1,z2,z3,z4,z5,z6,z7,z8⟩:=hF3'.newtop (by omega) (by simp;omega) [s,k]
 have hks6:∀x∈[s,k],x<65536:=fun x hx=>by
  simp only[List.mem_cons,List.not_mem_nil,or_false] at hx
  rcases hx with rfl|rfl
  ·have:=hF3'.rng (p:=(x,(putE13 l e.k e.v).take c)) List.mem_cons_self
   omega
  ·omega
 have hR:TR (addT t' j (nodeB [s,k])) j (tkV t' j) (putE13 l e.k e.v) ((tkV t' j:Int):: secsP [(s,(putE13 l e.k e.v).take c),(k,(putE13 l e.k e.v).drop c)])∧Tk (addT t' j (nodeB [s,k])) j m ((tkV t' j:Int):: secsP [(s,(putE13 l e.k e.v).take c),(k,(putE13 l e.k e.v).drop c)]):=by
  have hpe:putE13 l e.k e.v=entsP [(s,(putE13 l e.k e.v).take c),(k,(putE13 l e.k e.v).drop c)]:=by
   rw[entsP,entsP,entsP,List.append_nil,List.take_append_drop]
  have hso:SrtE (entsP [(s,(putE13 l e.k e.v).take c),(k,(putE13 l e.k e.v).drop c)]):=by
   rw[←hpe]
   have:=hl.ok.srt.put e.k e.v
   exact this
  have:=z6.node hso (by simp) (by simp) z8
  rw[←hpe] at this
  exact this
 have hAd:=fun W hA hB=>pgAdd (fl:=0) W S J P base m t' j 0 ⟨1,[],[s,k]⟩ (.slice none 0 0) (.slice (some ⟨y3.heap.size,0,none⟩) 2 2) [] hA hF3.tk.fit ⟨rdN_empty _ _ _,rdZ_two hB,rfl⟩ (pgS_node13 (by simp) hks6) z1 z2 z4 (by rw[pgB_node];exact z5)
 rw[pgB_node] at hAd
 have hA4:Below y3.heap.size y3 (y3.alloc (.cells #[.int .i64 (s:Int),.int .i64 (k:Int)] 3)):=(Below.refl _ y3).alloc (Nat.le_refl _) _
 have hAd:=hAd _ (SpAx.keep HA3.out (KeepT.of_below hA4)) (Blk.new y3 3 [.int .i64 (s:Int),.int .i64 (k:Int)])
 unfold gT pgc at hAd
 have kb0:=hk3.o.blk HB0.out (by decide)
 have kp3:=hpk _ _ HKP.out
 have HA4:=mkHid hA4
 have HR:=mkHid hR
 have HZ7:=mkHid z7
 have hk0:((k:Int)==0)=false:=by rw[beq_eq_false_iff_ne];omega
 have hk1:¬k=0:=by omega
 have c0:=kb0.cell 0
 have d1:=kp3.cell 1
 simp only[gZ0,gZ1] at c0 d1
 have HK4:=mkHid (HK3.out.trans (KS.of_below hA4 (spcOK.lo HA3.out)))
 generalize tkV t' j=kk at *
 generalize addT t' j (nodeB [s,k])=tt at *
 clear hF3 hF3' hR z1 z2 z3 z4 z5 z6 z7 z8 hl3 hl4 hks6 hk3 hkb2 W2 hb2 hA4 hpk kb0 kp3 HKP
 go_wp2_with (go_at_call 66;refine hAd.mono ?_;rintro r6 y6 ⟨rfl,hA6,hk6⟩;have HA6:=mkHid (And.intro hA6 hk6);clear hA6 hk6)
 go_ret
 exact⟨⟨tt,kk,_,rfl,HA6.out.1,HR.out.2,HR.out.1,by have:=HZ7.out;omega⟩,HK4.out.trans HA6.out.2⟩
end
section
open Go.RowKit
variable {fl:Nat}
theorem nd_pg13 {t:Tl}{j:Jl}{m:Nat}{s:Nat}{Q:Ps}(hN:NdAt t j s Q)(hk:Tk t j m ((s:Int):: secsP Q)):pgOf (spRdB t j (s:Int))=some ⟨1,[],Q.map (·.1)⟩:=by
 rw[hN.rd]
 refine pg_node (by have:=hN.n;rw[List.length_map];omega) (by have:=hN.n2;rw[List.length_map];omega) (fun x hx=>?_)
 obtain⟨p,hp,rfl⟩:=List.mem_map.1 hx
 have:=hk.rng (p.1:Int) (List.mem_cons_of_mem _ (List.mem_map.2 ⟨p,hp,rfl⟩))
 have:=hk.fit.few.n
 omega
theorem pgPutN (w:World)(S J P base m:Nat)(t:Tl)(j:Jl)(s:Nat)(Q:Ps)(e:Et)(q:EtA)(h:SpAx w S J P base t j)(hk:Tk t j m ((s:Int):: secsP Q))(hN:NdAt t j s Q)(hso:SrtE (entsP Q))(he:EtQ fl w e q)(hit:itemOk e.k e.v=true)(hroom:t.l.length+8≤48)(hq:Q.length≤200)(hdisk:Q.length+1<j.p.n-51)(hfl:fl≤base:=by omega):
  Calls Tryz.prog 43 #[gT S,.int .i64 (s:Int),.agg (etc2 e q).toArray] w (PutT w S J P base m t j (entsP Q) e):=by
 have hlo:=spcOK.lo h
 have hf:=hk.fit
 have hn2:=hf.few.n
 have hsr:=hk.rng (s:Int) List.mem_cons_self
 unfold gT
 have W1:Below w.heap.size w ((w.alloc (.cells #[.pointer (some ⟨S,0,none⟩)] 87)).alloc (.cells (etc2 e q).toArray 64)):=((Below.refl _ w).alloc (Nat.le_refl _) _).alloc (by simp) _
 have k0:Blk ((w.alloc (.cells #[.pointer (some ⟨S,0,none⟩)] 87)).alloc (.cells (etc2 e q).toArray 64)) w.heap.size 87 [.pointer (some ⟨S,0,none⟩)]:=(Blk.newAt w w.heap.size 87 #[.pointer (some ⟨S,0,none⟩)] [.pointer (some ⟨S,0,none⟩)] rfl rfl).alloc _
 have k2:Blk ((w.alloc (.cells #[.pointer (some ⟨S,0,none⟩)] 87)).alloc (.cells (etc2 e q).toArray 64)) (w.heap.size+1) 64 (etc2 e q):=Blk.newAt _ (w.heap.size+1) 64 _ _ (by simp) rfl
 generalize hW:(w.alloc (.cells #[.pointer (some ⟨S,0,none⟩)] 87)).alloc (.cells (etc2 e q).toArray 64)=Y0 at *
 have hA0:=SpAx.keep h (KeepT.of_below W1)
 have he0:=he.below W1
 have HRd:=pgRead Y0 S J P base m t j s _ hA0 hf (by omega) (by omega) (nd_pg13 hN hk)
 have HIL:Hid (∀Y2 v ve vk L,Below Y0.heap.size Y0 Y2→PgO Y2 Y0.heap.size (s:Int) ⟨1,[],Q.map (·.1)⟩ v ve vk L→Calls Tryz.prog 68 #[gT S,v,.agg (etc2 e q).toArray] Y2 fun r w'=>(∃t' S',r=.returned (.int .i64 0)∧SpAx w' S J P base t' j∧Tk t' j m S'∧TR t' j s (putE13 (entsP Q) e.k e.v) S'∧t'.l.length≤t.l.length+5)∧KS base Y0 w'):=fun Y2 v ve vk L hb hp =>
  codInsNode Y2 Y0 S J P base m t j Q s v ve vk L e q (SpAx.keep hA0 (KeepT.of_below hb)) hN hk hso (KS.of_below hb (spcOK.lo hA0)) hp (he0.below hb) hit (by omega) hq hdisk (spcOK.lo hA0)
 have HK0:=mkHid (KS.of_below (base:=base) W1 hlo)
 have HLo:Hid (base≤Y0.heap.size):=spcOK.lo hA0
 unfold etc2 gT at *
 have HB0:=mkHid k0
 have HB2:=mkHid k2
 have c0:=k0.cell 0
 simp only[List.getElem?_cons_zero] at c0
 have hs0:((s:Int)==0)=false:=by rw[beq_eq_false_iff_ne];omega
 have hs1:¬s=0:=by omega
 clear h hk he hit W1 k0 k2 hA0 he0 hsr hso hN
 unfold PutT
 generalize hks:Q.map (·.1)=ks at *
 go_enter Tryz.func43,Tryz.ntmps43
 go_upto_region 1 with fail
 (try rw[hW])
 clear hW
 go_upto_region 3 with fail
 go_upto_region 4 with(go_at_call 67;refine HRd.mono ?_;rintro r1 y1 ⟨⟨v,ve,vk,L,rfl,hp1⟩,hb1⟩;obtain⟨ea,ec,ka,kc,hve,hvk⟩:=hp1.r.forms;subst hve hvk;obtain rfl:=hp1.v;unfold pgc)
 have W2:Below y1.heap.size y1 (y1.alloc (.cells #[.int .i64 (s:Int),.int .i64 1,.slice ea 0 ec,.slice ka ks.length kc] 133)):=(Below.refl _ y1).alloc (Nat.le_refl _) _
 have kp:Blk (y1.alloc (.cells #[.int .i64 (s:Int),.int .i64 1,.slice ea 0 ec,.slice ka ks.length kc] 133)) y1.heap.size 133 [.int .i64 (s:Int),.int .i64 1,.slice ea 0 ec,.slice ka ks.length kc]:=Blk.new y1 133 [.int .i64 (s:Int),.int .i64 1,.slice ea 0 ec,.slice ka ks.length kc]
 have hb2:=hb1.trans (W2.mono hb1.size)
 have hIL:=HIL.out _ _ _ _ L hb2 (hp1.below W2)
 have kb0:=HB0.out.on hb2
 have kb2:=HB2.out.on hb2
 simp only[List.length_nil] at hIL
 unfold pgc at hIL
 generalize ks.length=n at hIL kp W2 hb2 hp1 kb0 kb2 ⊢
 generalize y1.alloc (.cells #[.int .i64 (s:Int),.int .i64 1,.slice ea 0 ec,.slice ka n kc] 133)=Y2 at *
 have c0:=kb0.cell 0
 have d0:=kp.cell 0
 have d1:=kp.cell 1
 have d2:=kp.cell 2
 have d3:=kp.cell 3
 have e0:=kb2.cell 0
 have e1:=kb2.cell 1
 simp only[gZ0,gZ1] at c0 d0 d1 d2 d3 e0 e1
 clear hp1 HIL HRd hb1 kb0 kb2 kp HB2 hks W2 hb2
 go_upto_region 5 with(go_at_call 68;refine hIL.mono ?_;rintro r3 y3 ⟨⟨t',S',rfl,hA3,hk3,ht3,hr3⟩,hks3⟩)
 have HA3:=mkHid (And.intro hA3 (And.intro hk3 ht3))
 have HK3:=mkHid (HK0.out.trans hks3)
 clear hA3 hIL hk3 ht3 hks3
 go_wp2_with fail
 go_ret
 exact⟨⟨t',s,S',rfl,HA3.out.1,HA3.out.2.1,HA3.out.2.2,by omega⟩,HK3.out⟩
theorem pgPut (w:World)(S J P base m:Nat)(t:Tl)(j:Jl)(root:Nat)(l:List Et)(SS:List Int)(e:Et)(q:EtA)(h:SpAx w S J P base t j)(hk:Tk t j m SS)(ht:TR t j root l SS)(he:EtQ fl w e q)(hit:itemOk e.k e.v=true)(hroom:t.l.length+8≤48)(hl:l.length≤190)(hdisk:SS.length+3<j.p.n-51)(hfl:fl≤base:=by omega):
  Calls Tryz.prog 43 #[gT S,.int .i64 (root:Int),.agg (etc2 e q).toArray] w (PutT w S J P base m t j l e):=by
 rcases ht.2 with⟨rfl,rfl,rfl⟩|⟨rfl,hL⟩|⟨Q,hN,rfl,rfl⟩
 ·exact pgPut0 w S J P base m t j e q h hk he hit hroom (by simp at hdisk;omega)
 ·exact pgPutL w S J P base m t j root l e q h hk hL he hit hroom (by simp at hdisk;omega)
 ·have h1:=entsP_len (fun p hp=>(hN.lf p hp).ok.ne)
  have h2:(secsP Q).length=Q.length:=List.length_map _
  refine pgPutN w S J P base m t j root Q e q h hk hN ht.1 he hit hroom (by omega) (by simp only[List.length_cons] at hdisk;omega)
end
section
open Go.RowKit
def stpC (c:Int)(_:List Et):Int × Bool:=(IntKind.i64.wrap (c+1),true)
def InvC (nB:Nat)(c:Int)(_:Nat)(w:World):Prop:=Blk w nB 3 [.int .i64 c]
theorem eachF_count (ls:List (List Et)):∀c:Nat,c+ls.length≤1000→eachF stpC (c:Int) ls=(((c+ls.length:Nat):Int),true):=by
 induction ls with
 | nil=>intro c _;rfl
 | cons l ls ih =>
  intro c h
  rw[List.length_cons] at h
  have h1:stpC (c:Int) l=(((c+1:Nat):Int),true):=by
   unfold stpC
   rw[wrapi64_in _ (by omega) (by omega)]
   rfl
  rw[eachF,h1,if_pos rfl,ih (c+1) (by omega),List.length_cons]
  congr 2
  omega
theorem visCount (nB N0 Nl:Nat)(h0:nB<N0)(h1:Nl≤nB):VisOK 79 #[.pointer (some ⟨nB,0,none⟩)] stpC (InvC nB) N0 Nl (fun _=>1000):=by
 refine⟨fun _ _=>by omega,fun s _ W at_ p ve vk L _ hI hp _ _ _ _=>?_,fun s _ W W' hI hT _=>hT.blk hI (by decide),fun args w=>by simp[callFunc,Tryz.func79];rfl⟩
 obtain⟨ea,ec,xa,xc,rfl,rfl⟩:=hp.forms
 have W1:Below W.heap.size W (W.alloc (.cells (pgc at_ p.lv (.slice ea p.es.length ec) (.slice xa p.ks.length xc)).toArray 133)):=(Below.refl _ W).alloc (Nat.le_refl _) _
 have hB:Blk W nB 3 [.int .i64 s]:=hI
 have hlt:=hB.lt
 have kn:=hB.on W1
 have c0:=kn.cell 0
 have f0:=kn.frozen 0
 simp only[List.getElem?_cons_zero] at c0
 have HK:=mkHid kn
 have HW1:=mkHid W1
 unfold pgc at *
 generalize hW:W.alloc (.cells _ 133)=Y0 at *
 clear hp hI hB kn W1
 generalize p.es.length=n1 at *
 generalize p.ks.length=n2 at *
 obtain⟨z,hz⟩:∃z,IntKind.i64.wrap (s+1)=z:=⟨_,rfl⟩
 have hst:(stpC s p.es)=(z,true):=by unfold stpC;rw[hz]
 rw[hst]
 clear hst
 show Calls Tryz.prog _ #[_,_] W _
 go_enter Tryz.func79,Tryz.ntmps79
 go_upto_region 1 with fail
 (try rw[hW])
 clear hW
 go_wp2_with fail
 go_ret
 have hT:KeepT [3] Y0 (Y0.setCell ⟨nB,0,none⟩ (.int .i64 z)):=(KeepT.refl _ Y0).set HK.out (by decide) 0 _
 have hset:=HK.out.set 0 (.int .i64 z)
 refine⟨rfl,hset,⟨fun B o hBo hn _=>?_,(KeepT.of_below HW1.out).trans (hT.more (us:=[64,50,3,144]) (by decide)),(HW1.out.mono (by omega)).setCell (p:=⟨nB,0,none⟩) h1 _⟩⟩
 have h2:=(HW1.out.5 B (Array.getElem?_eq_some_iff.1 hBo).1).trans hBo
 exact(Below.heap_setCell _ _ _ _ (by show B≠nB;omega)).trans h2
def CntPost (S:List Int)(w:World)(e:Ending)(w':World):Prop:=e=.returned (.int .i64 (S.length:Int))∧Below w.heap.size w w'
theorem pgCount (w:World)(S J P base m:Nat)(t:Tl)(j:Jl)(root:Nat)(l:List Et)(SS:List Int)(h:SpAx w S J P base t j)(hk:Tk t j m SS)(ht:TR t j root l SS)(hl:l.length≤190):
  Calls Tryz.prog 53 #[gT S,.int .i64 (root:Int)] w (CntPost SS w):=by
 have hf:=hk.fit
 unfold gT
 have W1:Below w.heap.size w ((w.alloc (.cells #[.pointer (some ⟨S,0,none⟩)] 87)).alloc (.cells #[.int .i64 0] 3)):=((Below.refl _ w).alloc (Nat.le_refl _) _).alloc (by simp) _
 have k0:Blk ((w.alloc (.cells #[.pointer (some ⟨S,0,none⟩)] 87)).alloc (.cells #[.int .i64 0] 3)) w.heap.size 87 [.pointer (some ⟨S,0,none⟩)]:=(Blk.newAt w w.heap.size 87 #[.pointer (some ⟨S,0,none⟩)] [.pointer (some ⟨S,0,none⟩)] rfl rfl).alloc _
 have k1:Blk ((w.alloc (.cells #[.pointer (some ⟨S,0,none⟩)] 87)).alloc (.cells #[.int .i64 0] 3)) (w.heap.size+1) 3 [.int .i64 0]:=Blk.newAt _ (w.heap.size+1) 3 _ _ (by simp) rfl
 generalize hW:(w.alloc (.cells #[.pointer (some ⟨S,0,none⟩)] 87)).alloc (.cells #[.int .i64 0] 3)=Y0 at *
 have hs0:Y0.heap.size=w.heap.size+2:=by rw[←hW];simp
 have c0:=k0.cell 0
 have n0:=k1.cell 0
 simp only[List.getElem?_cons_zero] at c0 n0
 have HW:=mkHid hW
 clear hW
 rcases ht.2 with⟨rfl,rfl,rfl⟩|hcase
 ·have HF:=mkHid W1
  clear h hk k0 k1 W1
  rw[show (((0:Nat)):Int)=0 from rfl]
  go_enter Tryz.func53,Tryz.ntmps53
  go_upto_region 2 with fail
  (try rw[HW.out])
  go_wp2_with fail
  go_ret
  exact⟨rfl,HF.out⟩
 have hr51:51≤root∧root<j.p.n:=by
  rcases hcase with⟨rfl,_⟩|⟨Q,_,rfl,rfl⟩
  ·have:=hk.rng (root:Int) List.mem_cons_self;omega
  ·have:=hk.rng (root:Int) List.mem_cons_self;omega
 have hs1:((root:Int)==0)=false:=by rw[beq_eq_false_iff_ne];omega
 have hs2:¬root=0:=by omega
 obtain⟨pg,hpg⟩:∃pg,pgOf (spRdB t j (root:Int))=some pg:=by
  rcases hcase with⟨rfl,hL⟩|⟨Q,hN,rfl,rfl⟩
  ·exact⟨_,by rw[hL.rd];exact pg_leaf hL.ok⟩
  ·exact⟨_,nd_pg13 hN hk⟩
 have W3:Below Y0.heap.size Y0 (Y0.alloc (.cells #[.pointer (some ⟨S,0,none⟩),.slice none 0 0] 144)):=(Below.refl _ Y0).alloc (Nat.le_refl _) _
 have kw:Blk (Y0.alloc (.cells #[.pointer (some ⟨S,0,none⟩),.slice none 0 0] 144)) (w.heap.size+2) 144 [.pointer (some ⟨S,0,none⟩),.slice none 0 0]:=Blk.newAt Y0 (w.heap.size+2) 144 _ _ hs0 rfl
 have k03:=k0.on W3
 have k13:=k1.on W3
 have W13:=W1.trans (W3.mono W1.size)
 generalize hW3:Y0.alloc (.cells #[.pointer (some ⟨S,0,none⟩),.slice none 0 0] 144)=Y3 at *
 have hA3:=SpAx.keep h (KeepT.of_below W13)
 have HRd:=pgRead Y3 S J P base m t j root pg hA3 hf hr51.1 hr51.2 hpg
 have hV:=visCount (w.heap.size+1) (w.heap.size+2) w.heap.size (by omega) (by omega)
 have hY3:w.heap.size+2<Y3.heap.size:=kw.lt
 have HEa:Hid (∀y4 v ve vk L,Below Y3.heap.size Y3 y4→PgO y4 Y3.heap.size (root:Int) pg v ve vk L→Calls Tryz.prog 76 #[.pointer (some ⟨w.heap.size+2,0,none⟩),v,.slice none 0 0,.func (.func 79) #[] #[.pointer (some ⟨w.heap.size+1,0,none⟩)]] y4 fun e w'=>e=.returned (.bool true)∧Blk w' (w.heap.size+1) 3 [.int .i64 (SS.length:Int)]∧Below w.heap.size w w'):=fun y4 v ve vk L hb hp=>by
  have hn4:=k13.on hb
  have hw4:=kw.on hb
  have hB4:=W13.trans (hb.mono W13.size)
  rcases hcase with⟨rfl,hL⟩|⟨Q,hN,rfl,rfl⟩
  ·have hpe:pg=⟨0,l,[]⟩:=by
    have h2:=pg_leaf hL.ok
    rw[hL.rd,h2] at hpg
    exact(Option.some.inj hpg).symm
   subst hpe
   obtain rfl:=hp.v
   have h0:=fst_mem hL.ok.ne
   obtain⟨e1,he1,hk1⟩:=h0
   have:=codEach0 79 #[.pointer (some ⟨w.heap.size+1,0,none⟩)] stpC (InvC (w.heap.size+1)) (w.heap.size+2) w.heap.size (fun _=>1000) hV y4 (w.heap.size+2) S (root:Int) ve vk (.slice none 0 0) l L none 0 0 [] 0 Y3.heap.size (by omega) hn4 hp.e hw4 hp.r hL.ok (fun W _=>isB_none W) (less_nil (by rw[←hk1];exact(item_facts (hL.ok.ok e1 he1)).1)) ⟨none,0,0,rfl⟩ (Nat.le_refl _) (by omega)
   refine this.mono ?_
   rintro e w' ⟨q1,⟨_,_,q2⟩,_,q3⟩
   exact⟨q1,q2,hB4.trans q3.b⟩
  ·have hpe:pg=⟨1,[],Q.map (·.1)⟩:=by
    rw[nd_pg13 hN hk] at hpg
    exact(Option.some.inj hpg).symm
   subst hpe
   obtain rfl:=hp.v
   have hL0:L=[]:=List.map_eq_nil_iff.1 hp.es
   have hq2:=hN.n
   have hq254:=hN.n2
   have hA4:=SpAx.keep hA3 (KeepT.of_below hb)
   have hrd:=hp.r.e
   rw[hL0] at hrd
   have:=codEach1 (fl:=0) 79 #[.pointer (some ⟨w.heap.size+1,0,none⟩)] stpC (InvC (w.heap.size+1)) (w.heap.size+2) w.heap.size (fun _=>1000) hV y4 S J P base m t j (w.heap.size+2) root Q (root:Int) ve vk none 0 0 [] 0 Y3.heap.size (by show Q.length+1≤1000;omega) hA4 hN hk ht.1 hn4 (by rw[←hL0];exact hp.e) rfl hw4 hrd (own_base hp.k (by omega)) (fun W _=>isB_none W) (Nat.le_refl _) (by omega)
   refine this.mono ?_
   rintro e w' ⟨i,q0,q1,_,q3,⟨_,q4⟩,q5⟩
   have hi0:i=0:=by
    rcases Nat.eq_zero_or_pos i with h0|h0
    ·exact h0
    ·have h2:=q1 h0
     have hlf:=hN.lf (Q.getD i (0,[])) (by rw[show Q.getD i (0,[])=Q[i] by simp[q0]];exact List.getElem_mem _)
     obtain⟨e1,he1,hk1⟩:=fst_mem hlf.ok.ne
     rw[less_nil (by rw[←hk1];exact(item_facts (hlf.ok.ok e1 he1)).1)] at h2
     cases h2
   subst hi0
   have hst:(stpC 0 []).1=((1:Nat):Int):=by decide
   have hc:=eachF_count (Q.map (·.2)) 1 (by rw[List.length_map];omega)
   rw[List.drop_zero,hst,hc] at q3 q4
   rw[List.length_map] at q4
   refine⟨q3,?_,hB4.trans q5.b⟩
   have hsl:((root:Int):: secsP Q).length=1+Q.length:=by
    rw[List.length_cons]
    unfold secsP
    rw[List.length_map]
    omega
   rw[hsl]
   exact q4
 have hmf:=mkF0
 have c3:=k03.cell 0
 have n3:=k13.cell 0
 simp only[List.getElem?_cons_zero] at c3 n3
 clear h hk ht hcase k0 k1 k03 k13 kw W1 W3 W13 hA3 hV hpg hl
 have HW3:=mkHid hW3
 clear hW3
 go_enter Tryz.func53,Tryz.ntmps53
 go_upto_region 2 with fail
 (try rw[HW.out])
 go_upto_region 5 with fail
 (try rw[HW3.out])
 go_upto_region 6 with(first|(go_at_call 67;refine HRd.mono ?_;rintro r4 y4 ⟨⟨v,ve,vk,L,rfl,hp4⟩,hb4⟩;have hEa:=HEa.out y4 v ve vk L hb4 hp4)|(go_at_call 76;refine hEa.mono ?_;rintro r5 y5 ⟨rfl,hn5,hB5⟩))
 have n5:=hn5.cell 0
 simp only[List.getElem?_cons_zero] at n5
 have HB5:=mkHid hB5
 clear hEa HEa hn5 hB5
 go_wp2_with fail
 go_ret
 exact⟨rfl,HB5.out⟩
end
end Go.Proofs.YtpecobmfabmpkaaGreatDoor
