/- InsA PtZ PuA PuB InsB InsE PuD PvM Tp6 -/
import Derived.Test.YtpecobmfabmpkaaGreatDoorM16
import Derived.Laws.CopyRow
import Derived.Lib.AppendZerosOnto
import Derived.Lib.Overlaps
set_option maxRecDepth 20000
set_option maxHeartbeats 4000000
namespace Go.Proofs.YtpecobmfabmpkaaGreatDoor
section
open Go.RowKit
variable {α:Type} {R:RT α}
theorem run_copy_k (ok:RtOK R)(w:World)(ty:TypeId)(g o dLen dCap:Nat)(a:Addr)(sLen sCap m:Nat)(cur:Array Value)(t:TypeId)(cs:List Value)(hg:w.heap[g]?=some (.cells cur t (0,0)))(hm:m=Nat.min sLen dLen)(hn:cs.length=m * R.k)
  (hsrc:∀j v,cs[j]?=some v→w.cell? (a.add j)=some v) (hfit:o+cs.length≤cur.size) (h1:∀v∈cs,v.oneCell'=true):
  (Builtin.copy_ #[R.S,R.S] ty #[.slice (some ⟨g,o,none⟩) dLen dCap,.slice (some a) sLen sCap]).run Tryz.prog w=.ok (goInt m) (w.setRow g (cur.toList.take o++cs++cur.toList.drop (o+cs.length)).toArray):=by
 obtain⟨i0,hi,hz0,hz1,hz2⟩:=info_parts ok.hi
 have hl:=run_loadCells_list (P:=Tryz.prog) w a cs hsrc
 have hst:=run_storeCells_at Tryz.prog g o t cs 0 cur w hg (by simpa using hfit) h1
 simp[Builtin.copy_,run_underlying ok.hu,Builtin.lenOf,Builtin.firstCells,sizeOf,typeInfo,hi,hz1,←hm,←hn,hl,hst]
theorem ins_cells {β:Type}(Z A X D:List β)(hA:Z.take A.length=A)(hl:A.length+X.length+D.length≤Z.length):
  (Z.take (A.length+X.length)++D++Z.drop (A.length+X.length+D.length)).take A.length++X++(Z.take (A.length+X.length)++D++Z.drop (A.length+X.length+D.length)).drop (A.length+X.length)=A++X++D++Z.drop (A.length+X.length+D.length):=by
 have h1:(Z.take (A.length+X.length)).length=A.length+X.length:=by rw[List.length_take];omega
 rw[List.append_assoc (Z.take _),List.take_append_of_le_length (by omega),List.take_take,Nat.min_eq_left (by omega),hA,List.drop_left' h1,List.append_assoc,List.append_assoc,List.append_assoc]
theorem ins_cells2 {β:Type}(Z A X D:List β)(hA:Z.take A.length=A):
  (Z.take A.length++X++Z.drop (A.length+X.length)).take (A.length+X.length)++D++(Z.take A.length++X++Z.drop (A.length+X.length)).drop (A.length+X.length+D.length)=A++X++D++Z.drop (A.length+X.length+D.length):=by
 rw[hA]
 have h1:(A++X).length=A.length+X.length:=List.length_append
 rw[List.take_left' h1,List.drop_append,List.drop_of_length_le (by omega),List.nil_append,h1,List.drop_drop]
 congr 2
 omega
theorem OwnRw.cur {w:World}{base g n cap:Nat}{l:List α}(h:OwnRw R w base (.slice (some ⟨g,0,none⟩) n cap) l):∃cur:Array Value,base≤g∧w.heap[g]?=some (.cells cur R.E (0,0))∧n=l.length∧n≤cap∧cap≤maxLen∧cur.size=cap * R.k∧cur.toList.take (n * R.k)=cellsC R l:=by
 rcases h.2 with⟨he,_⟩|⟨g',cap',cur,he,hb,hg,hle,hmax,hsz,htk⟩
 ·injection he with e1 _ _;cases e1
 ·injection he with e1 e2 e3
  have e4:=Option.some.inj e1
  injection e4 with e5 _ _
  subst e5 e3 e2
  exact⟨cur,hb,hg,rfl,hle,hmax,hsz,htk⟩
theorem OwnRw.mk (ok:RtOK R){w:World}{base g cap:Nat}{l:List α}{cur:Array Value}(hb:base≤g)(hg:w.heap[g]?=some (.cells cur R.E (0,0)))(hle:l.length≤cap)(hm:cap≤maxLen)(hs:cur.size=cap * R.k)(ht:cur.toList.take (l.length * R.k)=cellsC R l):OwnRw R w base (.slice (some ⟨g,0,none⟩) l.length cap) l :=
 ⟨cellsC_length ok l,.inr ⟨g,cap,cur,rfl,hb,hg,hle,hm,hs,ht⟩⟩
theorem cutC_some {g cap j:Nat}(h:j<cap):cutC R (some ⟨g,0,none⟩) cap j=some ⟨g,j * R.k,none⟩:=by unfold cutC;rw[if_neg (by omega)];simp[Addr.add_lit]
theorem cells_mid (ok:RtOK R){w:World}{g:Nat}{cur:Array Value}{n i:Nat}{l:List α}(hg:w.heap[g]?=some (.cells cur R.E (0,0)))(ht:cur.toList.take (n * R.k)=cellsC R l):∀j v,(cellsC R (l.drop i))[j]?=some v→w.cell? ((⟨g,i * R.k,none⟩:Addr).add j)=some v:=fun j v hv=>by
 rw[Addr.add_lit,cell_of_row w g _ cur R.E (0,0) hg]
 rw[cellsC_drop ok,List.getElem?_drop,←ht,List.getElem?_take] at hv
 split at hv
 ·rw[←hv];simp
 ·cases hv
theorem ins_room (ok:RtOK R){w:World}{base g n cap i B:Nat}{l:List α}{x:α}(h:OwnRw R w base (.slice (some ⟨g,0,none⟩) n cap) l)(hi:i<n)(hc:n+1≤cap)(hB:Blk w B R.E (R.c x))(hne:B≠g)(ty1 ty2:TypeId):
  ∃w1 w2,(Builtin.copy_ #[R.S,R.S] ty1 #[.slice (cutC R (some ⟨g,0,none⟩) cap (i+1)) (n+1-(i+1)) (cap-(i+1)),.slice (cutC R (some ⟨g,0,none⟩) cap i) (n+1-i) (cap-i)]).run Tryz.prog w=.ok (goInt (n-i:Nat)) w1 ∧
   (Builtin.copy_ #[R.S,R.S] ty2 #[.slice (cutC R (some ⟨g,0,none⟩) cap i) (n+1-i) (cap-i),.slice (some ⟨B,0,none⟩) 1 1]).run Tryz.prog w1=.ok (goInt (1:Nat)) w2 ∧
   OwnRw R w2 base (.slice (some ⟨g,0,none⟩) (n+1) cap) (l.take i++x::l.drop i)∧w.grownBy w2 (some g):=by
 obtain⟨cur,hb,hg,hn,hle,hmax,hsz,htk⟩:=h.cur
 subst hn
 have hcl:cur.toList.length=cur.size:=Array.length_toList
 have hk1:(l.length+1) * R.k≤cap * R.k:=Nat.mul_le_mul_right _ hc
 have hAl:(cellsC R (l.take i)).length=i * R.k:=by rw[cellsC_length ok,List.length_take,Nat.min_eq_left (by omega)]
 have hDl:(cellsC R (l.drop i)).length=(l.length-i) * R.k:=by rw[cellsC_length ok,List.length_drop]
 have hXl:(R.c x).length=R.k:=ok.len x
 have hi1:(i+1) * R.k=i * R.k+R.k:=Nat.succ_mul _ _
 have hsum:i * R.k+(l.length-i) * R.k=l.length * R.k:=by rw[←Nat.add_mul];congr 1;omega
 have hn1:(l.length+1) * R.k=l.length * R.k+R.k:=Nat.succ_mul _ _
 have hA:cur.toList.take (i * R.k)=cellsC R (l.take i):=by
  rw[cellsC_take ok,←htk,List.take_take,Nat.min_eq_left]
  exact Nat.mul_le_mul_right _ (by omega)
 rw[cutC_some (by omega),cutC_some (by omega)]
 have r1:=run_copy_k ok w ty1 g ((i+1) * R.k) (l.length+1-(i+1)) (cap-(i+1)) ⟨g,i * R.k,none⟩ (l.length+1-i) (cap-i) (l.length-i) cur R.E (cellsC R (l.drop i)) hg (by show _=min _ _;omega) hDl (cells_mid ok hg htk) (by rw[hDl];omega) (cellsC_one ok _)
 have hg1:=setRow_heap w g cur (cur.toList.take ((i+1) * R.k)++cellsC R (l.drop i)++cur.toList.drop ((i+1) * R.k+(cellsC R (l.drop i)).length)).toArray R.E _ hg
 have hB1:Blk (w.setRow g (cur.toList.take ((i+1) * R.k)++cellsC R (l.drop i)++cur.toList.drop ((i+1) * R.k+(cellsC R (l.drop i)).length)).toArray) B R.E (R.c x):=hB.rowOther _ _ hne
 have hs1:(cur.toList.take ((i+1) * R.k)++cellsC R (l.drop i)++cur.toList.drop ((i+1) * R.k+(cellsC R (l.drop i)).length)).length=cap * R.k:=by
  rw[List.length_append,List.length_append,List.length_take,List.length_drop,hcl,hsz,hDl];omega
 generalize hcur1:cur.toList.take ((i+1) * R.k)++cellsC R (l.drop i)++cur.toList.drop ((i+1) * R.k+(cellsC R (l.drop i)).length)=cur1 at *
 have r2:=run_copy_k ok (w.setRow g cur1.toArray) ty2 g (i * R.k) (l.length+1-i) (cap-i) ⟨B,0,none⟩ 1 1 1 cur1.toArray R.E (R.c x) hg1 (by show _=min _ _;omega) (by rw[hXl,Nat.one_mul]) (fun j v hv=>by rw[Addr.add_lit,Nat.zero_add,hB1.cell];exact hv) (by rw[List.size_toArray,hs1,hXl];omega) (ok.one x)
 refine⟨_,_,r1,r2,?_,⟨rfl,rfl,rfl,by simp[World.setRow],fun k _ hk=>?_⟩⟩
 ·have hll:(l.take i++x::l.drop i).length=l.length+1:=by rw[List.length_append,List.length_cons,List.length_take,List.length_drop];omega
  have hic:=ins_cells cur.toList (cellsC R (l.take i)) (R.c x) (cellsC R (l.drop i)) (by rw[hAl];exact hA) (by rw[hAl,hXl,hDl,hcl,hsz];omega)
  rw[hAl,hXl,←hi1,hcur1] at hic
  have:=OwnRw.mk ok (w:=(w.setRow g cur1.toArray).setRow g (cur1.take (i * R.k)++R.c x++cur1.drop (i * R.k+(R.c x).length)).toArray) (base:=base) (g:=g) (cap:=cap) (l:=l.take i++x::l.drop i) hb (setRow_heap _ g _ _ R.E _ hg1) (by rw[hll];exact hc) hmax
   (by rw[List.size_toArray,List.length_append,List.length_append,List.length_take,List.length_drop,hs1,hXl];omega)
   (by
    rw[List.toList_toArray,hXl,←hi1,hic,hll,cellsC_append,cellsC,List.append_assoc,List.append_assoc]
    have e:cellsC R (l.take i)++(R.c x++(cellsC R (l.drop i)++cur.toList.drop ((i+1) * R.k+(cellsC R (l.drop i)).length)))=(cellsC R (l.take i)++(R.c x++cellsC R (l.drop i)))++cur.toList.drop ((i+1) * R.k+(cellsC R (l.drop i)).length):=by simp only[List.append_assoc]
    rw[e,List.take_left' (by rw[List.length_append,List.length_append,hAl,hXl,hDl];omega)])
  rw[hll] at this
  exact this
 ·have hkg:k≠g:=fun e=>hk (by rw[e])
  rw[setRow_other _ g k _ hkg,setRow_other _ g k _ hkg]
theorem ins_grow (ok:RtOK R){w:World}{base g n i B:Nat}{l:List α}{x:α}(tn:TypeId)(htn:Tryz.prog.underlying tn=some (.int .i64))(h:OwnRw R w base (.slice (some ⟨g,0,none⟩) n n) l)(hi:i<n)(hB:Blk w B R.E (R.c x))(hlo:base≤w.heap.size)(hsmall:(n+1) * R.by_≤140737488355328)(ty1 ty2 ty3:TypeId):
  ∃w1 w2 w3 cap2 H,n+1≤cap2∧(Builtin.append_ #[R.S,tn] ty1 #[.slice (some ⟨g,0,none⟩) i n,.int .i64 ((n+1-i:Nat):Int)]).run Tryz.prog w=.ok (.slice (some ⟨H,0,none⟩) (n+1) cap2) w1 ∧
   (Builtin.copy_ #[R.S,R.S] ty2 #[.slice (cutC R (some ⟨H,0,none⟩) cap2 i) (n+1-i) (cap2-i),.slice (some ⟨B,0,none⟩) 1 1]).run Tryz.prog w1=.ok (goInt (1:Nat)) w2 ∧
   (Builtin.copy_ #[R.S,R.S] ty3 #[.slice (cutC R (some ⟨H,0,none⟩) cap2 (i+1)) (n+1-(i+1)) (cap2-(i+1)),.slice (cutC R (some ⟨g,0,none⟩) n i) (n-i) (n-i)]).run Tryz.prog w2.drew=.ok (goInt (n-i:Nat)) w3 ∧
   OwnRw R w3 base (.slice (some ⟨H,0,none⟩) (n+1) cap2) (l.take i++x::l.drop i)∧Below w.heap.size w w3:=by
 obtain⟨cur,hb,hg,hn,hle,hmax,hsz,htk⟩:=h.cur
 subst hn
 obtain⟨i0,hif,hz0,hz1,hz2⟩:=info_parts ok.hi
 have hgl:g<w.heap.size:=(Array.getElem?_eq_some_iff.1 hg).1
 have hBl:=hB.lt
 have hcl:cur.toList.length=cur.size:=Array.length_toList
 have hAl:(cellsC R (l.take i)).length=i * R.k:=by rw[cellsC_length ok,List.length_take,Nat.min_eq_left (by omega)]
 have hDl:(cellsC R (l.drop i)).length=(l.length-i) * R.k:=by rw[cellsC_length ok,List.length_drop]
 have hXl:(R.c x).length=R.k:=ok.len x
 have hi1:(i+1) * R.k=i * R.k+R.k:=Nat.succ_mul _ _
 have hsum:i * R.k+(l.length-i) * R.k=l.length * R.k:=by rw[←Nat.add_mul];congr 1;omega
 have hn1:(l.length+1) * R.k=l.length * R.k+R.k:=Nat.succ_mul _ _
 have hA:cur.toList.take (i * R.k)=cellsC R (l.take i):=by
  rw[cellsC_take ok,←htk,List.take_take,Nat.min_eq_left]
  exact Nat.mul_le_mul_right _ (by omega)
 have hold:(Builtin.firstCells i0.size i (.slice (some ⟨g,0,none⟩) i l.length)).run Tryz.prog w.drew=.ok (cellsC R (l.take i)).toArray w.drew:=by
  have:=run_loadCells_list (P:=Tryz.prog) w.drew ⟨g,0,none⟩ (cellsC R (l.take i)) (fun j v hv=>by
   rw[Addr.add_lit,Nat.zero_add,cell_of_row w.drew g j cur R.E (0,0) hg]
   rw[←hA,List.getElem?_take] at hv
   split at hv
   ·rw[←hv];simp
   ·cases hv)
  rw[hAl] at this
  simp only[Builtin.firstCells,hz1]
  exact this
 have hb1:1≤R.by_:=ok.b1
 have hnm:l.length+1≤maxLen:=bytes_max hb1 hsmall
 have hml:maxLen=140737488355328∨True:=.inr trivial
 have r0:=Lib.run_append_grow_zeros (P:=Tryz.prog) w R.S tn ty1 R.E i0 R.z .i64 .i64 ok.hu htn hif hz0 (some ⟨g,0,none⟩) i l.length (cellsC R (l.take i)) hold (l.length+1-i) (by omega) (by rw[hz1];exact ok.k1) (by omega)
  (by (have:(l.length+1) * 1≤(l.length+1) * R.by_:=Nat.mul_le_mul_left _ hb1);omega)
  (by (rw[hz2];have:(l.length+1-i) * R.by_≤(l.length+1) * R.by_:=Nat.mul_le_mul_right _ (by omega));omega)
  (by rw[hz2];exact growslice_fits (by omega) (by rw[show i+(l.length+1-i)=l.length+1 by omega];exact hsmall))
 rw[show i+(l.length+1-i)=l.length+1 by omega] at r0
 have hcap:=grownCap_ge w (l.length+1) l.length R.E
 have hmx:=grownCap_le_maxLen w (l.length+1) l.length R.E hnm
 generalize grownCap w (l.length+1) l.length R.E=cap2 at *
 have hzs:R.z.cells.size=R.k:=by rw[←ok.hz,Array.length_toList]
 have hrl:((cellsC R (l.take i)).toArray++Builtin.zeroCells R.z.cells (l.length+1-i)++Builtin.zeroCells R.z.cells (cap2-(l.length+1))).size=cap2 * R.k:=by
  rw[Array.size_append,Array.size_append,size_zeroCells,size_zeroCells,List.size_toArray,hAl,hzs,←Nat.add_mul,←Nat.add_mul]
  congr 1
  omega
 have hrA:((cellsC R (l.take i)).toArray++Builtin.zeroCells R.z.cells (l.length+1-i)++Builtin.zeroCells R.z.cells (cap2-(l.length+1))).toList.take (i * R.k)=cellsC R (l.take i):=by
  rw[Array.toList_append,Array.toList_append,List.append_assoc,List.toList_toArray,List.take_left' hAl]
 generalize (cellsC R (l.take i)).toArray++Builtin.zeroCells R.z.cells (l.length+1-i)++Builtin.zeroCells R.z.cells (cap2-(l.length+1))=row at *
 have hk2:(l.length+1) * R.k≤cap2 * R.k:=Nat.mul_le_mul_right _ hcap
 have hrll:row.toList.length=row.size:=Array.length_toList
 have hsz2:w.drew.heap.size=w.heap.size:=rfl
 have hg1:(w.drew.alloc (.cells row R.E)).heap[w.heap.size]?=some (.cells row R.E (0,0)):=heap_alloc_new w.drew _
 have hB1:Blk (w.drew.alloc (.cells row R.E)) B R.E (R.c x):=Blk.alloc (w:=w.drew) hB _
 have hgg1:(w.drew.alloc (.cells row R.E)).heap[g]?=some (.cells cur R.E (0,0)):=(Below.heap_alloc w.drew _ g hgl).trans hg
 have hbe1:Below w.heap.size w (w.drew.alloc (.cells row R.E)):=((Below.refl _ w).drew).alloc (Nat.le_refl _) _
 generalize w.drew.alloc (.cells row R.E)=w1 at *
 have r1:=run_copy_k ok w1 ty2 w.heap.size (i * R.k) (l.length+1-i) (cap2-i) ⟨B,0,none⟩ 1 1 1 row R.E (R.c x) hg1 (by show _=min _ _;omega) (by rw[hXl,Nat.one_mul]) (fun j v hv=>by rw[Addr.add_lit,Nat.zero_add,hB1.cell];exact hv) (by rw[hXl];omega) (ok.one x)
 have hs1:(row.toList.take (i * R.k)++R.c x++row.toList.drop (i * R.k+(R.c x).length)).length=cap2 * R.k:=by
  rw[List.length_append,List.length_append,List.length_take,List.length_drop,hrll,hrl,hXl];omega
 have hic:=ins_cells2 row.toList (cellsC R (l.take i)) (R.c x) (cellsC R (l.drop i)) (by rw[hAl];exact hrA)
 rw[hAl,hXl,←hi1] at hic
 rw[hXl,←hi1] at hs1 r1
 have hg2:=setRow_heap w1 w.heap.size row (row.toList.take (i * R.k)++R.c x++row.toList.drop ((i+1) * R.k)).toArray R.E _ hg1
 have hgg2:(w1.setRow w.heap.size (row.toList.take (i * R.k)++R.c x++row.toList.drop ((i+1) * R.k)).toArray).heap[g]?=some (.cells cur R.E (0,0)):=(setRow_other w1 w.heap.size g _ (by omega)).trans hgg1
 have hbe2:Below w.heap.size w (w1.setRow w.heap.size (row.toList.take (i * R.k)++R.c x++row.toList.drop ((i+1) * R.k)).toArray):=bel_row hbe1 (Nat.le_refl _) _
 generalize hcur1:row.toList.take (i * R.k)++R.c x++row.toList.drop ((i+1) * R.k)=cur1 at *
 generalize hw2:w1.setRow w.heap.size cur1.toArray=w2 at *
 have r2:=run_copy_k ok w2.drew ty3 w.heap.size ((i+1) * R.k) (l.length+1-(i+1)) (cap2-(i+1)) ⟨g,i * R.k,none⟩ (l.length-i) (l.length-i) (l.length-i) cur1.toArray R.E (cellsC R (l.drop i)) hg2 (by show _=min _ _;omega) hDl (cells_mid ok (w:=w2.drew) hgg2 htk) (by rw[List.size_toArray,hs1,hDl];omega) (cellsC_one ok _)
 refine⟨w1,w2,w2.drew.setRow w.heap.size (cur1.take ((i+1) * R.k)++cellsC R (l.drop i)++cur1.drop ((i+1) * R.k+(cellsC R (l.drop i)).length)).toArray,cap2,w.heap.size,hcap,r0,?_,?_,?_,?_⟩
 ·rw[cutC_some (by omega)];exact r1
 ·rw[cutC_some (by omega),cutC_some (by omega)];exact r2
 ·have hll:(l.take i++x::l.drop i).length=l.length+1:=by rw[List.length_append,List.length_cons,List.length_take,List.length_drop];omega
  have:=OwnRw.mk ok (w:=w2.drew.setRow w.heap.size (cur1.take ((i+1) * R.k)++cellsC R (l.drop i)++cur1.drop ((i+1) * R.k+(cellsC R (l.drop i)).length)).toArray) (base:=base) (g:=w.heap.size) (cap:=cap2) (l:=l.take i++x::l.drop i) hlo (setRow_heap w2.drew w.heap.size _ _ R.E _ hg2) (by rw[hll];exact hcap) hmx
   (by rw[List.size_toArray,List.length_append,List.length_append,List.length_take,List.length_drop,hs1,hDl];omega)
   (by
    rw[List.toList_toArray,hic,hll,cellsC_append,cellsC,List.append_assoc,List.append_assoc]
    have e:cellsC R (l.take i)++(R.c x++(cellsC R (l.drop i)++row.toList.drop ((i+1) * R.k+(cellsC R (l.drop i)).length)))=(cellsC R (l.take i)++(R.c x++cellsC R (l.drop i)))++row.toList.drop ((i+1) * R.k+(cellsC R (l.drop i)).length):=by simp only[List.append_assoc]
    rw[e,List.take_left' (by rw[List.length_append,List.length_append,hAl,hXl,hDl];omega)])
  rw[hll] at this
  exact this
 ·exact bel_row hbe2.drew (Nat.le_refl _) _
end
section
open Go.RowKit
theorem ets_set (L:List Eq3)(k:Nat)(x:Eq3):ets (L.set k x)=((ets L).set (k * 2) (.slice x.2.a x.1.k.length x.2.c)).set (k * 2+1) (.slice x.2.b x.1.v.length x.2.d):=by
 induction L generalizing k with
 | nil=>rfl
 | cons y L ih =>
  cases k with
  | zero=>rfl
  | succ k =>
   rw[List.set_cons_succ,ets,ets,ih]
   unfold etc2
   rw[show (k+1) * 2=k * 2+1+1 by omega]
   rfl
theorem OwnN.put {w:World}{base g cap:Nat}{L:List Eq3}(h:OwnN w base (.slice (some ⟨g,0,none⟩) L.length cap) L)(k:Nat)(x:Eq3):
  OwnN ((w.setCell ⟨g,k * 2,none⟩ (.slice x.2.a x.1.k.length x.2.c)).setCell ⟨g,k * 2+1,none⟩ (.slice x.2.b x.1.v.length x.2.d)) base (.slice (some ⟨g,0,none⟩) L.length cap) (L.set k x)∧w.grownBy ((w.setCell ⟨g,k * 2,none⟩ (.slice x.2.a x.1.k.length x.2.c)).setCell ⟨g,k * 2+1,none⟩ (.slice x.2.b x.1.v.length x.2.d)) (some g):=by
 refine⟨?_,grown_tr (grown_set w g (k * 2) _) (grown_set _ g (k * 2+1) _)⟩
 obtain⟨h1,h2⟩:=h
 rcases h2 with⟨he,_⟩|⟨g',cap',cur,he,hb,hg,hle,hmax,hsz,htk⟩
 ·injection he with e1 _ _;cases e1
 ·injection he with e1 e2 e3
  have e4:=Option.some.inj e1
  injection e4 with e5 _ _
  subst e5 e3
  have hB:Blk w g 64 cur.toList:=by unfold Blk;rw[hg]
  have hB2:=(hB.set (k * 2) (.slice x.2.a x.1.k.length x.2.c)).set (k * 2+1) (.slice x.2.b x.1.v.length x.2.d)
  have hll:(L.set k x).length=L.length:=List.length_set
  unfold OwnN
  rw[hll]
  refine⟨by rw[ets_length,hll],.inr ⟨g,cap,((cur.toList.set (k * 2) (.slice x.2.a x.1.k.length x.2.c)).set (k * 2+1) (.slice x.2.b x.1.v.length x.2.d)).toArray,rfl,hb,hB2,hle,hmax,?_,?_⟩⟩
  ·rw[List.size_toArray,List.length_set,List.length_set,Array.length_toList,hsz]
  ·have htk2:cur.toList.take (L.length * 2)=ets L:=htk
   rw[List.toList_toArray,List.take_set,List.take_set,htk2,ets_set]
theorem list_copy_run {ops:Array Oper}{rest:List Oper}{o:Oper}{a:Act}{Q:Exit→Act→World→Prop}(w:World)(hgd:o.guard=none)(s x:Operand)(t u ty:TypeId)
  (ho:o.op=.call { callee:=.builtin .copy,args:=#[s,x],argTypes:=#[t,u] }) (hty:o.type=ty) (v v2:Value) (hs:a.eval s=v) (hx:a.eval x=v2) {v':Value} {w':World}
  (hr:(Builtin.copy_ #[t,u] ty #[v,v2]).run Tryz.prog w=.ok v' w') (h:wpList Tryz.prog ops Q rest (a.put o.dst v') w'):wpList Tryz.prog ops Q (o::rest) a w :=
 wpList_plain hgd fun _ hK=>by
  subst hty
  unfold Oper.wp execOp
  simp only[ho,resolve,invoke,builtin,Sem.run_bind,Sem.run_pure,Result.andThen_ok,List.map_toArray,List.map_cons,List.map_nil,hs,hx,hr]
  exact hK _ _ h
theorem step_copy_run {ops:Array Oper}{o:Oper}{a:Act}{K:Act→World→Prop}{Q:Exit→Act→World→Prop}{E:Prop}(w:World)(hgd:o.guard=none)(s x:Operand)(t u ty:TypeId)
  (ho:o.op=.call { callee:=.builtin .copy,args:=#[s,x],argTypes:=#[t,u] }) (hty:o.type=ty) (v v2:Value) (hs:a.eval s=v) (hx:a.eval x=v2) {v':Value} {w':World}
  (hr:(Builtin.copy_ #[t,u] ty #[v,v2]).run Tryz.prog w=.ok v' w') (d:Tmp) (hd:o.dst=some d) (h:K (a.put (some d) v') w'):if Region.wanted o (yielded ops a.tmps)=true then Oper.wp Tryz.prog o a w K Q else E:=by
 have hw:Region.wanted o (yielded ops a.tmps)=true:=by simp[Region.wanted,hgd]
 rw[if_pos hw]
 subst hty
 unfold Oper.wp execOp
 simp only[ho,resolve,invoke,builtin,Sem.run_bind,Sem.run_pure,Result.andThen_ok,List.map_toArray,List.map_cons,List.map_nil,hs,hx,hr]
 rw[←hd] at h
 exact h
abbrev rtE13:RT Eq3:=⟨50,64,2,48,.agg #[.slice none 0 0,.slice none 0 0],fun x=>etc2 x.1 x.2⟩
theorem okE13:RtOK rtE13 :=
 ⟨Tryz.underlying50,by kernel_rfl,rfl,by intro u hu;simp[Value.cells] at hu;rcases hu with rfl|rfl<;>rfl,by decide,by decide,fun _=>rfl,by
  intro x u hu
  simp only[etc2,List.mem_cons,List.not_mem_nil,or_false] at hu
  rcases hu with rfl|rfl<;>rfl⟩
abbrev rtI13:RT Int:=⟨58,3,1,8,.int .i64 0,fun z=>[.int .i64 z]⟩
theorem okI13:RtOK rtI13 :=
 ⟨Tryz.underlying58,by kernel_rfl,rfl,by intro u hu;simp[Value.cells] at hu;subst hu;rfl,by decide,by decide,fun _=>rfl,by
  intro x u hu
  simp only[List.mem_cons,List.not_mem_nil,or_false] at hu
  subst hu;rfl⟩
theorem ets_cells:∀l:List Eq3,ets l=cellsC rtE13 l
 | []=>rfl
 | x::l=>by rw[ets,ets_cells l];rfl
theorem OwnN.c {w:World}{base:Nat}{v:Value}{l:List Eq3}(h:OwnN w base v l):OwnRw rtE13 w base v l:=by unfold OwnRw;rw[←ets_cells];exact h
theorem OwnRw.n13 {w:World}{base:Nat}{v:Value}{l:List Eq3}(h:OwnRw rtE13 w base v l):OwnN w base v l:=by unfold OwnN;rw[ets_cells];exact h
theorem zv_cells:∀l:List Int,zv l=cellsC rtI13 l
 | []=>rfl
 | x::l=>by
  have:=zv_cells l
  show _::zv l=_
  rw[this];rfl
theorem OwnZ.c {w:World}{base:Nat}{v:Value}{l:List Int}(h:OwnZ w base v l):OwnRw rtI13 w base v l:=by unfold OwnRw;rw[←zv_cells];exact h
theorem OwnRw.z13 {w:World}{base:Nat}{v:Value}{l:List Int}(h:OwnRw rtI13 w base v l):OwnZ w base v l:=by unfold OwnZ;rw[zv_cells];exact h
theorem frozen_end {w:World}{B t:Nat}{cs:List Value}(h:Blk w B t cs):w.frozen? { block:=B,off:=cs.length }=false:=by
 have:=h.frozen cs.length
 exact this
theorem overlapsE (w:World)(B g o:Nat)(cs:List Value)(cur:Array Value)(la ca lb cb:Nat)(hB:Blk w B 64 cs)(hg:w.heap[g]?=some (.cells cur 64 (0,0)))(hc:cur.size≠0)(hne:B≠g):
  (callFunc 178 #[.slice (some ⟨B,0,none⟩) la ca,.slice (some ⟨g,o,none⟩) lb cb]).run Tryz.prog w=.ok (.value (.bool false)) w:=by
 have hz:∀W,(Go.sizeOf 64).run Tryz.prog W=.ok 2 W:=fun W=>by
  obtain⟨i0,hi,hz0,hz1,hz2⟩:=info_parts infoN
  simp[sizeOf,typeInfo,hi,hz1]
 rw[run_callFunc_extern Tryz.func178 (by kernel_rfl) (by kernel_rfl) (by kernel_rfl) (e:=Extern.SlicesOverlaps.overlaps #[50,50] #[4]) (by kernel_rfl),
  Lib.run_overlaps_apart w 50 4 64 Tryz.underlying50 2 hz ⟨B,0,none⟩ ⟨g,o,none⟩ la ca lb cb hne 64 64 cs.length cur.size (by unfold World.shape?;rw[hB];simp) (by unfold World.shape?;rw[hg]) hc (hB.frozen 0) (frozen_end hB)]
 rfl
theorem overlapsI (w:World)(B g o:Nat)(cs:List Value)(cur:Array Value)(la ca lb cb:Nat)(hB:Blk w B 3 cs)(hg:w.heap[g]?=some (.cells cur 3 (0,0)))(hc:cur.size≠0)(hne:B≠g):
  (callFunc 147 #[.slice (some ⟨B,0,none⟩) la ca,.slice (some ⟨g,o,none⟩) lb cb]).run Tryz.prog w=.ok (.value (.bool false)) w:=by
 have hz:∀W,(Go.sizeOf 3).run Tryz.prog W=.ok 1 W:=fun W=>by
  obtain⟨i0,hi,hz0,hz1,hz2⟩:=info_parts okI13.hi
  simp[sizeOf,typeInfo,hi,hz1]
 rw[run_callFunc_extern Tryz.func147 (by kernel_rfl) (by kernel_rfl) (by kernel_rfl) (e:=Extern.SlicesOverlaps.overlaps #[58,58] #[4]) (by kernel_rfl),
  Lib.run_overlaps_apart w 58 4 3 Tryz.underlying58 1 hz ⟨B,0,none⟩ ⟨g,o,none⟩ la ca lb cb hne 3 3 cs.length cur.size (by unfold World.shape?;rw[hB];simp) (by unfold World.shape?;rw[hg]) hc (hB.frozen 0) (frozen_end hB)]
 rfl
theorem codInsertE (w:World)(base:Nat)(a:Option Addr)(n cap i B:Nat)(L:List Eq3)(x:Eq3)(hn:L.length=n)(h:OwnRw rtE13 w base (.slice a n cap) L)(hB:Blk w B 64 (rtE13.c x))(hi:i≤n)(hb:n≤1000)(hc:cap≤9223372036854775807)(hlo:base≤w.heap.size)(hne:∀g,a=some ⟨g,0,none⟩→B≠g):
  Calls Tryz.prog 144 #[.slice a n cap,.int .i64 (i:Int),.slice (some ⟨B,0,none⟩) 1 1] w fun e w'=>(∃v',e=.returned v'∧OwnRw rtE13 w' base v' (L.take i++x::L.drop i))∧w.grownBy w' (Value.slice a n cap).ownBlock:=by
 rcases Nat.lt_or_ge i n with hin|hin
 rotate_left
 ·obtain rfl:i=n:=by omega
  have hsl:∀W,(Instr.slice 50 (.slice a i cap) (some (.int .i64 (i:Int))) none none).run Tryz.prog W=.ok (.slice (cutC rtE13 a cap i) (i-i) (cap-i)) W:=fun W=>slLC okE13 a i cap i (Nat.le_refl _) W
  have HO:=mkHid h
  have HS:Hid (SrcC rtE13 w (some ⟨B,0,none⟩) 1 1 [x]):=hB.srcC
  have HLn:Hid (L.take i++x::L.drop i=L++[x]):=by unfold Hid;rw[←hn,List.take_length,List.drop_length]
  have HLl:=mkHid hn
  rw[HLn.out]
  clear h hB hn
  generalize cutC rtE13 a cap i=ca at *
  generalize i-i=c0 at *
  generalize cap-i=cc at *
  go_enter Tryz.func144,Tryz.ntmps144
  go_wp2_with (at_builtin;refine list_appC okE13 _ rfl (.tmp 23) (.tmp 24) rfl base _ L rfl HO.out (some ⟨B,0,none⟩) 1 1 [x] rfl HS.out (by rw[HLl.out];show (i+1) * 48≤_;omega) hlo ?_;intro v2 V2 ho2 hg2;have HO2:=mkHid ho2;have HG2:=mkHid hg2;clear ho2 hg2)
  go_ret
  exact⟨⟨_,rfl,HO2.out⟩,HG2.out⟩
 obtain⟨a',cap',he,hle,-,hcl⟩:=h.form okE13
 injection he with e1 e2 e3
 subst e1 e3
 clear e2
 obtain⟨g,rfl,hg0,hgl,-⟩:=hcl (by omega)
 have hBg:=hne g rfl
 have hlc:n≤cap:=by omega
 have hne1:((i:Int)==(n:Int))=false:=by rw[beq_eq_false_iff_ne];omega
 have hsl1:∀W,(Instr.slice 50 (.slice (some ⟨g,0,none⟩) n cap) (some (.int .i64 (i:Int))) none none).run Tryz.prog W=.ok (.slice (cutC rtE13 (some ⟨g,0,none⟩) cap i) (n-i) (cap-i)) W:=fun W=>slLC okE13 (some ⟨g,0,none⟩) n cap i hi W
 by_cases hroom:n+1≤cap
 ·have hgt:decide ((cap:Int)<(n:Int)+1)=false:=decide_eq_false (by omega)
  obtain⟨w1,w2,r1,r2,ho,hgb⟩:=ins_room okE13 (w:=w.drew) (h.on (Below.drew (Below.refl _ w))) hin hroom (show Blk w.drew B 64 (rtE13.c x) from hB) hBg 3 3
  have hslH:∀W,(Instr.slice 50 (.slice (some ⟨g,0,none⟩) n cap) none (some (.int .i64 ((n:Int)+1))) none).run Tryz.prog W=.ok (.slice (some ⟨g,0,none⟩) (n+1) cap) W:=fun W=>slHC okE13 (some ⟨g,0,none⟩) n cap (n+1) hroom W
  have hslA:∀W,(Instr.slice 50 (.slice (some ⟨g,0,none⟩) (n+1) cap) (some (.int .i64 ((i:Int)+1))) none none).run Tryz.prog W=.ok (.slice (cutC rtE13 (some ⟨g,0,none⟩) cap (i+1)) (n+1-(i+1)) (cap-(i+1))) W:=fun W=>slLC okE13 (some ⟨g,0,none⟩) (n+1) cap (i+1) (by omega) W
  have hslB:∀W,(Instr.slice 50 (.slice (some ⟨g,0,none⟩) (n+1) cap) (some (.int .i64 (i:Int))) none none).run Tryz.prog W=.ok (.slice (cutC rtE13 (some ⟨g,0,none⟩) cap i) (n+1-i) (cap-i)) W:=fun W=>slLC okE13 (some ⟨g,0,none⟩) (n+1) cap i (by omega) W
  have hc1:cutC rtE13 (some ⟨g,0,none⟩) cap (i+1)=some ⟨g,(i+1) * rtE13.k,none⟩:=cutC_some (by omega)
  obtain⟨cur,-,hgc,-,-,-,hsz,-⟩:=h.cur
  have hov:∀lb cb,(callFunc 178 #[.slice (some ⟨B,0,none⟩) 1 1,.slice (cutC rtE13 (some ⟨g,0,none⟩) cap (i+1)) lb cb]).run Tryz.prog w=.ok (.value (.bool false)) w:=fun lb cb=>by
   rw[hc1]
   exact overlapsE w B g ((i+1) * rtE13.k) (rtE13.c x) cur 1 1 lb cb hB hgc (by rw[hsz];show cap * 2≠0;omega) hBg
  have hw1:IntKind.i64.wrap ((i:Int)+1)=(i:Int)+1:=wrapi64_in _ (by omega) (by omega)
  have HO:=mkHid ho
  have HG:=mkHid hgb
  have HR1:=mkHid r1
  have HR2:=mkHid r2
  have Hnl:=mkHid hn
  clear h hB hn ho hgb r1 r2 hcl hg0 hgl hlo hle hne hroom hc1 hgc hsz
  generalize cutC rtE13 (some ⟨g,0,none⟩) cap i=cA at *
  generalize cutC rtE13 (some ⟨g,0,none⟩) cap (i+1)=cB at *
  generalize n-i=q1 at *
  generalize cap-i=q2 at *
  generalize n+1-(i+1)=q3 at *
  generalize cap-(i+1)=q4 at *
  generalize n+1-i=q5 at *
  generalize L.take i++x::L.drop i=L' at *
  go_enter Tryz.func144,Tryz.ntmps144
  go_upto_region 15 with fail
  refine lk0 (fun _=>True) 8 trivial (fun hHeld=>?_)
  refine lkC [4] 69 0 ?_ rfl (Or.inl ⟨by rfl,?_⟩) hHeld ?_
  rotate_left
  ·intro w hSw;go_simp;with_reducible rfl
  (try simp only[Act.put,sIx,sZ0,sZ1])
  refine lkC [3,4] 70 1 ?_ rfl (Or.inl ⟨by rfl,?_⟩) hHeld ?_
  rotate_left
  ·intro w hSw;go_simp;with_reducible rfl
  (try simp only[Act.put,sIx,sZ0,sZ1])
  refine lkC [3,4] 71 2 ?_ rfl (Or.inl ⟨by rfl,?_⟩) hHeld ?_
  rotate_left
  ·intro w hSw;go_simp;with_reducible rfl
  (try simp only[Act.put,sIx,sZ0,sZ1])
  refine lkC [4] 72 3 (.int .i64 ((i:Int)+1)) rfl (Or.inl ⟨by rfl,?_⟩) hHeld ?_
  ·intro w hSw;go_simp<;>(try rw[hw1])
  (try simp only[Act.put,sIx,sZ0,sZ1])
  refine lkC [] 73 4 (.slice cB q3 q4) rfl (Or.inl ⟨by rfl,?_⟩) hHeld ?_
  ·intro w hSw;go_simp
  (try simp only[Act.put,sIx,sZ0,sZ1])
  refine lkC [7] 74 5 ?_ rfl (Or.inl ⟨by rfl,?_⟩) hHeld ?_
  rotate_left
  ·intro w hSw;go_simp;with_reducible rfl
  (try simp only[Act.put,sIx,sZ0,sZ1])
  refine lkC [7] 75 6 ?_ rfl (Or.inl ⟨by rfl,?_⟩) hHeld ?_
  rotate_left
  ·intro w hSw;go_simp;with_reducible rfl
  (try simp only[Act.put,sIx,sZ0,sZ1])
  refine lkC [] 76 7 (.slice cA q5 q2) rfl (Or.inl ⟨by rfl,?_⟩) hHeld ?_
  ·intro w hSw;go_simp
  (try simp only[Act.put,sIx,sZ0,sZ1])
  refine lkZ rfl (fun K hK=>?_)
  refine step_copy_run w.drew (by rfl) _ _ 50 50 3 (by rfl) (by rfl) _ _ (by rfl) (by rfl) HR1.out 77 rfl ?_
  refine hK.out _ _ ?_
  simp only[Exit.then]
  (try simp only[Act.put,sIx,sZ0,sZ1])
  clear hK K hHeld
  go_wp2_with (refine list_copy_run _ rfl _ _ _ _ _ rfl rfl _ _ rfl rfl HR2.out ?_)
  go_ret
  exact⟨⟨_,rfl,HO.out⟩,(grown_tr (⟨rfl,rfl,rfl,Nat.le_refl _,fun _ _ _=>rfl⟩:w.grownBy w.drew (some g)) HG.out)⟩
 ·obtain rfl:cap=n:=by omega
  have hgt:decide ((cap:Int)<(cap:Int)+1)=true:=decide_eq_true (by omega)
  obtain⟨w1,w2,w3,cap2,H,hcap2,r0,r1,r2,ho,hbe⟩:=ins_grow okE13 3 Tryz.underlying3 h hin hB hlo (by show (cap+1) * 48≤_;omega) 50 3 3
  have hsub:((cap+1-i:Nat):Int)=(cap:Int)+1-(i:Int):=by omega
  rw[hsub] at r0
  have hslH:∀W,(Instr.slice 50 (.slice (some ⟨g,0,none⟩) cap cap) none (some (.int .i64 (i:Int))) none).run Tryz.prog W=.ok (.slice (some ⟨g,0,none⟩) i cap) W:=fun W=>slHC okE13 (some ⟨g,0,none⟩) cap cap i (by omega) W
  have hslA:∀W,(Instr.slice 50 (.slice (some ⟨H,0,none⟩) (cap+1) cap2) (some (.int .i64 (i:Int))) none none).run Tryz.prog W=.ok (.slice (cutC rtE13 (some ⟨H,0,none⟩) cap2 i) (cap+1-i) (cap2-i)) W:=fun W=>slLC okE13 (some ⟨H,0,none⟩) (cap+1) cap2 i (by omega) W
  have hslB:∀W,(Instr.slice 50 (.slice (some ⟨H,0,none⟩) (cap+1) cap2) (some (.int .i64 ((i:Int)+1))) none none).run Tryz.prog W=.ok (.slice (cutC rtE13 (some ⟨H,0,none⟩) cap2 (i+1)) (cap+1-(i+1)) (cap2-(i+1))) W:=fun W=>slLC okE13 (some ⟨H,0,none⟩) (cap+1) cap2 (i+1) (by omega) W
  have hw1:IntKind.i64.wrap ((i:Int)+1)=(i:Int)+1:=wrapi64_in _ (by omega) (by omega)
  have HO:=mkHid ho
  have HB:=mkHid hbe
  have HR0:=mkHid r0
  have HR1:=mkHid r1
  have HR2:=mkHid r2
  have Hnl:=mkHid hn
  clear h hB hn ho hbe r0 r1 r2 hcl hg0 hgl hlo hle hne hroom hlc hsub hcap2
  generalize cutC rtE13 (some ⟨g,0,none⟩) cap i=cA at *
  generalize cutC rtE13 (some ⟨H,0,none⟩) cap2 i=cB at *
  generalize cutC rtE13 (some ⟨H,0,none⟩) cap2 (i+1)=cC at *
  generalize cap-i=q1 at *
  generalize cap+1-(i+1)=q3 at *
  generalize cap2-(i+1)=q4 at *
  generalize cap+1-i=q5 at *
  generalize cap2-i=q6 at *
  generalize L.take i++x::L.drop i=L' at *
  go_enter Tryz.func144,Tryz.ntmps144
  go_upto_region 11 with(first|(at_builtin;refine Lib.wpList_append_run _ rfl _ _ _ _ rfl _ _ rfl rfl _ _ HR0.out ?_)|(refine list_copy_run _ rfl _ _ _ _ _ rfl rfl _ _ rfl rfl HR1.out ?_))
  refine lk0 (fun _=>True) 8 trivial (fun hHeld=>?_)
  refine lkC [4] 46 0 ?_ rfl (Or.inl ⟨by rfl,?_⟩) hHeld ?_
  rotate_left
  ·intro w hSw;go_simp;with_reducible rfl
  (try simp only[Act.put,sIx,sZ0,sZ1])
  refine lkC [3,4] 47 1 ?_ rfl (Or.inl ⟨by rfl,?_⟩) hHeld ?_
  rotate_left
  ·intro w hSw;go_simp;with_reducible rfl
  (try simp only[Act.put,sIx,sZ0,sZ1])
  refine lkC [3,4] 48 2 ?_ rfl (Or.inl ⟨by rfl,?_⟩) hHeld ?_
  rotate_left
  ·intro w hSw;go_simp;with_reducible rfl
  (try simp only[Act.put,sIx,sZ0,sZ1])
  refine lkC [4] 49 3 (.int .i64 ((i:Int)+1)) rfl (Or.inl ⟨by rfl,?_⟩) hHeld ?_
  ·intro w hSw;go_simp<;>(try rw[hw1])
  (try simp only[Act.put,sIx,sZ0,sZ1])
  refine lkC [] 50 4 (.slice cC q3 q4) rfl (Or.inl ⟨by rfl,?_⟩) hHeld ?_
  ·intro w hSw;go_simp
  (try simp only[Act.put,sIx,sZ0,sZ1])
  refine lkC [7] 51 5 ?_ rfl (Or.inl ⟨by rfl,?_⟩) hHeld ?_
  rotate_left
  ·intro w hSw;go_simp;with_reducible rfl
  (try simp only[Act.put,sIx,sZ0,sZ1])
  refine lkC [7] 52 6 ?_ rfl (Or.inl ⟨by rfl,?_⟩) hHeld ?_
  rotate_left
  ·intro w hSw;go_simp;with_reducible rfl
  (try simp only[Act.put,sIx,sZ0,sZ1])
  refine lkC [] 53 7 (.slice cA q1 q1) rfl (Or.inl ⟨by rfl,?_⟩) hHeld ?_
  ·intro w hSw;go_simp
  (try simp only[Act.put,sIx,sZ0,sZ1])
  refine lkZ rfl (fun K hK=>?_)
  refine step_copy_run w2.drew (by rfl) _ _ 50 50 3 (by rfl) (by rfl) _ _ (by rfl) (by rfl) HR2.out 54 rfl ?_
  refine hK.out _ _ ?_
  simp only[Exit.then]
  (try simp only[Act.put,sIx,sZ0,sZ1])
  clear hK K hHeld
  go_wp2_with fail
  go_ret
  exact⟨⟨_,rfl,HO.out⟩,⟨HB.out.1,HB.out.2,HB.out.3,HB.out.4,fun k hk _=>HB.out.5 k hk⟩⟩
variable {fl:Nat}
theorem EtP.below {w w':World}{e:Et}{q:EtA}(h:EtP w e q)(hb:Below w.heap.size w w'):EtP w' e q:=h.keep (KeepO.of_below hb)
theorem KeepT.more {ts us:List TypeId}{w w':World}(h:KeepT ts w w')(hs:∀t∈ts,t∈us):KeepT us w w':=⟨h.size,fun k o hk ho=>h.same k o hk (fun c t fz e ht=>ho c t fz e (hs t ht))⟩
theorem set_row {L:List Eq3}{k:Nat}(x:Eq3)(h:k<L.length):L.set k x=L.take k++x::L.drop (k+1):=List.set_eq_take_append_cons_drop.trans (if_pos h)
def SetPost (fl:Nat)(w w':World)(base Bp:Nat)(at_:Int)(vk:Value)(l:List Et)(key val:List UInt8):Prop :=
 ∃ve' L',Blk w' Bp 133 [.int .i64 at_,.int .i64 0,ve',vk]∧OwnN w' base ve' L'∧L'.map Prod.fst=putE13 l key val∧(∀x∈L',EtQ fl w' x.1 x.2)∧KeepT [133,64] w w'∧Below base w w'∧∀B cs,B≠Bp→Blk w B 133 cs→Blk w' B 133 cs
theorem codSet13 (w:World)(Bp base:Nat)(at_:Int)(ve vk:Value)(L:List Eq3)(e:Et)(q:EtA)(hB:Blk w Bp 133 [.int .i64 at_,.int .i64 0,ve,vk])(ho:OwnN w base ve L)(hx:∀x∈L,EtP w x.1 x.2)(hs:SrtE (L.map Prod.fst))(he:EtQ fl w e q)(hn:L.length≤400)(hlo:base≤w.heap.size)(hbb:base≤Bp)(hfl:fl≤base:=by omega):
  Calls Tryz.prog 103 #[.pointer (some ⟨Bp,0,none⟩),.agg (etc2 e q).toArray] w fun r w'=>r=.returned (.tuple #[])∧SetPost fl w w' base Bp at_ vk (L.map Prod.fst) e.k e.v:=by
 obtain⟨ea,ec,rfl,hle,hea,-⟩:=ho.form
 have W1:Below w.heap.size w (w.alloc (.cells (etc2 e q).toArray 64)):=(Below.refl _ w).alloc (Nat.le_refl _) _
 have kE:=Blk.new w 64 (etc2 e q)
 have kP:=hB.alloc (.cells (etc2 e q).toArray 64)
 have hBl:=hB.lt
 have hEis:=he.is
 have HFd:Hid (∀W,Below w.heap.size w W→Calls Tryz.prog 74 #[.agg (pgc at_ 0 (.slice ea L.length ec) vk).toArray,.slice q.a e.k.length q.c] W fun r w'=>r=.returned (.tuple #[.int .i64 (atE (L.map Prod.fst) e.k:Int),.bool (hasE13 (L.map Prod.fst) e.k)])∧Below W.heap.size W w'):=fun W hW =>
  codFind13 at_ 0 _ vk L q.a e.k.length q.c e.k W (((ho.rd hx).keep (KeepU.of_below hW):RdN 0 W _ _)) hs (((he.below hW).is).k) (by omega)
 have hal:=atE_le (L.map Prod.fst) e.k
 rw[List.length_map] at hal
 have HPut:Hid (putE13 (L.map Prod.fst) e.k e.v=(L.map Prod.fst).take (atE (L.map Prod.fst) e.k)++⟨e.k,e.v⟩::(if hasE13 (L.map Prod.fst) e.k=true then (L.map Prod.fst).drop (atE (L.map Prod.fst) e.k+1) else (L.map Prod.fst).drop (atE (L.map Prod.fst) e.k))):=rfl
 have HHas:Hid (hasE13 (L.map Prod.fst) e.k=true→atE (L.map Prod.fst) e.k<L.length):=fun h=>by
  have h2:isE (L.map Prod.fst) (atE (L.map Prod.fst) e.k) e.k=true:=h
  unfold isE at h2
  rw[Bool.and_eq_true] at h2
  have:=of_decide_eq_true h2.1
  rw[List.length_map] at this
  exact this
 have HO:=mkHid ho
 have HX:=mkHid hx
 have HE:=mkHid he
 have HB:=mkHid hB
 obtain⟨k,hk⟩:∃k,k=atE (L.map Prod.fst) e.k:=⟨_,rfl⟩
 obtain⟨hh,hhh⟩:∃b,b=hasE13 (L.map Prod.fst) e.k:=⟨_,rfl⟩
 rw[←hk,←hhh] at HPut HHas
 rw[←hk] at hal
 simp only[←hk,←hhh] at HFd
 obtain⟨n,hnn⟩:∃n,n=L.length:=⟨_,rfl⟩
 rw[←hnn] at hal hn hle HHas
 have HN:=mkHid hnn
 simp only[←hnn] at HFd
 have HOn:Hid (OwnN w base (.slice ea n ec) L):=by unfold Hid;rw[hnn];exact HO.out
 rw[←hnn] at HB kP
 clear HO hk hhh ho hx he hs hB hnn
 obtain⟨key,val⟩:=e
 obtain⟨qa,qc,qb,qd⟩:=q
 unfold etc2 pgc at *
 simp only at *
 obtain⟨kn,hkn⟩:∃x,x=key.length:=⟨_,rfl⟩
 obtain⟨vn,hvn⟩:∃x,x=val.length:=⟨_,rfl⟩
 rw[←hkn] at HFd
 rw[←hkn,←hvn] at W1 kE kP ⊢
 have HKn:=mkHid hkn
 have HVn:=mkHid hvn
 clear hkn hvn hEis
 generalize hY:w.alloc (.cells #[.slice qa kn qc,.slice qb vn qd] 64)=Y0 at *
 have HCt:∀W,Below Y0.heap.size Y0 W→W.cell? ⟨Bp,0,none⟩=some (.int .i64 at_)∧W.cell? ⟨Bp,1,none⟩=some (.int .i64 0)∧W.cell? ⟨Bp,2,none⟩=some (.slice ea n ec)∧W.cell? ⟨Bp,3,none⟩=some vk∧W.cell? ⟨w.heap.size,0,none⟩=some (.slice qa kn qc)∧W.cell? ⟨w.heap.size,1,none⟩=some (.slice qb vn qd):=fun W hW =>
  ⟨(kP.on hW).cell 0,(kP.on hW).cell 1,(kP.on hW).cell 2,(kP.on hW).cell 3,(kE.on hW).cell 0,(kE.on hW).cell 1⟩
 have hD:Below Y0.heap.size Y0 Y0.drew:=(Below.refl _ Y0).drew
 have HW1:=mkHid W1
 have KP:=mkHid kP
 have KE:=mkHid kE
 have HFc:=HFd.out Y0.drew (W1.trans (hD.mono W1.size))
 clear W1 kP kE HFd
 go_enter Tryz.func103,Tryz.ntmps103
 go_upto_region 1 with fail
 (try rw[hY])
 clear hY
 refine lk0 (fun w'=>w'.cell? ⟨Bp,0,none⟩=some (.int .i64 at_)∧w'.cell? ⟨Bp,1,none⟩=some (.int .i64 0)∧w'.cell? ⟨Bp,2,none⟩=some (.slice ea n ec)∧w'.cell? ⟨Bp,3,none⟩=some vk∧w'.cell? ⟨w.heap.size,0,none⟩=some (.slice qa kn qc)∧w'.cell? ⟨w.heap.size,1,none⟩=some (.slice qb vn qd)) 10 (HCt _ hD) (fun hHeld=>?_)
 refine lkT 7 0 (.pointer (some ⟨Bp,0,none⟩)) rfl (Or.inl ⟨by rfl,?_⟩) hHeld ?_
 ·intro w hSw;go_simp
 (try simp only[Act.put,sIx,sZ0,sZ1])
 refine lkT 8 1 (.pointer (some ⟨Bp,0,none⟩)) rfl (Or.inl ⟨by rfl,?_⟩) hHeld ?_
 ·intro w hSw;go_simp
 (try simp only[Act.put,sIx,sZ0,sZ1])
 refine lkT 9 2 (.agg #[.int .i64 at_,.int .i64 0,.slice ea n ec,vk]) rfl (Or.inl ⟨by rfl,?_⟩) hHeld ?_
 ·intro w hSw;obtain⟨s0,s1,s2,s3,s4,s5⟩:=hSw;go_simp
 (try simp only[Act.put,sIx,sZ0,sZ1])
 refine lkT 10 3 (.pointer (some ⟨w.heap.size,0,none⟩)) rfl (Or.inl ⟨by rfl,?_⟩) hHeld ?_
 ·intro w hSw;go_simp
 (try simp only[Act.put,sIx,sZ0,sZ1])
 refine lkT 11 4 (.slice qa kn qc) rfl (Or.inl ⟨by rfl,?_⟩) hHeld ?_
 ·intro w hSw;obtain⟨s0,s1,s2,s3,s4,s5⟩:=hSw;go_simp
 (try simp only[Act.put,sIx,sZ0,sZ1])
 refine lk1 5 rfl (fun K hK=>?_)
 go_simp
 refine HFc.mono ?_
 rintro r y1 ⟨rfl,hb1⟩
 go_simp
 have hbx:=hD.trans (hb1.mono hD.size)
 refine hK.out _ _ (HCt _ hbx) (fun hHeld=>?_)
 (try simp only[Act.put,sIx,sZ0,sZ1])
 clear hK K HFc hb1
 refine lkT 6 6 (.tuple #[.int .i64 (k:Int),.bool hh]) rfl (Or.inl ⟨by rfl,?_⟩) hHeld ?_
 ·intro w hSw;go_simp
 (try simp only[Act.put,sIx,sZ0,sZ1])
 refine lkT 13 7 (.int .i64 (k:Int)) rfl (Or.inl ⟨by rfl,?_⟩) hHeld ?_
 ·intro w hSw;go_simp
 (try simp only[Act.put,sIx,sZ0,sZ1])
 refine lkT 14 8 (.bool hh) rfl (Or.inl ⟨by rfl,?_⟩) hHeld ?_
 ·intro w hSw;go_simp
 (try simp only[Act.put,sIx,sZ0,sZ1])
 refine lkT 4 9 (.int .i64 (k:Int)) rfl (Or.inl ⟨by rfl,?_⟩) hHeld ?_
 ·intro w hSw;go_simp
 (try simp only[Act.put,sIx,sZ0,sZ1])
 refine lkZ rfl (fun K hK=>?_)
 go_simp
 refine hK.out _ _ ?_
 simp only[Exit.then]
 (try simp only[Act.put,sIx,sZ0,sZ1])
 clear hK K hHeld
 have HB1:=mkHid (HW1.out.trans (hbx.mono HW1.out.size))
 have KP1:=mkHid (KP.out.on hbx)
 have KE1:=mkHid (KE.out.on hbx)
 have hc:=HCt y1 hbx
 have HCt2:Hid (∀W,Below y1.heap.size y1 W→W.cell? ⟨Bp,0,none⟩=some (.int .i64 at_)∧W.cell? ⟨Bp,1,none⟩=some (.int .i64 0)∧W.cell? ⟨Bp,2,none⟩=some (.slice ea n ec)∧W.cell? ⟨Bp,3,none⟩=some vk∧W.cell? ⟨w.heap.size,0,none⟩=some (.slice qa kn qc)∧W.cell? ⟨w.heap.size,1,none⟩=some (.slice qb vn qd)):=fun W hW=>HCt W (hbx.trans (hW.mono hbx.size))
 have hk0:(0:Int)≤(k:Int):=by omega
 clear HCt hD hbx HW1 KP KE
 have hD:Below y1.heap.size y1 y1.drew:=(Below.refl _ y1).drew
 have HOy:=mkHid (HOn.out.on HB1.out)
 have HXy:Hid (∀x∈L,EtP y1 x.1 x.2):=fun x hxm=>(HX.out x hxm).below HB1.out
 have HEy:=mkHid (HE.out.below HB1.out)
 cases hh with
 | true =>
  have hkn:=HHas.out rfl
  have hkn':(k:Int)<(n:Int):=by omega
  obtain⟨g,rfl,hg0,hgl,-⟩:=HOy.out.at_ k (by rw[←HN.out];exact hkn)
  have hne:g≠Bp:=fun e2=>by
   subst e2
   rcases HOy.out.2 with⟨h1,_⟩|⟨g2,_,cur,h3,_,h5,_⟩
   ·injection h1 with h1 _ _;cases h1
   ·injection h3 with h3 _ _
    have h4:=Option.some.inj h3
    injection h4 with h4 _ _
    subst h4
    have h6:y1.heap[g]?=some (.cells _ 133 (0,0)):=KP1.out
    rw[h5] at h6
    injection h6 with h6
    injection h6 with _ h6 _
    exact absurd h6 (by decide)
  have hOw:OwnN y1 base (.slice (some ⟨g,0,none⟩) L.length ec) L:=by rw[←HN.out];exact HOy.out
  have hc1:=(hOw.c.cur)
  obtain⟨cur,-,hgc,-,hlec,-,hszc,-⟩:=hc1
  have hcs:∀j,j<2→(y1.drew.cell? ⟨g,k * 2+j,none⟩).isSome=true:=fun j hj=>by
   rw[cell_of_row y1.drew g _ cur 64 (0,0) hgc]
   have:k * 2+j<cur.size:=by
    rw[hszc]
    have:(k+1) * 2≤ec * 2:=Nat.mul_le_mul_right _ (by omega)
    show _<ec * 2
    omega
   simp[this]
  obtain⟨c0,hc0⟩:=Option.isSome_iff_exists.1 (hcs 0 (by omega))
  obtain⟨c1,hc1⟩:=Option.isSome_iff_exists.1 (hcs 1 (by omega))
  have hf0:∀j,y1.drew.frozen? ⟨g,j,none⟩=false:=fun j=>frozen_of_row y1.drew g j cur 64 hgc
  have f0:=hf0 (k * 2)
  have f1:=hf0 (k * 2+1)
  rw[Nat.add_zero] at hc0
  have hc0:y1.cell? ⟨g,k * 2,none⟩=some c0:=hc0
  have hc1:y1.cell? ⟨g,k * 2+1,none⟩=some c1:=hc1
  have f0:y1.frozen? ⟨g,k * 2,none⟩=false:=f0
  have f1:y1.frozen? ⟨g,k * 2+1,none⟩=false:=f1
  obtain⟨hp1,hp2⟩:=(hOw.on hD).put k ((⟨key,val⟩,⟨qa,qc,qb,qd⟩):Eq3)
  simp only at hp1 hp2
  rw[←HKn.out,←HVn.out] at hp1 hp2
  have HP1:=mkHid hp1
  have HP2:=mkHid hp2
  have HNe:=mkHid hne
  have HG0:=mkHid hg0
  have HGl:=mkHid hgl
  clear hOw hgc hlec hszc hcs hf0 hp1 hp2 hc hne hg0 hgl
  go_upto_region 3 with fail
  refine lk0 (fun w'=>w'.cell? ⟨Bp,0,none⟩=some (.int .i64 at_)∧w'.cell? ⟨Bp,1,none⟩=some (.int .i64 0)∧w'.cell? ⟨Bp,2,none⟩=some (.slice (some ⟨g,0,none⟩) n ec)∧w'.cell? ⟨Bp,3,none⟩=some vk∧w'.cell? ⟨w.heap.size,0,none⟩=some (.slice qa kn qc)∧w'.cell? ⟨w.heap.size,1,none⟩=some (.slice qb vn qd)) 7 (HCt2.out _ hD) (fun hHeld=>?_)
  refine lkT 16 0 (.pointer (some ⟨Bp,0,none⟩)) rfl (Or.inl ⟨by rfl,?_⟩) hHeld ?_
  ·intro w hSw;go_simp
  (try simp only[Act.put,sIx,sZ0,sZ1])
  refine lkT 17 1 (.pointer (some ⟨Bp,0,none⟩)) rfl (Or.inl ⟨by rfl,?_⟩) hHeld ?_
  ·intro w hSw;go_simp
  (try simp only[Act.put,sIx,sZ0,sZ1])
  refine lkT 18 2 (.pointer (some ⟨Bp,2,none⟩)) rfl (Or.inl ⟨by rfl,?_⟩) hHeld ?_
  ·intro w hSw;go_simp
  (try simp only[Act.put,sIx,sZ0,sZ1])
  refine lkT 19 3 (.slice (some ⟨g,0,none⟩) n ec) rfl (Or.inl ⟨by rfl,?_⟩) hHeld ?_
  ·intro w hSw;obtain⟨s0,s1,s2,s3,s4,s5⟩:=hSw;go_simp
  (try simp only[Act.put,sIx,sZ0,sZ1])
  refine lkT 20 4 (.int .i64 (k:Int)) rfl (Or.inl ⟨by rfl,?_⟩) hHeld ?_
  ·intro w hSw;go_simp
  (try simp only[Act.put,sIx,sZ0,sZ1])
  refine lkT 21 5 (.agg #[.slice qa kn qc,.slice qb vn qd]) rfl (Or.inl ⟨by rfl,?_⟩) hHeld ?_
  ·intro w hSw;obtain⟨s0,s1,s2,s3,s4,s5⟩:=hSw;go_simp
  (try simp only[Act.put,sIx,sZ0,sZ1])
  refine lkT 22 6 (.pointer (some ⟨g,k * 2,none⟩)) rfl (Or.inl ⟨by rfl,?_⟩) hHeld ?_
  ·intro w hSw;go_simp
  (try simp only[Act.put,sIx,sZ0,sZ1])
  refine lkZ rfl (fun K hK=>?_)
  go_simp
  refine hK.out _ _ ?_
  simp only[Exit.then]
  (try simp only[Act.put,sIx,sZ0,sZ1])
  clear hK K hHeld
  go_wp2_with fail
  refine bodyPost_ret (results_none rfl _ _ _) rfl ?_
  have hb0:Below base w y1:=HB1.out.mono hlo
  have hb1:=hb0.trans (hD.mono (Nat.le_trans hlo HB1.out.size))
  have hbs:=(hb1.setCell (p:=⟨g,k * 2,none⟩) HG0.out (.slice qa kn qc)).setCell (p:=⟨g,k * 2+1,none⟩) HG0.out (.slice qb vn qd)
  have hk0':KeepT [64] y1.drew ((y1.drew.setCell ⟨g,k * 2,none⟩ (.slice qa kn qc)).setCell ⟨g,k * 2+1,none⟩ (.slice qb vn qd)):=KeepT.grownN (HOy.out.on hD) HP2.out
  have hk1:KeepT [133,64] y1 ((y1.drew.setCell ⟨g,k * 2,none⟩ (.slice qa kn qc)).setCell ⟨g,k * 2+1,none⟩ (.slice qb vn qd)):=(KeepT.of_below hD).trans (hk0'.more (by decide))
  have hkp:Blk ((y1.drew.setCell ⟨g,k * 2,none⟩ (.slice qa kn qc)).setCell ⟨g,k * 2+1,none⟩ (.slice qb vn qd)) Bp 133 [.int .i64 at_,.int .i64 0,.slice (some ⟨g,0,none⟩) n ec,vk]:=((KP1.out.on hD).other _ _ (by exact Ne.symm HNe.out)).other _ _ (by exact Ne.symm HNe.out)
  have hP1:=HP1.out
  rw[←HN.out] at hP1
  refine⟨rfl,_,_,hkp,hP1,?_,fun x hx=>?_,(KeepT.of_below HB1.out).trans hk1,hbs,fun B cs hB hb=>hk0'.blk ((hb.on HB1.out).on hD) (by decide)⟩
  ·rw[HPut.out,if_pos trivial,set_row _ (by rw[←HN.out];exact hkn)]
   simp only[List.map_append,List.map_cons,List.map_take,List.map_drop]
  ·have hku:=KeepO.ofT (us:=UB) hk1 (by decide)
   rcases List.mem_or_eq_of_mem_set hx with h1|h1
   ·exact((HXy.out x h1).keep hku).q fl
   ·rw[h1];exact HE.out.keep (KeepU.ofB (KeepO.ofT ((KeepT.of_below HB1.out).trans hk1) (by decide)) hbs hfl)
 | false =>
  have hcc:ec≤9223372036854775807:=by
   rcases HOy.out.2 with⟨h1,_⟩|⟨g2,cap2,cur,h3,_,_,_,h5,_⟩
   ·injection h1 with _ _ h1;omega
   ·injection h3 with _ _ h3;rw[h3];unfold maxLen at h5;omega
  have hgl:∀g,ea=some ⟨g,0,none⟩→base≤g∧g<w.heap.size:=fun g e2=>by
   have:=HOn.out
   rw[e2] at this
   exact World.ownsRow.lt this g rfl
  have HIn:Hid (∀W,Below y1.heap.size y1 W→Calls Tryz.prog 144 #[.slice ea n ec,.int .i64 (k:Int),.slice (some ⟨W.heap.size,0,none⟩) 1 1] (W.alloc (.cells #[.slice qa kn qc,.slice qb vn qd] 64)) fun r w'=>(∃v',r=.returned v'∧OwnRw rtE13 w' base v' (L.take k++((⟨key,val⟩,⟨qa,qc,qb,qd⟩):Eq3):: L.drop k))∧(W.alloc (.cells #[.slice qa kn qc,.slice qb vn qd] 64)).grownBy w' (Value.slice ea n ec).ownBlock):=fun W hW=>by
   have hAl:=hW.alloc hW.size (.cells #[.slice qa kn qc,.slice qb vn qd] 64)
   have hBk:Blk (W.alloc (.cells #[.slice qa kn qc,.slice qb vn qd] 64)) W.heap.size 64 (rtE13.c ((⟨key,val⟩,⟨qa,qc,qb,qd⟩):Eq3)):=by
    show Blk _ _ _ [.slice qa key.length qc,.slice qb val.length qd]
    rw[←HKn.out,←HVn.out]
    exact Blk.new W _ _
   exact codInsertE _ base ea n ec k W.heap.size L _ HN.out.symm (HOy.out.on hAl).c hBk hal (by omega) hcc (Nat.le_trans hlo (Nat.le_trans HB1.out.size hAl.size)) (fun g e2=>by have h1:=(hgl g e2).2;have h2:=HB1.out.size;have h3:=hW.size;omega)
  have hIn:=HIn.out y1.drew hD
  clear HIn HHas
  go_upto_region 4 with fail
  refine lk0 (fun w'=>w'.cell? ⟨Bp,0,none⟩=some (.int .i64 at_)∧w'.cell? ⟨Bp,1,none⟩=some (.int .i64 0)∧w'.cell? ⟨Bp,2,none⟩=some (.slice ea n ec)∧w'.cell? ⟨Bp,3,none⟩=some vk∧w'.cell? ⟨w.heap.size,0,none⟩=some (.slice qa kn qc)∧w'.cell? ⟨w.heap.size,1,none⟩=some (.slice qb vn qd)) 11 (HCt2.out _ hD) (fun hHeld=>?_)
  refine lkT 23 0 (.pointer (some ⟨Bp,0,none⟩)) rfl (Or.inl ⟨by rfl,?_⟩) hHeld ?_
  ·intro w hSw;go_simp
  (try simp only[Act.put,sIx,sZ0,sZ1])
  refine lkT 24 1 (.pointer (some ⟨Bp,0,none⟩)) rfl (Or.inl ⟨by rfl,?_⟩) hHeld ?_
  ·intro w hSw;go_simp
  (try simp only[Act.put,sIx,sZ0,sZ1])
  refine lkT 25 2 (.pointer (some ⟨Bp,0,none⟩)) rfl (Or.inl ⟨by rfl,?_⟩) hHeld ?_
  ·intro w hSw;go_simp
  (try simp only[Act.put,sIx,sZ0,sZ1])
  refine lkT 26 3 (.pointer (some ⟨Bp,2,none⟩)) rfl (Or.inl ⟨by rfl,?_⟩) hHeld ?_
  ·intro w hSw;go_simp
  (try simp only[Act.put,sIx,sZ0,sZ1])
  refine lkT 27 4 (.slice ea n ec) rfl (Or.inl ⟨by rfl,?_⟩) hHeld ?_
  ·intro w hSw;obtain⟨s0,s1,s2,s3,s4,s5⟩:=hSw;go_simp
  (try simp only[Act.put,sIx,sZ0,sZ1])
  refine lkT 28 5 (.int .i64 (k:Int)) rfl (Or.inl ⟨by rfl,?_⟩) hHeld ?_
  ·intro w hSw;go_simp
  (try simp only[Act.put,sIx,sZ0,sZ1])
  refine lkT 29 6 (.agg #[.slice qa kn qc,.slice qb vn qd]) rfl (Or.inl ⟨by rfl,?_⟩) hHeld ?_
  ·intro w hSw;obtain⟨s0,s1,s2,s3,s4,s5⟩:=hSw;go_simp
  (try simp only[Act.put,sIx,sZ0,sZ1])
  refine lk1 7 rfl (fun K hK=>?_)
  go_simp
  have hA2:=hD.alloc hD.size (.cells #[.slice qa kn qc,.slice qb vn qd] 64)
  refine hK.out _ _ (HCt2.out _ hA2) (fun hHeld=>?_)
  (try simp only[Act.put,sIx,sZ0,sZ1])
  clear hK K
  refine lk1 8 rfl (fun K hK=>?_)
  go_simp
  rw[show y1.drew.heap.size=y1.heap.size from rfl,show y1.drew.alloc (.cells #[.slice qa kn qc,.slice qb vn qd] 64)=(y1.alloc (.cells #[.slice qa kn qc,.slice qb vn qd] 64)).drew from rfl] at hIn
  refine hIn.mono ?_
  rintro r y2 ⟨⟨v',rfl,ho2⟩,hg2⟩
  go_simp
  have hA3:Below y1.heap.size y1 (y1.alloc (.cells #[.slice qa kn qc,.slice qb vn qd] 64)).drew:=hA2
  have hoth:∀B t cs,Blk y1 B t cs→(∀g,ea=some ⟨g,0,none⟩→B≠g)→Blk y2 B t cs:=fun B t cs hb hng=>by
   have h1:=hb.on hA3
   refine(hg2.block B h1.lt (fun e2=>?_)).trans h1
   cases ea with
   | none=>cases e2
   | some ad =>
    obtain⟨ag,ao,aq⟩:=ad
    have h2:=Option.some.inj e2
    rcases hea with h3|⟨g3,h3⟩
    ·cases h3
    ·have h4:=Option.some.inj h3
     injection h4 with h4 h5 h6
     subst h4 h5 h6
     exact hng _ rfl h2
  have kp2:Blk y2 Bp 133 [.int .i64 at_,.int .i64 0,.slice ea n ec,vk]:=hoth _ _ _ KP1.out (fun g e2 e3=>by
   subst e3
   rcases HOn.out.2 with⟨h1,_⟩|⟨g2,_,cur,h3,_,h5,_⟩
   ·rw[e2] at h1;injection h1 with h1 _ _;cases h1
   ·rw[e2] at h3
    injection h3 with h3 _ _
    have h4:=Option.some.inj h3
    injection h4 with h4 _ _
    subst h4
    have h6:w.heap[Bp]?=some (.cells _ 133 (0,0)):=HB.out
    rw[h5] at h6
    injection h6 with h6
    injection h6 with _ h6 _
    exact absurd h6 (by decide))
  have ke2:Blk y2 w.heap.size 64 [.slice qa kn qc,.slice qb vn qd]:=hoth _ _ _ KE1.out (fun g e2 e3=>by have:=(hgl g e2).2;omega)
  refine hK.out _ _ ⟨kp2.cell 0,kp2.cell 1,kp2.cell 2,kp2.cell 3,ke2.cell 0,ke2.cell 1⟩ (fun hHeld=>?_)
  (try simp only[Act.put,sIx,sZ0,sZ1])
  clear hK K
  refine lkC [10] 32 9 (.pointer (some ⟨Bp,0,none⟩)) rfl (Or.inl ⟨by rfl,?_⟩) hHeld ?_
  ·intro w hSw;go_simp
  (try simp only[Act.put,sIx,sZ0,sZ1])
  refine lkT 33 10 (.pointer (some ⟨Bp,2,none⟩)) rfl (Or.inl ⟨by rfl,?_⟩) hHeld ?_
  ·intro w hSw;go_simp
  (try simp only[Act.put,sIx,sZ0,sZ1])
  have kc2:=kp2.cell 2
  have kf2:=kp2.frozen 2
  simp only[gZ0,gZ1] at kc2
  obtain⟨va,vcap,rfl,_⟩:=ho2.form okE13
  refine lkZ rfl (fun K hK=>?_)
  go_simp
  refine hK.out _ _ ?_
  (try simp only[Exit.then])
  (try simp only[Act.put,sIx,sZ0,sZ1])
  clear hK K hHeld
  go_wp2_with fail
  go_end0
  have hLen:min k L.length+(L.length-k+1)=(L.take k++((⟨key,val⟩,⟨qa,qc,qb,qd⟩):Eq3):: L.drop k).length:=by simp
  have kW:=kp2.set 2 (.slice va (min k L.length+(L.length-k+1)) vcap)
  have hO2:=ho2.n13
  rw[←hLen] at hO2
  have hT:KeepT [133] y2 (y2.setCell ⟨Bp,2,none⟩ (.slice va (min k L.length+(L.length-k+1)) vcap)):=(KeepT.refl _ y2).set kp2 (by decide) 2 _
  have hk1:KeepT [133,64] y1 (y2.setCell ⟨Bp,2,none⟩ (.slice va (min k L.length+(L.length-k+1)) vcap)):=((KeepT.of_below hA3).trans ((KeepT.grownN (HOy.out.on hA3) hg2).more (by decide))).trans (hT.more (by decide))
  have hb2:Below base w y2:=((HB1.out.mono hlo).trans (hA3.mono (Nat.le_trans hlo HB1.out.size))).grown hg2 (Nat.le_trans hlo (Nat.le_trans HB1.out.size hA3.size)) (fun b e2=>by
   cases ea with
   | none=>cases e2
   | some ad =>
    obtain⟨ag,ao,aq⟩:=ad
    have h2:=Option.some.inj e2
    rcases hea with h3|⟨g3,h3⟩
    ·cases h3
    ·have h4:=Option.some.inj h3
     injection h4 with h4 h5 h6
     subst h4 h5 h6
     have h7:ag=b:=h2
     rw[←h7]
     exact(hgl _ rfl).1)
  refine⟨rfl,_,_,kW,own_keepO (us:=[64]) (KeepO.ofT hT (by decide)) hO2 (by decide),?_,fun x hx=>?_,(KeepT.of_below HB1.out).trans hk1,hb2.setCell (p:=⟨Bp,2,none⟩) hbb _,fun B cs hB hb=>((KeepT.grownN (HOy.out.on hA3) hg2).blk ((hb.on HB1.out).on hA3) (by decide)).other _ _ hB⟩
  ·rw[HPut.out,if_neg (by simp)]
   simp only[List.map_append,List.map_cons,List.map_take,List.map_drop]
  ·have hku:=KeepO.ofT (us:=UB) hk1 (by decide)
   rcases List.mem_append.1 hx with h1|h1
   ·exact((HXy.out x (List.mem_of_mem_take h1)).keep hku).q fl
   ·rcases List.mem_cons.1 h1 with h1|h1
    ·rw[h1];exact HE.out.keep (KeepU.ofB (KeepO.ofT ((KeepT.of_below HB1.out).trans hk1) (by decide)) (hb2.setCell (p:=⟨Bp,2,none⟩) hbb _) hfl)
    ·exact((HXy.out x (List.mem_of_mem_drop h1)).keep hku).q fl
end
section
open Go.RowKit
structure VKeep (N0 Nl:Nat)(us:List TypeId)(w w':World):Prop where
 k:∀(B:Nat) (o:Obj),w.heap[B]?=some o→N0≤B→(∀c t fz,o=.cells c t fz→t∉us)→w'.heap[B]?=some o
 t:KeepT [64,50,3,144] w w'
 b:Below Nl w w'
theorem VKeep.blk {N0 Nl:Nat}{us:List TypeId}{w w':World}(h:VKeep N0 Nl us w w'){B ty:Nat}{cs:List Value}(hB:Blk w B ty cs)(hn:N0≤B)(ht:ty∉us):Blk w' B ty cs:=h.k B _ hB hn (fun c t fz e=>by injection e with _ h2 _;rw[←h2];exact ht)
theorem VKeep.trans {N0 Nl:Nat}{us:List TypeId}{a b c:World}(h:VKeep N0 Nl us a b)(k:VKeep N0 Nl us b c):VKeep N0 Nl us a c:=⟨fun B o hB hn ht=>k.k B o (h.k B o hB hn ht) hn ht,h.t.trans k.t,h.b.trans k.b⟩
theorem VKeep.below {N0 Nl:Nat}{us:List TypeId}{w w':World}(h:Below w.heap.size w w')(hN:Nl≤w.heap.size):VKeep N0 Nl us w w':=⟨fun B _ hB _ _=>(h.5 B (Array.getElem?_eq_some_iff.1 hB).1).trans hB,KeepT.of_below h,h.mono hN⟩
theorem VKeep.more {N0 Nl:Nat}{us vs:List TypeId}{w w':World}(h:VKeep N0 Nl us w w')(hs:∀t∈us,t∈vs):VKeep N0 Nl vs w w':=⟨fun B o hB hn ht=>h.k B o hB hn (fun c t fz e hm=>ht c t fz e (hs t hm)),h.t,h.b⟩
structure VisOK {σ:Type}(V:Nat)(cap:Array Value)(stp:σ→List Et→σ × Bool)(Inv:σ→Nat→World→Prop)(N0 Nl:Nat)(rk:σ→Nat):Prop where
 rank:∀(s:σ) (l:List Et),rk s≤rk (stp s l).1+1
 call:∀(s:σ) (X:Nat) (W:World) (at_:Int) (p:Pg) (ve vk:Value) (L:List Eq3),0<rk s→Inv s X W→PgR 0 W p ve vk L→OwnN W X ve L→SrtE p.es→p.es.length≤1000→(∀e∈p.es,itemOk e.k e.v=true)→Calls Tryz.prog V (#[.agg (pgc at_ p.lv ve vk).toArray]++cap) W fun e w'=>e=.returned (.bool (stp s p.es).2)∧Inv (stp s p.es).1 w'.heap.size w'∧VKeep N0 Nl [64] W w'
 keep:∀(s:σ) (X:Nat) (W W':World),Inv s X W→KeepT [144] W W'→(∀k,k<Nl→k<W.heap.size→W'.heap[k]?=W.heap[k]?)→Inv s X W'
 enter:∀args w,(callFunc V args).run Tryz.prog w=.ok (.enter V args) w
def EachPost {σ:Type}(stp:σ→List Et→σ × Bool)(Inv:σ→Nat→World→Prop)(N0 Nl Wb S:Nat)(s:σ)(l:List Et)(lk:List UInt8)(w:World)(e:Ending)(w':World):Prop :=
 e=.returned (.bool (stp s l).2)∧(∃X',X'≤w'.heap.size∧Inv (stp s l).1 X' w')∧(∃a n c,Blk w' Wb 144 [.pointer (some ⟨S,0,none⟩),.slice a n c]∧BsP 0 w' a n c lk)∧VKeep N0 Nl [64,144] w w'
theorem codEach0 {σ:Type}(V:Nat)(cap:Array Value)(stp:σ→List Et→σ × Bool)(Inv:σ→Nat→World→Prop)(N0 Nl:Nat)(rk:σ→Nat)(hV:VisOK V cap stp Inv N0 Nl rk)(w:World)(Wb S:Nat)(at_:Int)(ve vk fv:Value)(l:List Et)(L:List Eq3)(la:Option Addr)(ln lc:Nat)(lb:List UInt8)(s:σ)(X:Nat)(hrk:0<rk s)(hI:Inv s X w)(hon:OwnN w X ve L)(hB:Blk w Wb 144 [.pointer (some ⟨S,0,none⟩),.slice la ln lc])(hp:PgR 0 w ⟨0,l,[]⟩ ve vk L)(hl:LfOk l)(hlast:BsP 0 w la ln lc lb)(hlt:Op.bytesLess lb (fstK l)=true)(hfv:∃a n c,fv=.slice a n c)(hN0:N0≤Wb)(hNl:Nl≤N0):
  Calls Tryz.prog 76 #[.pointer (some ⟨Wb,0,none⟩),.agg (pgc at_ 0 ve vk).toArray,fv,.func (.func V) #[] cap] w (EachPost stp Inv N0 Nl Wb S s l (lstK l) w):=by
 obtain⟨fa,fn,fc,rfl⟩:=hfv
 obtain⟨ea,ec,xa,xc,rfl,rfl⟩:=hp.forms
 have hll:=hl.len
 have hBl:=hB.lt
 have W1:Below w.heap.size w (w.alloc (.cells (pgc at_ 0 (.slice ea l.length ec) (.slice xa 0 xc)).toArray 133)):=(Below.refl _ w).alloc (Nat.le_refl _) _
 have k1:Blk (w.alloc (.cells (pgc at_ 0 (.slice ea l.length ec) (.slice xa 0 xc)).toArray 133)) w.heap.size 133 (pgc at_ 0 (.slice ea l.length ec) (.slice xa 0 xc)):=Blk.new w _ _
 generalize hW:w.alloc (.cells (pgc at_ 0 (.slice ea l.length ec) (.slice xa 0 xc)).toArray 133)=Y0 at *
 have hp0:=hp.below W1
 have hCk:=codCheckL Y0 Wb at_ (.pointer (some ⟨S,0,none⟩)) (.slice ea l.length ec) (.slice xa 0 xc) l L la ln lc lb (hB.on W1) hp0 hl.ne (hlast.keep (KeepU.of_below W1)) hlt (by omega)
 have hI0:=hV.keep s X w Y0 hI (KeepT.of_below W1) (lw_below W1)
 have hon0:=hon.on W1
 have HVc:Hid (∀W,Inv s X W→PgR 0 W ⟨0,l,[]⟩ (.slice ea l.length ec) (.slice xa 0 xc) L→OwnN W X (.slice ea l.length ec) L→Calls Tryz.prog V (#[.agg (pgc at_ 0 (.slice ea l.length ec) (.slice xa 0 xc)).toArray]++cap) W fun e w'=>e=.returned (.bool (stp s l).2)∧Inv (stp s l).1 w'.heap.size w'∧VKeep N0 Nl [64] W w'):=fun W hI hp ho=>hV.call s X W at_ ⟨0,l,[]⟩ _ _ L hrk hI hp ho hl.srt (by show l.length≤1000;omega) hl.ok
 have hf:=hV.enter
 have HKp:=mkHid hV.keep
 have HI0:=mkHid hI0
 have HP0:=mkHid hp0
 have HK1:=mkHid k1
 have HW1:=mkHid W1
 have HOn:=mkHid hon0
 clear hI hB hp hl hlast hlt hV hp0 hI0 hon hon0
 unfold pgc at *
 obtain⟨n,hn⟩:∃n,n=l.length:=⟨_,rfl⟩
 have k1:Blk Y0 w.heap.size 133 [.int .i64 at_,.int .i64 0,.slice ea n ec,.slice xa 0 xc]:=by rw[hn];exact k1
 rw[←hn] at hCk HVc HP0 HK1 hW HOn ⊢
 have HN:=mkHid hn
 have d0:=k1.cell 0
 have d1:=k1.cell 1
 have d2:=k1.cell 2
 have d3:=k1.cell 3
 simp only[gZ0,gZ1] at d0 d1 d2 d3
 show Calls Tryz.prog _ #[_,.agg #[.int .i64 at_,.int .i64 0,.slice ea n ec,.slice xa 0 xc],_,_] w _
 have hW':w.alloc (.cells #[.int .i64 at_,.int .i64 0,.slice ea n ec,.slice xa 0 xc] 133)=Y0:=hW
 have hCk:Calls Tryz.prog 115 #[.pointer (some ⟨Wb,0,none⟩),.agg #[.int .i64 at_,.int .i64 0,.slice ea n ec,.slice xa 0 xc]] Y0 _:=hCk
 clear hW k1 hn W1
 go_enter Tryz.func76,Tryz.ntmps76
 go_upto_region 1 with fail
 (try rw[hW'])
 clear hW'
 go_upto_region 2 with(go_at_call 115;refine hCk.mono ?_;rintro r1 y1 ⟨rfl,⟨la1,ln1,lc1,hb1,hls1⟩,hT1,hbl1⟩)
 have hsz1:=HW1.out.size
 have hI1:=HKp.out s X Y0 y1 HI0.out hT1 (fun k hk _=>(hbl1 Nl (by omega) (by omega)).5 k hk)
 have hVc:=HVc.out y1 hI1 (HP0.out.keep (KeepU.zero (KeepO.ofT hT1 (by decide)))) (own_keepO (us:=[64]) (KeepO.ofT hT1 (by decide)) HOn.out (by decide))
 have kp1:=hT1.blk HK1.out (by decide)
 have d0:=kp1.cell 0
 have d1:=kp1.cell 1
 have d2:=kp1.cell 2
 have d3:=kp1.cell 3
 simp only[gZ0,gZ1] at d0 d1 d2 d3
 have HB1:=mkHid (And.intro hb1 (And.intro hls1 hT1))
 have HBl1:=mkHid hbl1
 have HKp1:=mkHid kp1
 have hsz:=HW1.out.size
 have hV01:VKeep N0 Nl [64,144] w y1:=(VKeep.below HW1.out (by omega)).trans ⟨fun B o hB _ ht=>hT1.same B o hB (fun c t fz e hm=>ht c t fz e (by simp at hm;rw[hm];simp)),hT1.more (by decide),hbl1 Nl (by omega) (by omega)⟩
 have HV01:=mkHid hV01
 obtain⟨bb,hbb⟩:∃b,b=(stp s l).2:=⟨_,rfl⟩
 rw[←hbb] at hVc
 have HBb:=mkHid hbb
 clear hb1 hls1 hT1 hbl1 HVc hCk kp1 hI1 hV01 hbb
 cases bb with
 | false =>
  go_wp2_with (go_at_fn V;refine hVc.mono ?_;rintro r2 y2 ⟨rfl,hI2,hk2⟩;have HR2:=mkHid (And.intro hI2 hk2);clear hI2 hk2)
  go_ret
  refine⟨by rw[←HBb.out];rfl,⟨_,Nat.le_refl _,HR2.out.1⟩,⟨la1,ln1,lc1,HR2.out.2.blk HB1.out.1 hN0 (by decide),HB1.out.2.1.keep (KeepU.zero (KeepO.ofT HR2.out.2.t (by decide)))⟩,HV01.out.trans (HR2.out.2.more (by decide))⟩
 | true =>
  go_upto_region 4 with(go_at_fn V;refine hVc.mono ?_;rintro r2 y2 ⟨rfl,hI2,hk2⟩)
  have hD:Below y2.heap.size y2 y2.drew:=(Below.refl _ y2).drew
  have kw2:=hk2.blk HB1.out.1 hN0 (by decide)
  have kp2:=hk2.blk HKp1.out (by omega) (by decide)
  have HCt:Hid (∀W,Below y2.heap.size y2 W→W.cell? ⟨Wb,0,none⟩=some (.pointer (some ⟨S,0,none⟩))∧W.cell? ⟨w.heap.size,0,none⟩=some (.int .i64 at_)∧W.cell? ⟨w.heap.size,1,none⟩=some (.int .i64 0)∧W.cell? ⟨w.heap.size,2,none⟩=some (.slice ea n ec)∧W.cell? ⟨w.heap.size,3,none⟩=some (.slice xa 0 xc)):=fun W hW=>⟨(kw2.on hW).cell 0,(kp2.on hW).cell 0,(kp2.on hW).cell 1,(kp2.on hW).cell 2,(kp2.on hW).cell 3⟩
  have HFd:=pgFind0 y2.drew (.agg #[.pointer (some ⟨S,0,none⟩)]) at_ 0 (.slice ea n ec) xa fa xc fn fc ⟨_,_,_,rfl⟩ ⟨_,rfl⟩
  have HR2:=mkHid (And.intro hI2 (And.intro hk2 (And.intro kw2 kp2)))
  clear hVc hI2 hk2 kw2 kp2
  refine lk0 (fun W=>W.cell? ⟨Wb,0,none⟩=some (.pointer (some ⟨S,0,none⟩))∧W.cell? ⟨w.heap.size,0,none⟩=some (.int .i64 at_)∧W.cell? ⟨w.heap.size,1,none⟩=some (.int .i64 0)∧W.cell? ⟨w.heap.size,2,none⟩=some (.slice ea n ec)∧W.cell? ⟨w.heap.size,3,none⟩=some (.slice xa 0 xc)) 7 (HCt.out _ hD) (fun hHeld=>?_)
  refine lkT 17 0 (.pointer (some ⟨Wb,0,none⟩)) rfl (Or.inl ⟨by rfl,?_⟩) hHeld ?_
  ·intro w hSw;go_simp
  (try simp only[Act.put,sIx,sZ0,sZ1])
  refine lkT 18 1 (.pointer (some ⟨Wb,0,none⟩)) rfl (Or.inl ⟨by rfl,?_⟩) hHeld ?_
  ·intro w hSw;go_simp
  (try simp only[Act.put,sIx,sZ0,sZ1])
  refine lkT 19 2 (.pointer (some ⟨Wb,0,none⟩)) rfl (Or.inl ⟨by rfl,?_⟩) hHeld ?_
  ·intro w hSw;go_simp
  (try simp only[Act.put,sIx,sZ0,sZ1])
  refine lkT 20 3 (.agg #[.pointer (some ⟨S,0,none⟩)]) rfl (Or.inl ⟨by rfl,?_⟩) hHeld ?_
  ·intro w hSw;obtain⟨s0,s1,s2,s3,s4⟩:=hSw;go_simp
  (try simp only[Act.put,sIx,sZ0,sZ1])
  refine lkT 21 4 (.agg #[.int .i64 at_,.int .i64 0,.slice ea n ec,.slice xa 0 xc]) rfl (Or.inl ⟨by rfl,?_⟩) hHeld ?_
  ·intro w hSw;obtain⟨s0,s1,s2,s3,s4⟩:=hSw;go_simp
  (try simp only[Act.put,sIx,sZ0,sZ1])
  refine lkT 22 5 (.slice fa fn fc) rfl (Or.inl ⟨by rfl,?_⟩) hHeld ?_
  ·intro w hSw;go_simp
  (try simp only[Act.put,sIx,sZ0,sZ1])
  refine lk1 6 rfl (fun K hK=>?_)
  go_simp
  refine HFd.mono ?_
  rintro r3 y3 ⟨rfl,hb3⟩
  go_simp
  have hB23:=hD.trans (hb3.mono hD.size)
  refine hK.out _ _ (HCt.out _ hB23) (fun hHeld=>?_)
  (try simp only[Act.put,sIx,sZ0,sZ1])
  clear hK K HFd
  refine lkZ rfl (fun K hK=>?_)
  go_simp
  refine hK.out _ _ ?_
  (try simp only[Exit.then])
  (try simp only[Act.put,sIx,sZ0,sZ1])
  clear hK K hHeld
  obtain⟨_,_,_,_,e3⟩:=HCt.out _ hB23
  have HB23:=mkHid hB23
  clear hB23 hb3 hD HCt
  go_wp2_with fail
  go_loopg [9] 0 (fun kx s9 wr=>s9=.int .i64 0∧0≤kx∧wr=y3)
  case atStart=>exact⟨rfl,Nat.zero_le _,rfl⟩
  case round =>
   obtain⟨rfl,_,rfl⟩:=hrel
   go_wp2_with fail
   go_ret
   have hk23:VKeep N0 Nl [64,144] y2 wr:=VKeep.below HB23.out (by have:=HR2.out.2.2.2.lt;omega)
   refine⟨by rw[←HBb.out];rfl,⟨_,HB23.out.size,HKp.out _ _ _ _ HR2.out.1 (KeepT.of_below HB23.out) (lw_below HB23.out)⟩,⟨la1,ln1,lc1,HR2.out.2.2.1.on HB23.out,(HB1.out.2.1.keep (KeepU.zero (KeepO.ofT HR2.out.2.1.t (by decide)))).keep (KeepU.of_below HB23.out)⟩,(HV01.out.trans (HR2.out.2.1.more (by decide))).trans hk23⟩
def eachF {σ:Type}(stp:σ→List Et→σ × Bool):σ→List (List Et)→σ × Bool
 | s,[]=>(s,true)
 | s,l::ls=>if (stp s l).2=true then eachF stp (stp s l).1 ls else ((stp s l).1,false)
theorem less_nil {k:List UInt8}(h:1≤k.length):Op.bytesLess [] k=true:=by
 cases k with
 | nil=>simp at h
 | cons a k=>rfl
theorem fst_mem {l:List Et}(h:l≠[]):∃e∈l,e.k=fstK l:=by
 cases l with
 | nil=>exact absurd rfl h
 | cons a l=>exact⟨a,List.mem_cons_self,rfl⟩
theorem lst_mem {l:List Et}(h:l≠[]):∃e∈l,e.k=(l.getD (l.length-1) et0).k:=by
 have hp:=List.length_pos_iff.2 h
 have hlt:l.length-1<l.length:=by omega
 refine⟨l[l.length-1],List.getElem_mem _,?_⟩
 rw[List.getD_eq_getElem?_getD,List.getElem?_eq_getElem hlt]
 rfl
theorem next_lt {Q:Ps}(hs:SrtE (entsP Q))(hne:∀p∈Q,p.2≠[]){k:Nat}(hk:k+1<Q.length):Op.bytesLess ((Q.getD k (0,[])).2.getD ((Q.getD k (0,[])).2.length-1) et0).k (fstK (Q.getD (k+1) (0,[])).2)=true:=by
 have h1:Q.getD k (0,[])=Q[k]:=by simp[show k<Q.length by omega]
 have h2:Q.getD (k+1) (0,[])=Q[k+1]:=by simp[hk]
 have e:Q=Q.take k++Q[k]::Q[k+1]::Q.drop (k+1+1):=by
  rw[List.getElem_cons_drop,List.getElem_cons_drop,List.take_append_drop]
 rw[e,entsP_append,entsP,entsP] at hs
 have h3:=(List.pairwise_append.1 hs).2.1
 have h4:=(List.pairwise_append.1 h3).2.2
 rw[h1,h2]
 obtain⟨a,ha,ha2⟩:=lst_mem (hne Q[k] (List.getElem_mem _))
 obtain⟨b,hb,hb2⟩:=fst_mem (hne Q[k+1] (List.getElem_mem _))
 rw[←ha2,←hb2]
 exact h4 a ha b (List.mem_append_left _ hb)
theorem each_drop {σ:Type}(stp:σ→List Et→σ × Bool)(s:σ)(Q:Ps){k:Nat}(hk:k<Q.length):eachF stp s ((Q.map (·.2)).drop k)=if (stp s (Q.getD k (0,[])).2).2=true then eachF stp (stp s (Q.getD k (0,[])).2).1 ((Q.map (·.2)).drop (k+1)) else ((stp s (Q.getD k (0,[])).2).1,false):=by
 have h1:Q.getD k (0,[])=Q[k]:=by simp[hk]
 rw[List.drop_eq_getElem_cons (by simpa using hk),eachF,h1,List.getElem_map]
end
end Go.Proofs.YtpecobmfabmpkaaGreatDoor
