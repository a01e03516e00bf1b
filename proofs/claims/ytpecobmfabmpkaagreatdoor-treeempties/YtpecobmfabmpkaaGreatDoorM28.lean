/- PtZ PuA PuB InsB InsE -/
import Derived.Test.YtpecobmfabmpkaaGreatDoorM27
import Derived.Lib.Overlaps
set_option maxRecDepth 20000
set_option maxHeartbeats 4000000
namespace Go.Proofs.YtpecobmfabmpkaaGreatDoor
open Go.RowKit
theorem OwnN.less {w:World}{base g cap:Nat}{L:List Eq3}(h:OwnN w base (.slice (some ⟨g,0,none⟩) L.length cap) L)(i:Nat)(hi:i<L.length)(ty:TypeId):
  ∃w',(Builtin.append_ #[50,50] ty #[.slice (some ⟨g,0,none⟩) i cap,.slice (cutN (some ⟨g,0,none⟩) cap (i+1)) (L.length-(i+1)) (cap-(i+1))]).run Tryz.prog w=.ok (.slice (some ⟨g,0,none⟩) (L.length-1) cap) w'∧OwnN w' base (.slice (some ⟨g,0,none⟩) (L.length-1) cap) (L.take i++L.drop (i+1))∧w.grownBy w' (some g):=by
 obtain⟨i0,hif,hz0,hz1,hz2⟩:=info_parts infoN
 obtain⟨h1,h2⟩:=h
 rcases h2 with⟨he,_⟩|⟨g',cap',cur,he,hb,hg,hle,hmax,hsz,htk⟩
 ·injection he with e1 _ _;cases e1
 ·injection he with e1 e2 e3
  have e4:=Option.some.inj e1
  injection e4 with e5 _ _
  subst e5 e3
  have hll:(L.take i++L.drop (i+1)).length=L.length-1:=by rw[List.length_append,List.length_take,List.length_drop];omega
  have hcl:cur.toList.length=cur.size:=Array.length_toList
  have hnl:(ets (L.drop (i+1))).length=(L.length-(i+1)) * 2:=by rw[ets_length,List.length_drop]
  have htk2:cur.toList.take (L.length * 2)=ets L:=htk
  have hsrc:SrcN w (cutN (some ⟨g,0,none⟩) cap (i+1)) (L.length-(i+1)) (cap-(i+1)) (L.drop (i+1)):=(OwnN.src (w:=w) (base:=base) ⟨h1,.inr ⟨g,cap,cur,rfl,hb,hg,hle,hmax,hsz,htk⟩⟩ rfl (i+1) hi).2
  obtain⟨ad,had⟩:∃ad,cutN (some ⟨g,0,none⟩) cap (i+1)=some ad:=by unfold cutN;split<;>exact⟨_,rfl⟩
  rw[had] at hsrc ⊢
  have hr:=run_append_room (P:=Tryz.prog) w 50 ty 64 i0 Tryz.underlying50 hif g i cap cur hg ad (L.length-(i+1)) (cap-(i+1)) (ets (L.drop (i+1))) (by rw[hz1];exact hnl) (hsrc.cells ad rfl) (ets_one _) (by omega) (by rw[hz1,hnl];rw[hsz];have:L.length * 2≤cap * 2:=Nat.mul_le_mul_right _ hle;omega)
  rw[hz1,show i+(L.length-(i+1))=L.length-1 by omega] at hr
  have htake:cur.toList.take (i * 2)=ets (L.take i):=by
   rw[ets_take,←htk2,List.take_take]
   congr 1
   omega
  refine⟨_,hr,?_,⟨rfl,rfl,rfl,by simp[World.setRow],fun k _ hk=>setRow_other w g k _ (fun e=>hk (by rw[e]))⟩⟩
  unfold OwnN
  rw[hll]
  refine⟨by rw[ets_length,hll],.inr ⟨g,cap,(cur.toList.take (i * 2)++ets (L.drop (i+1))++cur.toList.drop (i * 2+(ets (L.drop (i+1))).length)).toArray,rfl,hb,?_,by omega,hmax,?_,?_⟩⟩
  ·exact Blk.row (cs:=cur.toList) (by unfold Blk;rw[hg]) _
  ·rw[List.size_toArray,List.length_append,List.length_append,htake,ets_length,hnl,List.length_take,List.length_drop,hcl,hsz]
   have:L.length * 2≤cap * 2:=Nat.mul_le_mul_right _ hle
   omega
  ·rw[List.toList_toArray,htake,ets_append,List.take_left' (by rw[List.length_append,ets_length,hnl,List.length_take];omega)]
theorem OwnN.wipe {w:World}{base g cap:Nat}{L:List Eq3}(h:OwnN w base (.slice (some ⟨g,0,none⟩) L.length cap) L)(hc:L.length<cap)(c:Nat)(ty:TypeId):
  ∃w',(Builtin.clear_ #[50] ty #[.slice (some ⟨g,L.length * 2,none⟩) 1 c]).run Tryz.prog w=.ok (.tuple #[]) w'∧OwnN w' base (.slice (some ⟨g,0,none⟩) L.length cap) L∧w.grownBy w' (some g):=by
 obtain⟨h1,h2⟩:=h
 rcases h2 with⟨he,_⟩|⟨g',cap',cur,he,hb,hg,hle,hmax,hsz,htk⟩
 ·injection he with e1 _ _;cases e1
 ·injection he with e1 e2 e3
  have e4:=Option.some.inj e1
  injection e4 with e5 _ _
  subst e5 e3
  have hcl:cur.toList.length=cur.size:=Array.length_toList
  have hzc:(Builtin.zeroCells (Value.agg #[Value.slice none 0 0,Value.slice none 0 0]).cells 1).toList=[.slice none 0 0,.slice none 0 0]:=by kernel_rfl
  have hst:(storeCells ⟨g,L.length * 2,none⟩ [.slice none 0 0,.slice none 0 0] 0).run Tryz.prog w=.ok () (w.setRow g (cur.toList.take (L.length * 2)++[Value.slice none 0 0,Value.slice none 0 0]++cur.toList.drop (L.length * 2+2)).toArray):=run_storeCells_at Tryz.prog g (L.length * 2) 64 [.slice none 0 0,.slice none 0 0] 0 cur w hg (by rw[hsz];have:(L.length+1) * 2≤cap * 2:=Nat.mul_le_mul_right _ hc;simp;omega) (by intro v hv;simp at hv;rw[hv];rfl)
  have hlen:(L.length+1) * 2≤cap * 2:=Nat.mul_le_mul_right _ hc
  refine⟨w.setRow g (cur.toList.take (L.length * 2)++[Value.slice none 0 0,Value.slice none 0 0]++cur.toList.drop (L.length * 2+2)).toArray,?_,?_,⟨rfl,rfl,rfl,by simp[World.setRow],fun k _ hk=>setRow_other w g k _ (fun e=>hk (by rw[e]))⟩⟩
  ·simp[Builtin.clear_,run_underlying Tryz.underlying50,hzc,hst,Result.andThen]
  ·unfold OwnN
   refine⟨h1,.inr ⟨g,cap,(cur.toList.take (L.length * 2)++[Value.slice none 0 0,Value.slice none 0 0]++cur.toList.drop (L.length * 2+2)).toArray,rfl,hb,Blk.row (cs:=cur.toList) (by unfold Blk;rw[hg]) _,hle,hmax,?_,?_⟩⟩
   ·rw[List.size_toArray,List.length_append,List.length_append,List.length_take,List.length_drop,hcl,hsz]
    simp
    omega
   ·rw[List.toList_toArray,List.append_assoc,List.take_left' (by rw[List.length_take,hcl,hsz];omega)]
    exact htk
theorem slNm (a:Option Addr)(n cap f t:Nat)(h1:f≤t)(h2:t≤n)(h3:n≤cap)(w:World):∃v,(Instr.slice 50 (.slice a n cap) (some (.int .i64 (f:Int))) (some (.int .i64 (t:Int))) (some (.int .i64 (n:Int)))).run Tryz.prog w=.ok v w:=by
 have he:Tryz.prog.elem 50=64:=by kernel_rfl
 have hz:(sizeOf 64).run Tryz.prog w=.ok 2 w:=by
  obtain⟨i0,hi,hz0,hz1,hz2⟩:=info_parts infoN
  simp[sizeOf,typeInfo,hi,hz1]
 rw[run_slice_lhm w 50 _ n cap (by rw[he];exact Tryz.underlying50) .i64 .i64 .i64 (f:Int) (t:Int) (n:Int) (by omega) (by omega) (by omega) (by omega),he,hz]
 exact⟨_,rfl⟩
theorem codDeleteN (w:World)(base g cap n i i1:Nat)(hi1:i+1=i1)(L:List Eq3)(hn:L.length=n)(h:OwnN w base (.slice (some ⟨g,0,none⟩) n cap) L)(hi:i<n)(hc:n≤cap)(hb:n≤1000):
  Calls Tryz.prog 107 #[.slice (some ⟨g,0,none⟩) n cap,.int .i64 (i:Int),.int .i64 (i1:Int)] w fun e w'=>e=.returned (.slice (some ⟨g,0,none⟩) (n-1) cap)∧OwnN w' base (.slice (some ⟨g,0,none⟩) (n-1) cap) (L.take i++L.drop (i+1))∧w.grownBy w' (some g):=by
 have hm:=slNm (some ⟨g,0,none⟩) n cap i i1 (by omega) (by omega) hc
 obtain⟨vm,hvm⟩:=hm w
 have hOd:OwnN w.drew base (.slice (some ⟨g,0,none⟩) L.length cap) L:=by rw[hn];exact h.on (Below.drew (Below.refl _ w))
 obtain⟨Y2,hr2,hO2,hg2⟩:=hOd.less i (by omega) 50
 have hll:(L.take i++L.drop (i+1)).length=n-1:=by rw[List.length_append,List.length_take,List.length_drop];omega
 obtain⟨n1,hn1⟩:∃n1,n-1=n1:=⟨_,rfl⟩
 rw[hn,hn1,hi1] at hr2
 rw[hn,hn1] at hO2
 rw[hn1] at hll ⊢
 have hO2':OwnN Y2 base (.slice (some ⟨g,0,none⟩) (L.take i++L.drop (i+1)).length cap) (L.take i++L.drop (i+1)):=by rw[hll];exact hO2
 obtain⟨Y3,hr3,hO3,hg3⟩:=hO2'.wipe (by rw[hll];omega) (cap-n1) 0
 rw[hll] at hr3 hO3
 have hsh:=fun W=>slNh (some ⟨g,0,none⟩) n cap i (by omega) (.inr ⟨g,rfl⟩) W
 have hsl:=fun W=>slNl (some ⟨g,0,none⟩) n cap i1 (by omega) W
 have hsb:=fun W=>slNb (some ⟨g,0,none⟩) n1 cap n1 n (by omega) hc W
 have hcu:cutN (some ⟨g,0,none⟩) cap n1=some ⟨g,n1 * 2,none⟩:=by unfold cutN;rw[if_neg (by omega)];simp[Addr.add_lit]
 rw[hcu,show n-n1=1 by omega] at hsb
 have HG:Hid (w.grownBy Y3 (some g)):=by
  have h0:w.grownBy w.drew (some g):=⟨rfl,rfl,rfl,Nat.le_refl _,fun _ _ _=>rfl⟩
  exact grown_tr (grown_tr h0 hg2) hg3
 have HO3:=mkHid hO3
 have HR2:=mkHid hr2
 have HR3:=mkHid hr3
 have hne:¬(i:Int)=(i1:Int):=by omega
 clear hm hOd hO2 hO2' hg2 hg3 hO3 hr2 hr3 h hcu hll hi1 hn1 hn
 generalize cutN (some ⟨g,0,none⟩) cap i1=ca at *
 generalize L.take i++L.drop (i+1)=L' at *
 generalize n-i1=m1 at *
 generalize cap-i1=m2 at *
 go_enter Tryz.func107,Tryz.ntmps107
 go_wp2_with fail
 refine lk0 (fun _=>True) 7 trivial (fun hHeld=>?_)
 refine lkT 20 0 ?_ rfl (Or.inl ⟨by rfl,?_⟩) hHeld ?_
 rotate_left
 ·intro w hSw;go_simp;with_reducible rfl
 (try simp only[Act.put,sIx,sZ0,sZ1])
 refine lkT 21 1 ?_ rfl (Or.inl ⟨by rfl,?_⟩) hHeld ?_
 rotate_left
 ·intro w hSw;go_simp;with_reducible rfl
 (try simp only[Act.put,sIx,sZ0,sZ1])
 refine lkT 22 2 (.slice (some ⟨g,0,none⟩) i cap) rfl (Or.inl ⟨by rfl,?_⟩) hHeld ?_
 ·intro w hSw;go_simp
 (try simp only[Act.put,sIx,sZ0,sZ1])
 refine lkT 23 3 ?_ rfl (Or.inl ⟨by rfl,?_⟩) hHeld ?_
 rotate_left
 ·intro w hSw;go_simp;with_reducible rfl
 (try simp only[Act.put,sIx,sZ0,sZ1])
 refine lkT 24 4 ?_ rfl (Or.inl ⟨by rfl,?_⟩) hHeld ?_
 rotate_left
 ·intro w hSw;go_simp;with_reducible rfl
 (try simp only[Act.put,sIx,sZ0,sZ1])
 refine lkT 25 5 (.slice ca m1 m2) rfl (Or.inl ⟨by rfl,?_⟩) hHeld ?_
 ·intro w hSw;go_simp
 (try simp only[Act.put,sIx,sZ0,sZ1])
 refine lk1 6 rfl (fun K hK=>?_)
 refine step_app_run w.drew (by rfl) _ _ 50 50 50 (by rfl) (by rfl) _ _ (by rfl) (by rfl) HR2.out 26 rfl ?_
 refine hK.out _ _ trivial (fun hHeld=>?_)
 (try simp only[Act.put,sIx,sZ0,sZ1])
 clear hK K
 refine lkZ rfl (fun K hK=>?_)
 go_simp
 refine hK.out _ _ ?_
 simp only[Exit.then]
 (try simp only[Act.put,sIx,sZ0,sZ1])
 clear hK K hHeld
 have hr3:=HR3.out
 go_wp2_with fail
 go_ret
 exact⟨rfl,HO3.out,HG.out⟩
theorem ets_set (L:List Eq3)(k:Nat)(x:Eq3):ets (L.set k x)=((ets L).set (k * 2) (.slice x.2.a x.1.k.length x.2.c)).set (k * 2+1) (.slice x.2.b x.1.v.length x.2.d):=by
 induction L generalizing k with
 | nil=>rfl
 | cons y L ih =>
  cases k with
  | zero=>rfl
  | succ k =>
   rw[List.set_cons_succ,ets,ets,ih]
   unfold etc2
   rw[show (k+1) * 2=k * 2+1+1 by omega]
   rfl
theorem OwnN.put {w:World}{base g cap:Nat}{L:List Eq3}(h:OwnN w base (.slice (some ⟨g,0,none⟩) L.length cap) L)(k:Nat)(x:Eq3):
  OwnN ((w.setCell ⟨g,k * 2,none⟩ (.slice x.2.a x.1.k.length x.2.c)).setCell ⟨g,k * 2+1,none⟩ (.slice x.2.b x.1.v.length x.2.d)) base (.slice (some ⟨g,0,none⟩) L.length cap) (L.set k x)∧w.grownBy ((w.setCell ⟨g,k * 2,none⟩ (.slice x.2.a x.1.k.length x.2.c)).setCell ⟨g,k * 2+1,none⟩ (.slice x.2.b x.1.v.length x.2.d)) (some g):=by
 refine⟨?_,grown_tr (grown_set w g (k * 2) _) (grown_set _ g (k * 2+1) _)⟩
 obtain⟨h1,h2⟩:=h
 rcases h2 with⟨he,_⟩|⟨g',cap',cur,he,hb,hg,hle,hmax,hsz,htk⟩
 ·injection he with e1 _ _;cases e1
 ·injection he with e1 e2 e3
  have e4:=Option.some.inj e1
  injection e4 with e5 _ _
  subst e5 e3
  have hB:Blk w g 64 cur.toList:=by unfold Blk;rw[hg]
  have hB2:=(hB.set (k * 2) (.slice x.2.a x.1.k.length x.2.c)).set (k * 2+1) (.slice x.2.b x.1.v.length x.2.d)
  have hll:(L.set k x).length=L.length:=List.length_set
  unfold OwnN
  rw[hll]
  refine⟨by rw[ets_length,hll],.inr ⟨g,cap,((cur.toList.set (k * 2) (.slice x.2.a x.1.k.length x.2.c)).set (k * 2+1) (.slice x.2.b x.1.v.length x.2.d)).toArray,rfl,hb,hB2,hle,hmax,?_,?_⟩⟩
  ·rw[List.size_toArray,List.length_set,List.length_set,Array.length_toList,hsz]
  ·have htk2:cur.toList.take (L.length * 2)=ets L:=htk
   rw[List.toList_toArray,List.take_set,List.take_set,htk2,ets_set]
theorem list_copy_run {ops:Array Oper}{rest:List Oper}{o:Oper}{a:Act}{Q:Exit→Act→World→Prop}(w:World)(hgd:o.guard=none)(s x:Operand)(t u ty:TypeId)
  (ho:o.op=.call { callee:=.builtin .copy,args:=#[s,x],argTypes:=#[t,u] }) (hty:o.type=ty) (v v2:Value) (hs:a.eval s=v) (hx:a.eval x=v2) {v':Value} {w':World}
  (hr:(Builtin.copy_ #[t,u] ty #[v,v2]).run Tryz.prog w=.ok v' w') (h:wpList Tryz.prog ops Q rest (a.put o.dst v') w'):wpList Tryz.prog ops Q (o::rest) a w :=
 wpList_plain hgd fun _ hK=>by
  subst hty
  unfold Oper.wp execOp
  simp only[ho,resolve,invoke,builtin,Sem.run_bind,Sem.run_pure,Result.andThen_ok,List.map_toArray,List.map_cons,List.map_nil,hs,hx,hr]
  exact hK _ _ h
theorem step_copy_run {ops:Array Oper}{o:Oper}{a:Act}{K:Act→World→Prop}{Q:Exit→Act→World→Prop}{E:Prop}(w:World)(hgd:o.guard=none)(s x:Operand)(t u ty:TypeId)
  (ho:o.op=.call { callee:=.builtin .copy,args:=#[s,x],argTypes:=#[t,u] }) (hty:o.type=ty) (v v2:Value) (hs:a.eval s=v) (hx:a.eval x=v2) {v':Value} {w':World}
  (hr:(Builtin.copy_ #[t,u] ty #[v,v2]).run Tryz.prog w=.ok v' w') (d:Tmp) (hd:o.dst=some d) (h:K (a.put (some d) v') w'):if Region.wanted o (yielded ops a.tmps)=true then Oper.wp Tryz.prog o a w K Q else E:=by
 have hw:Region.wanted o (yielded ops a.tmps)=true:=by simp[Region.wanted,hgd]
 rw[if_pos hw]
 subst hty
 unfold Oper.wp execOp
 simp only[ho,resolve,invoke,builtin,Sem.run_bind,Sem.run_pure,Result.andThen_ok,List.map_toArray,List.map_cons,List.map_nil,hs,hx,hr]
 rw[←hd] at h
 exact h
abbrev rtE13:RT Eq3:=⟨50,64,2,48,.agg #[.slice none 0 0,.slice none 0 0],fun x=>etc2 x.1 x.2⟩
theorem okE13:RtOK rtE13 :=
 ⟨Tryz.underlying50,by kernel_rfl,rfl,by intro u hu;simp[Value.cells] at hu;rcases hu with rfl|rfl<;>rfl,by decide,by decide,fun _=>rfl,by
  intro x u hu
  simp only[etc2,List.mem_cons,List.not_mem_nil,or_false] at hu
  rcases hu with rfl|rfl<;>rfl⟩
abbrev rtI13:RT Int:=⟨58,3,1,8,.int .i64 0,fun z=>[.int .i64 z]⟩
theorem okI13:RtOK rtI13 :=
 ⟨Tryz.underlying58,by kernel_rfl,rfl,by intro u hu;simp[Value.cells] at hu;subst hu;rfl,by decide,by decide,fun _=>rfl,by
  intro x u hu
  simp only[List.mem_cons,List.not_mem_nil,or_false] at hu
  subst hu;rfl⟩
theorem ets_cells:∀l:List Eq3,ets l=cellsC rtE13 l
 | []=>rfl
 | x::l=>by rw[ets,ets_cells l];rfl
theorem OwnN.c {w:World}{base:Nat}{v:Value}{l:List Eq3}(h:OwnN w base v l):OwnRw rtE13 w base v l:=by unfold OwnRw;rw[←ets_cells];exact h
theorem OwnRw.n13 {w:World}{base:Nat}{v:Value}{l:List Eq3}(h:OwnRw rtE13 w base v l):OwnN w base v l:=by unfold OwnN;rw[ets_cells];exact h
theorem zv_cells:∀l:List Int,zv l=cellsC rtI13 l
 | []=>rfl
 | x::l=>by
  have:=zv_cells l
  show _::zv l=_
  rw[this];rfl
theorem OwnZ.c {w:World}{base:Nat}{v:Value}{l:List Int}(h:OwnZ w base v l):OwnRw rtI13 w base v l:=by unfold OwnRw;rw[←zv_cells];exact h
theorem OwnRw.z13 {w:World}{base:Nat}{v:Value}{l:List Int}(h:OwnRw rtI13 w base v l):OwnZ w base v l:=by unfold OwnZ;rw[zv_cells];exact h
theorem frozen_end {w:World}{B t:Nat}{cs:List Value}(h:Blk w B t cs):w.frozen? { block:=B,off:=cs.length }=false:=by
 have:=h.frozen cs.length
 exact this
theorem overlapsE (w:World)(B g o:Nat)(cs:List Value)(cur:Array Value)(la ca lb cb:Nat)(hB:Blk w B 64 cs)(hg:w.heap[g]?=some (.cells cur 64 (0,0)))(hc:cur.size≠0)(hne:B≠g):
  (callFunc 178 #[.slice (some ⟨B,0,none⟩) la ca,.slice (some ⟨g,o,none⟩) lb cb]).run Tryz.prog w=.ok (.value (.bool false)) w:=by
 have hz:∀W,(Go.sizeOf 64).run Tryz.prog W=.ok 2 W:=fun W=>by
  obtain⟨i0,hi,hz0,hz1,hz2⟩:=info_parts infoN
  simp[sizeOf,typeInfo,hi,hz1]
 rw[run_callFunc_extern Tryz.func178 (by kernel_rfl) (by kernel_rfl) (by kernel_rfl) (e:=Extern.SlicesOverlaps.overlaps #[50,50] #[4]) (by kernel_rfl),
  Lib.run_overlaps_apart w 50 4 64 Tryz.underlying50 2 hz ⟨B,0,none⟩ ⟨g,o,none⟩ la ca lb cb hne 64 64 cs.length cur.size (by unfold World.shape?;rw[hB];simp) (by unfold World.shape?;rw[hg]) hc (hB.frozen 0) (frozen_end hB)]
 rfl
theorem overlapsI (w:World)(B g o:Nat)(cs:List Value)(cur:Array Value)(la ca lb cb:Nat)(hB:Blk w B 3 cs)(hg:w.heap[g]?=some (.cells cur 3 (0,0)))(hc:cur.size≠0)(hne:B≠g):
  (callFunc 147 #[.slice (some ⟨B,0,none⟩) la ca,.slice (some ⟨g,o,none⟩) lb cb]).run Tryz.prog w=.ok (.value (.bool false)) w:=by
 have hz:∀W,(Go.sizeOf 3).run Tryz.prog W=.ok 1 W:=fun W=>by
  obtain⟨i0,hi,hz0,hz1,hz2⟩:=info_parts okI13.hi
  simp[sizeOf,typeInfo,hi,hz1]
 rw[run_callFunc_extern Tryz.func147 (by kernel_rfl) (by kernel_rfl) (by kernel_rfl) (e:=Extern.SlicesOverlaps.overlaps #[58,58] #[4]) (by kernel_rfl),
  Lib.run_overlaps_apart w 58 4 3 Tryz.underlying58 1 hz ⟨B,0,none⟩ ⟨g,o,none⟩ la ca lb cb hne 3 3 cs.length cur.size (by unfold World.shape?;rw[hB];simp) (by unfold World.shape?;rw[hg]) hc (hB.frozen 0) (frozen_end hB)]
 rfl
theorem codInsertE (w:World)(base:Nat)(a:Option Addr)(n cap i B:Nat)(L:List Eq3)(x:Eq3)(hn:L.length=n)(h:OwnRw rtE13 w base (.slice a n cap) L)(hB:Blk w B 64 (rtE13.c x))(hi:i≤n)(hb:n≤1000)(hc:cap≤9223372036854775807)(hlo:base≤w.heap.size)(hne:∀g,a=some ⟨g,0,none⟩→B≠g):
  Calls Tryz.prog 144 #[.slice a n cap,.int .i64 (i:Int),.slice (some ⟨B,0,none⟩) 1 1] w fun e w'=>(∃v',e=.returned v'∧OwnRw rtE13 w' base v' (L.take i++x::L.drop i))∧w.grownBy w' (Value.slice a n cap).ownBlock:=by
 rcases Nat.lt_or_ge i n with hin|hin
 rotate_left
 ·obtain rfl:i=n:=by omega
  have hsl:∀W,(Instr.slice 50 (.slice a i cap) (some (.int .i64 (i:Int))) none none).run Tryz.prog W=.ok (.slice (cutC rtE13 a cap i) (i-i) (cap-i)) W:=fun W=>slLC okE13 a i cap i (Nat.le_refl _) W
  have HO:=mkHid h
  have HS:Hid (SrcC rtE13 w (some ⟨B,0,none⟩) 1 1 [x]):=hB.srcC
  have HLn:Hid (L.take i++x::L.drop i=L++[x]):=by unfold Hid;rw[←hn,List.take_length,List.drop_length]
  have HLl:=mkHid hn
  rw[HLn.out]
  clear h hB hn
  generalize cutC rtE13 a cap i=ca at *
  generalize i-i=c0 at *
  generalize cap-i=cc at *
  go_enter Tryz.func144,Tryz.ntmps144
  go_wp2_with (at_builtin;refine list_appC okE13 _ rfl (.tmp 23) (.tmp 24) rfl base _ L rfl HO.out (some ⟨B,0,none⟩) 1 1 [x] rfl HS.out (by rw[HLl.out];show (i+1) * 48≤_;omega) hlo ?_;intro v2 V2 ho2 hg2;have HO2:=mkHid ho2;have HG2:=mkHid hg2;clear ho2 hg2)
  go_ret
  exact⟨⟨_,rfl,HO2.out⟩,HG2.out⟩
 obtain⟨a',cap',he,hle,-,hcl⟩:=h.form okE13
 injection he with e1 e2 e3
 subst e1 e3
 clear e2
 obtain⟨g,rfl,hg0,hgl,-⟩:=hcl (by omega)
 have hBg:=hne g rfl
 have hlc:n≤cap:=by omega
 have hne1:((i:Int)==(n:Int))=false:=by rw[beq_eq_false_iff_ne];omega
 have hsl1:∀W,(Instr.slice 50 (.slice (some ⟨g,0,none⟩) n cap) (some (.int .i64 (i:Int))) none none).run Tryz.prog W=.ok (.slice (cutC rtE13 (some ⟨g,0,none⟩) cap i) (n-i) (cap-i)) W:=fun W=>slLC okE13 (some ⟨g,0,none⟩) n cap i hi W
 by_cases hroom:n+1≤cap
 ·have hgt:decide ((cap:Int)<(n:Int)+1)=false:=decide_eq_false (by omega)
  obtain⟨w1,w2,r1,r2,ho,hgb⟩:=ins_room okE13 (w:=w.drew) (h.on (Below.drew (Below.refl _ w))) hin hroom (show Blk w.drew B 64 (rtE13.c x) from hB) hBg 3 3
  have hslH:∀W,(Instr.slice 50 (.slice (some ⟨g,0,none⟩) n cap) none (some (.int .i64 ((n:Int)+1))) none).run Tryz.prog W=.ok (.slice (some ⟨g,0,none⟩) (n+1) cap) W:=fun W=>slHC okE13 (some ⟨g,0,none⟩) n cap (n+1) hroom W
  have hslA:∀W,(Instr.slice 50 (.slice (some ⟨g,0,none⟩) (n+1) cap) (some (.int .i64 ((i:Int)+1))) none none).run Tryz.prog W=.ok (.slice (cutC rtE13 (some ⟨g,0,none⟩) cap (i+1)) (n+1-(i+1)) (cap-(i+1))) W:=fun W=>slLC okE13 (some ⟨g,0,none⟩) (n+1) cap (i+1) (by omega) W
  have hslB:∀W,(Instr.slice 50 (.slice (some ⟨g,0,none⟩) (n+1) cap) (some (.int .i64 (i:Int))) none none).run Tryz.prog W=.ok (.slice (cutC rtE13 (some ⟨g,0,none⟩) cap i) (n+1-i) (cap-i)) W:=fun W=>slLC okE13 (some ⟨g,0,none⟩) (n+1) cap i (by omega) W
  have hc1:cutC rtE13 (some ⟨g,0,none⟩) cap (i+1)=some ⟨g,(i+1) * rtE13.k,none⟩:=cutC_some (by omega)
  obtain⟨cur,-,hgc,-,-,-,hsz,-⟩:=h.cur
  have hov:∀lb cb,(callFunc 178 #[.slice (some ⟨B,0,none⟩) 1 1,.slice (cutC rtE13 (some ⟨g,0,none⟩) cap (i+1)) lb cb]).run Tryz.prog w=.ok (.value (.bool false)) w:=fun lb cb=>by
   rw[hc1]
   exact overlapsE w B g ((i+1) * rtE13.k) (rtE13.c x) cur 1 1 lb cb hB hgc (by rw[hsz];show cap * 2≠0;omega) hBg
  have hw1:IntKind.i64.wrap ((i:Int)+1)=(i:Int)+1:=wrapi64_in _ (by omega) (by omega)
  have HO:=mkHid ho
  have HG:=mkHid hgb
  have HR1:=mkHid r1
  have HR2:=mkHid r2
  have Hnl:=mkHid hn
  clear h hB hn ho hgb r1 r2 hcl hg0 hgl hlo hle hne hroom hc1 hgc hsz
  generalize cutC rtE13 (some ⟨g,0,none⟩) cap i=cA at *
  generalize cutC rtE13 (some ⟨g,0,none⟩) cap (i+1)=cB at *
  generalize n-i=q1 at *
  generalize cap-i=q2 at *
  generalize n+1-(i+1)=q3 at *
  generalize cap-(i+1)=q4 at *
  generalize n+1-i=q5 at *
  generalize L.take i++x::L.drop i=L' at *
  go_enter Tryz.func144,Tryz.ntmps144
  go_upto_region 15 with fail
  refine lk0 (fun _=>True) 8 trivial (fun hHeld=>?_)
  refine lkC [4] 69 0 ?_ rfl (Or.inl ⟨by rfl,?_⟩) hHeld ?_
  rotate_left
  ·intro w hSw;go_simp;with_reducible rfl
  (try simp only[Act.put,sIx,sZ0,sZ1])
  refine lkC [3,4] 70 1 ?_ rfl (Or.inl ⟨by rfl,?_⟩) hHeld ?_
  rotate_left
  ·intro w hSw;go_simp;with_reducible rfl
  (try simp only[Act.put,sIx,sZ0,sZ1])
  refine lkC [3,4] 71 2 ?_ rfl (Or.inl ⟨by rfl,?_⟩) hHeld ?_
  rotate_left
  ·intro w hSw;go_simp;with_reducible rfl
  (try simp only[Act.put,sIx,sZ0,sZ1])
  refine lkC [4] 72 3 (.int .i64 ((i:Int)+1)) rfl (Or.inl ⟨by rfl,?_⟩) hHeld ?_
  ·intro w hSw;go_simp<;>(try rw[hw1])
  (try simp only[Act.put,sIx,sZ0,sZ1])
  refine lkC [] 73 4 (.slice cB q3 q4) rfl (Or.inl ⟨by rfl,?_⟩) hHeld ?_
  ·intro w hSw;go_simp
  (try simp only[Act.put,sIx,sZ0,sZ1])
  refine lkC [7] 74 5 ?_ rfl (Or.inl ⟨by rfl,?_⟩) hHeld ?_
  rotate_left
  ·intro w hSw;go_simp;with_reducible rfl
  (try simp only[Act.put,sIx,sZ0,sZ1])
  refine lkC [7] 75 6 ?_ rfl (Or.inl ⟨by rfl,?_⟩) hHeld ?_
  rotate_left
  ·intro w hSw;go_simp;with_reducible rfl
  (try simp only[Act.put,sIx,sZ0,sZ1])
  refine lkC [] 76 7 (.slice cA q5 q2) rfl (Or.inl ⟨by rfl,?_⟩) hHeld ?_
  ·intro w hSw;go_simp
  (try simp only[Act.put,sIx,sZ0,sZ1])
  refine lkZ rfl (fun K hK=>?_)
  refine step_copy_run w.drew (by rfl) _ _ 50 50 3 (by rfl) (by rfl) _ _ (by rfl) (by rfl) HR1.out 77 rfl ?_
  refine hK.out _ _ ?_
  simp only[Exit.then]
  (try simp only[Act.put,sIx,sZ0,sZ1])
  clear hK K hHeld
  go_wp2_with (refine list_copy_run _ rfl _ _ _ _ _ rfl rfl _ _ rfl rfl HR2.out ?_)
  go_ret
  exact⟨⟨_,rfl,HO.out⟩,(grown_tr (⟨rfl,rfl,rfl,Nat.le_refl _,fun _ _ _=>rfl⟩:w.grownBy w.drew (some g)) HG.out)⟩
 ·obtain rfl:cap=n:=by omega
  have hgt:decide ((cap:Int)<(cap:Int)+1)=true:=decide_eq_true (by omega)
  obtain⟨w1,w2,w3,cap2,H,hcap2,r0,r1,r2,ho,hbe⟩:=ins_grow okE13 3 Tryz.underlying3 h hin hB hlo (by show (cap+1) * 48≤_;omega) 50 3 3
  have hsub:((cap+1-i:Nat):Int)=(cap:Int)+1-(i:Int):=by omega
  rw[hsub] at r0
  have hslH:∀W,(Instr.slice 50 (.slice (some ⟨g,0,none⟩) cap cap) none (some (.int .i64 (i:Int))) none).run Tryz.prog W=.ok (.slice (some ⟨g,0,none⟩) i cap) W:=fun W=>slHC okE13 (some ⟨g,0,none⟩) cap cap i (by omega) W
  have hslA:∀W,(Instr.slice 50 (.slice (some ⟨H,0,none⟩) (cap+1) cap2) (some (.int .i64 (i:Int))) none none).run Tryz.prog W=.ok (.slice (cutC rtE13 (some ⟨H,0,none⟩) cap2 i) (cap+1-i) (cap2-i)) W:=fun W=>slLC okE13 (some ⟨H,0,none⟩) (cap+1) cap2 i (by omega) W
  have hslB:∀W,(Instr.slice 50 (.slice (some ⟨H,0,none⟩) (cap+1) cap2) (some (.int .i64 ((i:Int)+1))) none none).run Tryz.prog W=.ok (.slice (cutC rtE13 (some ⟨H,0,none⟩) cap2 (i+1)) (cap+1-(i+1)) (cap2-(i+1))) W:=fun W=>slLC okE13 (some ⟨H,0,none⟩) (cap+1) cap2 (i+1) (by omega) W
  have hw1:IntKind.i64.wrap ((i:Int)+1)=(i:Int)+1:=wrapi64_in _ (by omega) (by omega)
  have HO:=mkHid ho
  have HB:=mkHid hbe
  have HR0:=mkHid r0
  have HR1:=mkHid r1
  have HR2:=mkHid r2
  have Hnl:=mkHid hn
  clear h hB hn ho hbe r0 r1 r2 hcl hg0 hgl hlo hle hne hroom hlc hsub hcap2
  generalize cutC rtE13 (some ⟨g,0,none⟩) cap i=cA at *
  generalize cutC rtE13 (some ⟨H,0,none⟩) cap2 i=cB at *
  generalize cutC rtE13 (some ⟨H,0,none⟩) cap2 (i+1)=cC at *
  generalize cap-i=q1 at *
  generalize cap+1-(i+1)=q3 at *
  generalize cap2-(i+1)=q4 at *
  generalize cap+1-i=q5 at *
  generalize cap2-i=q6 at *
  generalize L.take i++x::L.drop i=L' at *
  go_enter Tryz.func144,Tryz.ntmps144
  go_upto_region 11 with(first|(at_builtin;refine Lib.wpList_append_run _ rfl _ _ _ _ rfl _ _ rfl rfl _ _ HR0.out ?_)|(refine list_copy_run _ rfl _ _ _ _ _ rfl rfl _ _ rfl rfl HR1.out ?_))
  refine lk0 (fun _=>True) 8 trivial (fun hHeld=>?_)
  refine lkC [4] 46 0 ?_ rfl (Or.inl ⟨by rfl,?_⟩) hHeld ?_
  rotate_left
  ·intro w hSw;go_simp;with_reducible rfl
  (try simp only[Act.put,sIx,sZ0,sZ1])
  refine lkC [3,4] 47 1 ?_ rfl (Or.inl ⟨by rfl,?_⟩) hHeld ?_
  rotate_left
  ·intro w hSw;go_simp;with_reducible rfl
  (try simp only[Act.put,sIx,sZ0,sZ1])
  refine lkC [3,4] 48 2 ?_ rfl (Or.inl ⟨by rfl,?_⟩) hHeld ?_
  rotate_left
  ·intro w hSw;go_simp;with_reducible rfl
  (try simp only[Act.put,sIx,sZ0,sZ1])
  refine lkC [4] 49 3 (.int .i64 ((i:Int)+1)) rfl (Or.inl ⟨by rfl,?_⟩) hHeld ?_
  ·intro w hSw;go_simp<;>(try rw[hw1])
  (try simp only[Act.put,sIx,sZ0,sZ1])
  refine lkC [] 50 4 (.slice cC q3 q4) rfl (Or.inl ⟨by rfl,?_⟩) hHeld ?_
  ·intro w hSw;go_simp
  (try simp only[Act.put,sIx,sZ0,sZ1])
  refine lkC [7] 51 5 ?_ rfl (Or.inl ⟨by rfl,?_⟩) hHeld ?_
  rotate_left
  ·intro w hSw;go_simp;with_reducible rfl
  (try simp only[Act.put,sIx,sZ0,sZ1])
  refine lkC [7] 52 6 ?_ rfl (Or.inl ⟨by rfl,?_⟩) hHeld ?_
  rotate_left
  ·intro w hSw;go_simp;with_reducible rfl
  (try simp only[Act.put,sIx,sZ0,sZ1])
  refine lkC [] 53 7 (.slice cA q1 q1) rfl (Or.inl ⟨by rfl,?_⟩) hHeld ?_
  ·intro w hSw;go_simp
  (try simp only[Act.put,sIx,sZ0,sZ1])
  refine lkZ rfl (fun K hK=>?_)
  refine step_copy_run w2.drew (by rfl) _ _ 50 50 3 (by rfl) (by rfl) _ _ (by rfl) (by rfl) HR2.out 54 rfl ?_
  refine hK.out _ _ ?_
  simp only[Exit.then]
  (try simp only[Act.put,sIx,sZ0,sZ1])
  clear hK K hHeld
  go_wp2_with fail
  go_ret
  exact⟨⟨_,rfl,HO.out⟩,⟨HB.out.1,HB.out.2,HB.out.3,HB.out.4,fun k hk _=>HB.out.5 k hk⟩⟩
end Go.Proofs.YtpecobmfabmpkaaGreatDoor
