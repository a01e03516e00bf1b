/- OwnC InsA -/
import Derived.Test.YtpecobmfabmpkaaGreatDoorM26
import Derived.Laws.CopyRow
import Derived.Lib.AppendZerosOnto
set_option maxRecDepth 20000
namespace Go.Proofs.YtpecobmfabmpkaaGreatDoor
open Go.RowKit
structure RT (α:Type) where
 S:TypeId
 E:TypeId
 k:Nat
 by_:Nat
 z:Value
 c:α→List Value
structure RtOK {α:Type}(R:RT α):Prop where
 hu:Tryz.prog.underlying R.S=some (.slice R.E)
 hi:(Tryz.prog.info? R.E).map (fun i=>(i.zero,i.size,i.bytes))=some (some R.z,R.k,R.by_)
 hz:R.z.cells.toList.length=R.k
 ho:∀u∈R.z.cells.toList,u.oneCell'=true
 k1:0<R.k
 b1:0<R.by_
 len:∀x,(R.c x).length=R.k
 one:∀x,∀u∈R.c x,u.oneCell'=true
variable {α:Type} {R:RT α}
def cellsC (R:RT α):List α→List Value
 | []=>[]
 | x::l=>R.c x++cellsC R l
theorem cellsC_length (ok:RtOK R)(l:List α):(cellsC R l).length=l.length * R.k:=by
 induction l with
 | nil=>simp[cellsC]
 | cons x l ih=>rw[cellsC,List.length_append,ih,ok.len,List.length_cons,Nat.succ_mul];omega
theorem cellsC_append (l m:List α):cellsC R (l++m)=cellsC R l++cellsC R m:=by
 induction l with
 | nil=>rfl
 | cons x l ih=>rw[List.cons_append,cellsC,cellsC,ih,List.append_assoc]
theorem cellsC_take (ok:RtOK R)(l:List α)(k:Nat):cellsC R (l.take k)=(cellsC R l).take (k * R.k):=by
 induction k generalizing l with
 | zero=>simp[cellsC]
 | succ k ih =>
  cases l with
  | nil=>simp[cellsC]
  | cons x l =>
   have h1:(k+1) * R.k=k * R.k+R.k:=Nat.succ_mul k R.k
   rw[List.take_succ_cons,cellsC,cellsC,ih,List.take_append,ok.len,List.take_of_length_le (l:=R.c x) (by rw[ok.len];omega),show (k+1) * R.k-R.k=k * R.k by omega]
theorem cellsC_drop (ok:RtOK R)(l:List α)(k:Nat):cellsC R (l.drop k)=(cellsC R l).drop (k * R.k):=by
 induction k generalizing l with
 | zero=>simp
 | succ k ih =>
  cases l with
  | nil=>simp[cellsC]
  | cons x l =>
   have h1:(k+1) * R.k=k * R.k+R.k:=Nat.succ_mul k R.k
   rw[List.drop_succ_cons,cellsC,ih,List.drop_append,ok.len,List.drop_of_length_le (l:=R.c x) (by rw[ok.len];omega),List.nil_append,show (k+1) * R.k-R.k=k * R.k by omega]
theorem cellsC_at (ok:RtOK R)(l:List α)(k j:Nat)(hk:k<l.length)(hj:j<R.k):(cellsC R l)[k * R.k+j]?=(R.c (l[k]))[j]?:=by
 have e:(cellsC R l)[k * R.k+j]?=((cellsC R l).drop (k * R.k))[j]?:=by rw[List.getElem?_drop]
 rw[e,←cellsC_drop ok,List.drop_eq_getElem_cons hk,cellsC,List.getElem?_append_left (by rw[ok.len];exact hj)]
theorem cellsC_one (ok:RtOK R)(l:List α):∀u∈cellsC R l,u.oneCell'=true:=by
 induction l with
 | nil=>intro u hu;cases hu
 | cons x l ih =>
  intro u hu
  rw[cellsC] at hu
  rcases List.mem_append.1 hu with hu|hu
  ·exact ok.one x u hu
  ·exact ih u hu
def OwnRw (R:RT α)(w:World)(base:Nat)(v:Value)(l:List α):Prop:=w.ownsRow base R.E R.k v l.length (cellsC R l)
theorem OwnRw.nil (R:RT α)(w:World)(base:Nat):OwnRw R w base (.slice none 0 0) []:=World.ownsRow_nil _ _ _ _
theorem OwnRw.keep {w w':World}{us:List TypeId}{base:Nat}{v:Value}{l:List α}(h:OwnRw R w base v l)(hk:KeepO us w w')(he:R.E∈us):OwnRw R w' base v l:=own_keepO hk h he
theorem OwnRw.on {w w':World}{base:Nat}{v:Value}{l:List α}(h:OwnRw R w base v l)(hb:Below w.heap.size w w'):OwnRw R w' base v l:=h.keep (us:=[R.E]) (KeepO.of_below hb) (List.mem_singleton.2 rfl)
theorem OwnRw.base {w:World}{base base':Nat}{v:Value}{l:List α}(h:OwnRw R w base v l)(hb:base'≤base):OwnRw R w base' v l:=own_base h hb
theorem OwnRw.form (ok:RtOK R){w:World}{base:Nat}{v:Value}{l:List α}(h:OwnRw R w base v l):∃a cap,v=.slice a l.length cap∧l.length≤cap∧(a=none∨∃g,a=some ⟨g,0,none⟩) ∧
  (0<l.length→∃g,a=some ⟨g,0,none⟩∧base≤g∧g<w.heap.size∧∀k (hk:k<l.length),∀j,j<R.k→w.cell? ⟨g,k * R.k+j,none⟩=(R.c (l[k]))[j]?):=by
 obtain⟨h1,h2⟩:=h
 rcases h2 with⟨rfl,h0⟩|⟨g,cap,cur,rfl,hb,hg,hle,hmax,hsz,htk⟩
 ·have:l=[]:=List.eq_nil_of_length_eq_zero h0
  subst this
  exact⟨none,0,rfl,Nat.le_refl _,.inl rfl,fun h=>absurd h (Nat.lt_irrefl 0)⟩
 ·refine⟨_,cap,rfl,hle,.inr ⟨g,rfl⟩,fun hp=>⟨g,rfl,hb,(Array.getElem?_eq_some_iff.1 hg).1,fun k hk j hj=>?_⟩⟩
  have hown:w.ownsRow base R.E R.k (.slice (some ⟨g,0,none⟩) l.length cap) l.length (cellsC R l):=⟨h1,.inr ⟨g,cap,cur,rfl,hb,hg,hle,hmax,hsz,htk⟩⟩
  have hlt:k * R.k+j<l.length * R.k:=by
   have:(k+1) * R.k≤l.length * R.k:=Nat.mul_le_mul_right _ hk
   rw[Nat.succ_mul] at this;omega
  rw[World.ownsRow.cellAt hown (k * R.k+j) hlt,cellsC_at ok l k j hk hj]
theorem OwnRw.row (ok:RtOK R){w:World}{base:Nat}{a:Option Addr}{n cap:Nat}{l:List α}(h:OwnRw R w base (.slice a n cap) l):RowC R.k R.c w a n l:=by
 obtain⟨a',c',e,_,_,hc⟩:=h.form ok
 injection e with e1 e2 e3
 subst e1 e2 e3
 refine⟨rfl,fun hp=>?_⟩
 obtain⟨g,e4,_,hl,h3⟩:=hc hp
 refine⟨g,0,e4,hl,fun k x hx j v hv=>?_⟩
 have hj:j<R.k:=by have:=(List.getElem?_eq_some_iff.1 hv).1;rw[ok.len] at this;exact this
 obtain⟨hk,rfl⟩:=List.getElem?_eq_some_iff.1 hx
 rw[Nat.zero_add,h3 k hk j hj]
 exact hv
theorem OwnRw.lt {w:World}{base:Nat}{v:Value}{l:List α}(h:OwnRw R w base v l){g:Nat}(hg:v.ownBlock=some g):base≤g∧g<w.heap.size:=World.ownsRow.lt h g hg
theorem KeepT.grownC {w w':World}{base:Nat}{v:Value}{l:List α}(ho:OwnRw R w base v l)(hg:w.grownBy w' v.ownBlock):KeepT [R.E] w w' :=
 ⟨hg.size,fun k o hk hno=>by
  refine(hg.block k (Array.getElem?_eq_some_iff.1 hk).1 (fun eb=>?_)).trans hk
  rcases ho.2 with⟨rfl,_⟩|⟨g,cap,cur,rfl,_,hgb,_⟩
  ·simp[Value.ownBlock] at eb
  ·have hkg:k=g:=by simpa [Value.ownBlock] using eb
   subst hkg
   have:o=.cells cur R.E (0,0):=Option.some.inj (hk.symm.trans hgb)
   exact hno _ _ _ this (List.mem_singleton.2 rfl)⟩
structure SrcC (R:RT α)(w:World)(sa:Option Addr)(m c:Nat)(l:List α):Prop where
 len:l.length=m
 nil:sa=none→m=0∧c=0
 cells:∀ad,sa=some ad→∀j u,(cellsC R l)[j]?=some u→w.cell? (ad.add j)=some u
def cutC (R:RT α)(a:Option Addr)(cap k:Nat):Option Addr:=if cap=k then a else a.map (·.add (k * R.k))
theorem SrcC.below {w w':World}{sa:Option Addr}{m c:Nat}{l:List α}(h:SrcC R w sa m c l)(hb:Below w.heap.size w w'):SrcC R w' sa m c l :=
 ⟨h.len,h.nil,fun ad e j u hu=>by have:=h.cells ad e j u hu;exact(hb.cell (cell_lt this)).trans this⟩
theorem RowC.src (ok:RtOK R){w:World}{a:Option Addr}{n cap:Nat}{l:List α}(h:RowC R.k R.c w a n l)(ha:a=none→n=0∧cap=0):SrcC R w a n cap l :=
 ⟨h.len,ha,fun ad e j u hu=>by
  have hj:=(List.getElem?_eq_some_iff.1 hu).1
  rw[cellsC_length ok] at hj
  have hp:0<n:=by rcases Nat.eq_zero_or_pos n with h0|h0;(rw[h.len,h0,Nat.zero_mul] at hj;omega);exact h0
  obtain⟨g,off,e2,hl,hc⟩:=h.cells hp
  rw[e] at e2
  obtain rfl:=Option.some.inj e2
  have hk:j/R.k<l.length:=(Nat.div_lt_iff_lt_mul ok.k1).2 hj
  have hjj:j=j/R.k * R.k+j%R.k:=by have:=Nat.div_add_mod j R.k;rw[Nat.mul_comm] at this;omega
  rw[hjj,cellsC_at ok l (j/R.k) (j%R.k) hk (Nat.mod_lt _ ok.k1)] at hu
  have:=hc (j/R.k) _ (List.getElem?_eq_getElem hk) (j%R.k) u hu
  rw[Addr.add_lit]
  rw[show off+j=off+j/R.k * R.k+j%R.k by omega]
  exact this⟩
theorem SrcC.tail (ok:RtOK R){w:World}{a:Option Addr}{n cap:Nat}{l:List α}(h:SrcC R w a n cap l)(k:Nat)(hk:k≤n)(hcap:n≤cap):SrcC R w (cutC R a cap k) (n-k) (cap-k) (l.drop k):=
 ⟨by rw[List.length_drop,h.len],(fun e=>by
  unfold cutC at e
  split at e
  ·rename_i hc;obtain⟨h1,h2⟩:=h.nil e;omega
  ·cases a with
   | none=>obtain⟨h1,h2⟩:=h.nil rfl;omega
   | some ad=>cases e),fun ad e j u hu=>by
  rw[cellsC_drop ok,List.getElem?_drop] at hu
  unfold cutC at e
  split at e
  ·rename_i hc
   have:=(List.getElem?_eq_some_iff.1 hu).1
   rw[cellsC_length ok,h.len] at this
   have h1:n * R.k≤k * R.k:=Nat.mul_le_mul_right _ (by omega)
   omega
  ·cases a with
   | none=>cases e
   | some ad0 =>
    have e2:ad0.add (k * R.k)=ad:=Option.some.inj e
    rw[←e2]
    obtain⟨g,off,sp⟩:=ad0
    have:=h.cells ⟨g,off,sp⟩ rfl (k * R.k+j) u hu
    rw[Deep.add_add]
    exact this⟩
theorem OwnRw.src (ok:RtOK R){w:World}{base:Nat}{a:Option Addr}{n cap:Nat}{l:List α}(h:OwnRw R w base (.slice a n cap) l):SrcC R w a n cap l:=by
 refine RowC.src ok (h.row ok) (fun e=>?_)
 rcases h.2 with⟨h1,h2⟩|⟨g,cap',cur,h3,_⟩
 ·injection h1 with e1 e2 e3
  exact⟨e2,e3⟩
 ·injection h3 with e1 _ _
  rw[e] at e1;cases e1
theorem Blk.srcC {w:World}{B:Nat}{x:α}(h:Blk w B R.E (R.c x)):SrcC R w (some ⟨B,0,none⟩) 1 1 [x] :=
 ⟨rfl,(fun e=>by cases e),fun ad e j u hu=>by
  obtain rfl:=Option.some.inj e
  rw[cellsC,cellsC,List.append_nil] at hu
  rw[Addr.add_lit,h.cell,Nat.zero_add]
  exact hu⟩
theorem bytes_max {n b:Nat}(hb:0<b)(h:n * b≤140737488355328):n≤maxLen:=by
 have:n * 1≤n * b:=Nat.mul_le_mul_left _ hb
 unfold maxLen;omega
theorem list_appC (ok:RtOK R){ops:Array Oper}{rest:List Oper}{o:Oper}{a:Act}{Q:Exit→Act→World→Prop}(w:World)(hgd:o.guard=none)(s x:Operand)
  (ho:o.op=.call { callee:=.builtin .append,args:=#[s,x],argTypes:=#[R.S,R.S] }) (base:Nat)
  (v:Value) (l:List α) (hs:a.eval s=v) (hown:OwnRw R w base v l) (sa:Option Addr) (m c:Nat) (news:List α) (hx:a.eval x=.slice sa m c) (hsrc:SrcC R w sa m c news)
  (hbytes:(l.length+m) * R.by_≤140737488355328) (hbase:base≤w.heap.size)
  (h:∀v' w',OwnRw R w' base v' (l++news)→w.grownBy w' v.ownBlock→wpList Tryz.prog ops Q rest (a.put o.dst v') w'):
  wpList Tryz.prog ops Q (o::rest) a w:=by
 obtain⟨i0,hi,hz0,hz1,hz2⟩:=info_parts ok.hi
 cases sa with
 | none =>
  obtain⟨hm,hc⟩:=hsrc.nil rfl
  have hn:news=[]:=List.eq_nil_of_length_eq_zero (by rw[hsrc.len,hm])
  subst hn hm hc
  refine wpList_append_own_none hgd s x R.S ho base R.E i0 R.k ok.hu hi v l.length (cellsC R l) hs hown hx ?_
  exact h v w (by rw[List.append_nil];exact hown) (World.grownBy.refl _ _)
 | some ad =>
  refine wpList_append_own w hgd s x R.S ho base R.E i0 R.z R.k R.by_ ok.hu hi hz0 hz1 hz2 (by have:=ok.hz;simpa using this) ok.k1 v l.length (cellsC R l) hs hown ad m c (cellsC R news) hx (by rw[cellsC_length ok,hsrc.len]) (hsrc.cells ad rfl) (cellsC_one ok news) (bytes_max ok.b1 hbytes) hbytes hbase ?_
  intro v' w' h1 h2 _
  exact h v' w' (by unfold OwnRw;rw[cellsC_append,List.length_append,hsrc.len];exact h1) h2
theorem step_appRw (ok:RtOK R){ops:Array Oper}{o:Oper}{a:Act}{K:Act→World→Prop}{Q:Exit→Act→World→Prop}{E:Prop}(w:World)(hgd:o.guard=none)(s x:Operand)
  (ho:o.op=.call { callee:=.builtin .append,args:=#[s,x],argTypes:=#[R.S,R.S] }) (base:Nat)
  (v:Value) (l:List α) (hs:a.eval s=v) (hown:OwnRw R w base v l) (sa:Option Addr) (m c:Nat) (news:List α) (hx:a.eval x=.slice sa m c) (hsrc:SrcC R w sa m c news)
  (hbytes:(l.length+m) * R.by_≤140737488355328) (hbase:base≤w.heap.size) (d:Tmp) (hd:o.dst=some d)
  (h:∀v' w',OwnRw R w' base v' (l++news)→w.grownBy w' v.ownBlock→K (a.put (some d) v') w'):
  if Region.wanted o (yielded ops a.tmps)=true then Oper.wp Tryz.prog o a w K Q else E:=by
 have hw:Region.wanted o (yielded ops a.tmps)=true:=by simp[Region.wanted,hgd]
 rw[if_pos hw]
 obtain⟨i0,hi,hz0,hz1,hz2⟩:=info_parts ok.hi
 cases sa with
 | none =>
  obtain⟨hm,hc⟩:=hsrc.nil rfl
  have hn:news=[]:=List.eq_nil_of_length_eq_zero (by rw[hsrc.len,hm])
  subst hn hm hc
  have hrun:=run_append_owned_none (P:=Tryz.prog) (w:=w) base R.S o.type R.E i0 R.k ok.hu hi v l.length (cellsC R l) hown
  rw[←hd] at h
  unfold Oper.wp
  simp[execOp,ho,resolve,invoke,builtin,hs,hx,hrun,Result.andThen]
  exact h v w (by rw[List.append_nil];exact hown) (World.grownBy.refl _ _)
 | some ad =>
  refine wp_append_own w s x R.S ho base R.E i0 R.z R.k R.by_ ok.hu hi hz0 hz1 hz2 (by have:=ok.hz;simpa using this) ok.k1 v l.length (cellsC R l) hs hown ad m c (cellsC R news) hx (by rw[cellsC_length ok,hsrc.len]) (hsrc.cells ad rfl) (cellsC_one ok news) (bytes_max ok.b1 hbytes) hbytes hbase ?_
  intro v' w' h1 h2 _
  rw[hd]
  exact h v' w' (by unfold OwnRw;rw[cellsC_append,List.length_append,hsrc.len];exact h1) h2
theorem slHC (ok:RtOK R)(a:Option Addr)(n cap k:Nat)(hk:k≤cap)(w:World):(Instr.slice R.S (.slice a n cap) none (some (.int .i64 (k:Int))) none).run Tryz.prog w=.ok (.slice a k cap) w:=by
 have he:Tryz.prog.elem R.S=R.E:=by simp[Program.elem,ok.hu]
 have hz:(sizeOf R.E).run Tryz.prog w=.ok R.k w:=by
  obtain⟨i0,hi,hz0,hz1,hz2⟩:=info_parts ok.hi
  simp[sizeOf,typeInfo,hi,hz1]
 rw[run_slice_h w R.S _ n cap (by rw[he];exact ok.hu) .i64 (k:Int) (by omega) (by omega),he,hz]
 simp only[Result.andThen,sliced,Int.toNat_natCast,Nat.zero_mul,Nat.sub_zero]
 cases a with
 | none=>split<;>rfl
 | some ad =>
  have h0:ad.add 0=ad:=by obtain⟨b,o,sp⟩:=ad;cases sp<;>simp[Addr.add]
  split<;>simp[h0]
theorem slLC (ok:RtOK R)(a:Option Addr)(n cap k:Nat)(hk:k≤n)(w:World):(Instr.slice R.S (.slice a n cap) (some (.int .i64 (k:Int))) none none).run Tryz.prog w=.ok (.slice (cutC R a cap k) (n-k) (cap-k)) w:=by
 have he:Tryz.prog.elem R.S=R.E:=by simp[Program.elem,ok.hu]
 have hz:(sizeOf R.E).run Tryz.prog w=.ok R.k w:=by
  obtain⟨i0,hi,hz0,hz1,hz2⟩:=info_parts ok.hi
  simp[sizeOf,typeInfo,hi,hz1]
 rw[run_slice_l w R.S _ n cap (by rw[he];exact ok.hu) .i64 (k:Int) (by omega) (by omega),he,hz]
 simp only[Result.andThen,sliced,Int.toNat_natCast,cutC]
end Go.Proofs.YtpecobmfabmpkaaGreatDoor
namespace Go.Proofs.YtpecobmfabmpkaaGreatDoor
open Go.RowKit
variable {α:Type} {R:RT α}
theorem run_copy_k (ok:RtOK R)(w:World)(ty:TypeId)(g o dLen dCap:Nat)(a:Addr)(sLen sCap m:Nat)(cur:Array Value)(t:TypeId)(cs:List Value)(hg:w.heap[g]?=some (.cells cur t (0,0)))(hm:m=Nat.min sLen dLen)(hn:cs.length=m * R.k)
  (hsrc:∀j v,cs[j]?=some v→w.cell? (a.add j)=some v) (hfit:o+cs.length≤cur.size) (h1:∀v∈cs,v.oneCell'=true):
  (Builtin.copy_ #[R.S,R.S] ty #[.slice (some ⟨g,o,none⟩) dLen dCap,.slice (some a) sLen sCap]).run Tryz.prog w=.ok (goInt m) (w.setRow g (cur.toList.take o++cs++cur.toList.drop (o+cs.length)).toArray):=by
 obtain⟨i0,hi,hz0,hz1,hz2⟩:=info_parts ok.hi
 have hl:=run_loadCells_list (P:=Tryz.prog) w a cs hsrc
 have hst:=run_storeCells_at Tryz.prog g o t cs 0 cur w hg (by simpa using hfit) h1
 simp[Builtin.copy_,run_underlying ok.hu,Builtin.lenOf,Builtin.firstCells,sizeOf,typeInfo,hi,hz1,←hm,←hn,hl,hst]
theorem ins_cells {β:Type}(Z A X D:List β)(hA:Z.take A.length=A)(hl:A.length+X.length+D.length≤Z.length):
  (Z.take (A.length+X.length)++D++Z.drop (A.length+X.length+D.length)).take A.length++X++(Z.take (A.length+X.length)++D++Z.drop (A.length+X.length+D.length)).drop (A.length+X.length)=A++X++D++Z.drop (A.length+X.length+D.length):=by
 have h1:(Z.take (A.length+X.length)).length=A.length+X.length:=by rw[List.length_take];omega
 rw[List.append_assoc (Z.take _),List.take_append_of_le_length (by omega),List.take_take,Nat.min_eq_left (by omega),hA,List.drop_left' h1,List.append_assoc,List.append_assoc,List.append_assoc]
theorem ins_cells2 {β:Type}(Z A X D:List β)(hA:Z.take A.length=A):
  (Z.take A.length++X++Z.drop (A.length+X.length)).take (A.length+X.length)++D++(Z.take A.length++X++Z.drop (A.length+X.length)).drop (A.length+X.length+D.length)=A++X++D++Z.drop (A.length+X.length+D.length):=by
 rw[hA]
 have h1:(A++X).length=A.length+X.length:=List.length_append
 rw[List.take_left' h1,List.drop_append,List.drop_of_length_le (by omega),List.nil_append,h1,List.drop_drop]
 congr 2
 omega
theorem OwnRw.cur {w:World}{base g n cap:Nat}{l:List α}(h:OwnRw R w base (.slice (some ⟨g,0,none⟩) n cap) l):∃cur:Array Value,base≤g∧w.heap[g]?=some (.cells cur R.E (0,0))∧n=l.length∧n≤cap∧cap≤maxLen∧cur.size=cap * R.k∧cur.toList.take (n * R.k)=cellsC R l:=by
 rcases h.2 with⟨he,_⟩|⟨g',cap',cur,he,hb,hg,hle,hmax,hsz,htk⟩
 ·injection he with e1 _ _;cases e1
 ·injection he with e1 e2 e3
  have e4:=Option.some.inj e1
  injection e4 with e5 _ _
  subst e5 e3 e2
  exact⟨cur,hb,hg,rfl,hle,hmax,hsz,htk⟩
theorem OwnRw.mk (ok:RtOK R){w:World}{base g cap:Nat}{l:List α}{cur:Array Value}(hb:base≤g)(hg:w.heap[g]?=some (.cells cur R.E (0,0)))(hle:l.length≤cap)(hm:cap≤maxLen)(hs:cur.size=cap * R.k)(ht:cur.toList.take (l.length * R.k)=cellsC R l):OwnRw R w base (.slice (some ⟨g,0,none⟩) l.length cap) l :=
 ⟨cellsC_length ok l,.inr ⟨g,cap,cur,rfl,hb,hg,hle,hm,hs,ht⟩⟩
theorem cutC_some {g cap j:Nat}(h:j<cap):cutC R (some ⟨g,0,none⟩) cap j=some ⟨g,j * R.k,none⟩:=by unfold cutC;rw[if_neg (by omega)];simp[Addr.add_lit]
theorem cells_mid (ok:RtOK R){w:World}{g:Nat}{cur:Array Value}{n i:Nat}{l:List α}(hg:w.heap[g]?=some (.cells cur R.E (0,0)))(ht:cur.toList.take (n * R.k)=cellsC R l):∀j v,(cellsC R (l.drop i))[j]?=some v→w.cell? ((⟨g,i * R.k,none⟩:Addr).add j)=some v:=fun j v hv=>by
 rw[Addr.add_lit,cell_of_row w g _ cur R.E (0,0) hg]
 rw[cellsC_drop ok,List.getElem?_drop,←ht,List.getElem?_take] at hv
 split at hv
 ·rw[←hv];simp
 ·cases hv
theorem ins_room (ok:RtOK R){w:World}{base g n cap i B:Nat}{l:List α}{x:α}(h:OwnRw R w base (.slice (some ⟨g,0,none⟩) n cap) l)(hi:i<n)(hc:n+1≤cap)(hB:Blk w B R.E (R.c x))(hne:B≠g)(ty1 ty2:TypeId):
  ∃w1 w2,(Builtin.copy_ #[R.S,R.S] ty1 #[.slice (cutC R (some ⟨g,0,none⟩) cap (i+1)) (n+1-(i+1)) (cap-(i+1)),.slice (cutC R (some ⟨g,0,none⟩) cap i) (n+1-i) (cap-i)]).run Tryz.prog w=.ok (goInt (n-i:Nat)) w1 ∧
   (Builtin.copy_ #[R.S,R.S] ty2 #[.slice (cutC R (some ⟨g,0,none⟩) cap i) (n+1-i) (cap-i),.slice (some ⟨B,0,none⟩) 1 1]).run Tryz.prog w1=.ok (goInt (1:Nat)) w2 ∧
   OwnRw R w2 base (.slice (some ⟨g,0,none⟩) (n+1) cap) (l.take i++x::l.drop i)∧w.grownBy w2 (some g):=by
 obtain⟨cur,hb,hg,hn,hle,hmax,hsz,htk⟩:=h.cur
 subst hn
 have hcl:cur.toList.length=cur.size:=Array.length_toList
 have hk1:(l.length+1) * R.k≤cap * R.k:=Nat.mul_le_mul_right _ hc
 have hAl:(cellsC R (l.take i)).length=i * R.k:=by rw[cellsC_length ok,List.length_take,Nat.min_eq_left (by omega)]
 have hDl:(cellsC R (l.drop i)).length=(l.length-i) * R.k:=by rw[cellsC_length ok,List.length_drop]
 have hXl:(R.c x).length=R.k:=ok.len x
 have hi1:(i+1) * R.k=i * R.k+R.k:=Nat.succ_mul _ _
 have hsum:i * R.k+(l.length-i) * R.k=l.length * R.k:=by rw[←Nat.add_mul];congr 1;omega
 have hn1:(l.length+1) * R.k=l.length * R.k+R.k:=Nat.succ_mul _ _
 have hA:cur.toList.take (i * R.k)=cellsC R (l.take i):=by
  rw[cellsC_take ok,←htk,List.take_take,Nat.min_eq_left]
  exact Nat.mul_le_mul_right _ (by omega)
 rw[cutC_some (by omega),cutC_some (by omega)]
 have r1:=run_copy_k ok w ty1 g ((i+1) * R.k) (l.length+1-(i+1)) (cap-(i+1)) ⟨g,i * R.k,none⟩ (l.length+1-i) (cap-i) (l.length-i) cur R.E (cellsC R (l.drop i)) hg (by show _=min _ _;omega) hDl (cells_mid ok hg htk) (by rw[hDl];omega) (cellsC_one ok _)
 have hg1:=setRow_heap w g cur (cur.toList.take ((i+1) * R.k)++cellsC R (l.drop i)++cur.toList.drop ((i+1) * R.k+(cellsC R (l.drop i)).length)).toArray R.E _ hg
 have hB1:Blk (w.setRow g (cur.toList.take ((i+1) * R.k)++cellsC R (l.drop i)++cur.toList.drop ((i+1) * R.k+(cellsC R (l.drop i)).length)).toArray) B R.E (R.c x):=hB.rowOther _ _ hne
 have hs1:(cur.toList.take ((i+1) * R.k)++cellsC R (l.drop i)++cur.toList.drop ((i+1) * R.k+(cellsC R (l.drop i)).length)).length=cap * R.k:=by
  rw[List.length_append,List.length_append,List.length_take,List.length_drop,hcl,hsz,hDl];omega
 generalize hcur1:cur.toList.take ((i+1) * R.k)++cellsC R (l.drop i)++cur.toList.drop ((i+1) * R.k+(cellsC R (l.drop i)).length)=cur1 at *
 have r2:=run_copy_k ok (w.setRow g cur1.toArray) ty2 g (i * R.k) (l.length+1-i) (cap-i) ⟨B,0,none⟩ 1 1 1 cur1.toArray R.E (R.c x) hg1 (by show _=min _ _;omega) (by rw[hXl,Nat.one_mul]) (fun j v hv=>by rw[Addr.add_lit,Nat.zero_add,hB1.cell];exact hv) (by rw[List.size_toArray,hs1,hXl];omega) (ok.one x)
 refine⟨_,_,r1,r2,?_,⟨rfl,rfl,rfl,by simp[World.setRow],fun k _ hk=>?_⟩⟩
 ·have hll:(l.take i++x::l.drop i).length=l.length+1:=by rw[List.length_append,List.length_cons,List.length_take,List.length_drop];omega
  have hic:=ins_cells cur.toList (cellsC R (l.take i)) (R.c x) (cellsC R (l.drop i)) (by rw[hAl];exact hA) (by rw[hAl,hXl,hDl,hcl,hsz];omega)
  rw[hAl,hXl,←hi1,hcur1] at hic
  have:=OwnRw.mk ok (w:=(w.setRow g cur1.toArray).setRow g (cur1.take (i * R.k)++R.c x++cur1.drop (i * R.k+(R.c x).length)).toArray) (base:=base) (g:=g) (cap:=cap) (l:=l.take i++x::l.drop i) hb (setRow_heap _ g _ _ R.E _ hg1) (by rw[hll];exact hc) hmax
   (by rw[List.size_toArray,List.length_append,List.length_append,List.length_take,List.length_drop,hs1,hXl];omega)
   (by
    rw[List.toList_toArray,hXl,←hi1,hic,hll,cellsC_append,cellsC,List.append_assoc,List.append_assoc]
    have e:cellsC R (l.take i)++(R.c x++(cellsC R (l.drop i)++cur.toList.drop ((i+1) * R.k+(cellsC R (l.drop i)).length)))=(cellsC R (l.take i)++(R.c x++cellsC R (l.drop i)))++cur.toList.drop ((i+1) * R.k+(cellsC R (l.drop i)).length):=by simp only[List.append_assoc]
    rw[e,List.take_left' (by rw[List.length_append,List.length_append,hAl,hXl,hDl];omega)])
  rw[hll] at this
  exact this
 ·have hkg:k≠g:=fun e=>hk (by rw[e])
  rw[setRow_other _ g k _ hkg,setRow_other _ g k _ hkg]
theorem ins_grow (ok:RtOK R){w:World}{base g n i B:Nat}{l:List α}{x:α}(tn:TypeId)(htn:Tryz.prog.underlying tn=some (.int .i64))(h:OwnRw R w base (.slice (some ⟨g,0,none⟩) n n) l)(hi:i<n)(hB:Blk w B R.E (R.c x))(hlo:base≤w.heap.size)(hsmall:(n+1) * R.by_≤140737488355328)(ty1 ty2 ty3:TypeId):
  ∃w1 w2 w3 cap2 H,n+1≤cap2∧(Builtin.append_ #[R.S,tn] ty1 #[.slice (some ⟨g,0,none⟩) i n,.int .i64 ((n+1-i:Nat):Int)]).run Tryz.prog w=.ok (.slice (some ⟨H,0,none⟩) (n+1) cap2) w1 ∧
   (Builtin.copy_ #[R.S,R.S] ty2 #[.slice (cutC R (some ⟨H,0,none⟩) cap2 i) (n+1-i) (cap2-i),.slice (some ⟨B,0,none⟩) 1 1]).run Tryz.prog w1=.ok (goInt (1:Nat)) w2 ∧
   (Builtin.copy_ #[R.S,R.S] ty3 #[.slice (cutC R (some ⟨H,0,none⟩) cap2 (i+1)) (n+1-(i+1)) (cap2-(i+1)),.slice (cutC R (some ⟨g,0,none⟩) n i) (n-i) (n-i)]).run Tryz.prog w2.drew=.ok (goInt (n-i:Nat)) w3 ∧
   OwnRw R w3 base (.slice (some ⟨H,0,none⟩) (n+1) cap2) (l.take i++x::l.drop i)∧Below w.heap.size w w3:=by
 obtain⟨cur,hb,hg,hn,hle,hmax,hsz,htk⟩:=h.cur
 subst hn
 obtain⟨i0,hif,hz0,hz1,hz2⟩:=info_parts ok.hi
 have hgl:g<w.heap.size:=(Array.getElem?_eq_some_iff.1 hg).1
 have hBl:=hB.lt
 have hcl:cur.toList.length=cur.size:=Array.length_toList
 have hAl:(cellsC R (l.take i)).length=i * R.k:=by rw[cellsC_length ok,List.length_take,Nat.min_eq_left (by omega)]
 have hDl:(cellsC R (l.drop i)).length=(l.length-i) * R.k:=by rw[cellsC_length ok,List.length_drop]
 have hXl:(R.c x).length=R.k:=ok.len x
 have hi1:(i+1) * R.k=i * R.k+R.k:=Nat.succ_mul _ _
 have hsum:i * R.k+(l.length-i) * R.k=l.length * R.k:=by rw[←Nat.add_mul];congr 1;omega
 have hn1:(l.length+1) * R.k=l.length * R.k+R.k:=Nat.succ_mul _ _
 have hA:cur.toList.take (i * R.k)=cellsC R (l.take i):=by
  rw[cellsC_take ok,←htk,List.take_take,Nat.min_eq_left]
  exact Nat.mul_le_mul_right _ (by omega)
 have hold:(Builtin.firstCells i0.size i (.slice (some ⟨g,0,none⟩) i l.length)).run Tryz.prog w.drew=.ok (cellsC R (l.take i)).toArray w.drew:=by
  have:=run_loadCells_list (P:=Tryz.prog) w.drew ⟨g,0,none⟩ (cellsC R (l.take i)) (fun j v hv=>by
   rw[Addr.add_lit,Nat.zero_add,cell_of_row w.drew g j cur R.E (0,0) hg]
   rw[←hA,List.getElem?_take] at hv
   split at hv
   ·rw[←hv];simp
   ·cases hv)
  rw[hAl] at this
  simp only[Builtin.firstCells,hz1]
  exact this
 have hb1:1≤R.by_:=ok.b1
 have hnm:l.length+1≤maxLen:=bytes_max hb1 hsmall
 have hml:maxLen=140737488355328∨True:=.inr trivial
 have r0:=Lib.run_append_grow_zeros (P:=Tryz.prog) w R.S tn ty1 R.E i0 R.z .i64 .i64 ok.hu htn hif hz0 (some ⟨g,0,none⟩) i l.length (cellsC R (l.take i)) hold (l.length+1-i) (by omega) (by rw[hz1];exact ok.k1) (by omega)
  (by have:(l.length+1) * 1≤(l.length+1) * R.by_:=Nat.mul_le_mul_left _ hb1
    omega)
  (by rw[hz2];have:(l.length+1-i) * R.by_≤(l.length+1) * R.by_:=Nat.mul_le_mul_right _ (by omega)
    omega)
  (by rw[hz2];exact growslice_fits (by omega) (by rw[show i+(l.length+1-i)=l.length+1 by omega];exact hsmall))
 rw[show i+(l.length+1-i)=l.length+1 by omega] at r0
 have hcap:=grownCap_ge w (l.length+1) l.length R.E
 have hmx:=grownCap_le_maxLen w (l.length+1) l.length R.E hnm
 generalize grownCap w (l.length+1) l.length R.E=cap2 at *
 have hzs:R.z.cells.size=R.k:=by rw[←ok.hz,Array.length_toList]
 have hrl:((cellsC R (l.take i)).toArray++Builtin.zeroCells R.z.cells (l.length+1-i)++Builtin.zeroCells R.z.cells (cap2-(l.length+1))).size=cap2 * R.k:=by
  rw[Array.size_append,Array.size_append,size_zeroCells,size_zeroCells,List.size_toArray,hAl,hzs,←Nat.add_mul,←Nat.add_mul]
  congr 1
  omega
 have hrA:((cellsC R (l.take i)).toArray++Builtin.zeroCells R.z.cells (l.length+1-i)++Builtin.zeroCells R.z.cells (cap2-(l.length+1))).toList.take (i * R.k)=cellsC R (l.take i):=by
  rw[Array.toList_append,Array.toList_append,List.append_assoc,List.toList_toArray,List.take_left' hAl]
 generalize (cellsC R (l.take i)).toArray++Builtin.zeroCells R.z.cells (l.length+1-i)++Builtin.zeroCells R.z.cells (cap2-(l.length+1))=row at *
 have hk2:(l.length+1) * R.k≤cap2 * R.k:=Nat.mul_le_mul_right _ hcap
 have hrll:row.toList.length=row.size:=Array.length_toList
 have hsz2:w.drew.heap.size=w.heap.size:=rfl
 have hg1:(w.drew.alloc (.cells row R.E)).heap[w.heap.size]?=some (.cells row R.E (0,0)):=heap_alloc_new w.drew _
 have hB1:Blk (w.drew.alloc (.cells row R.E)) B R.E (R.c x):=Blk.alloc (w:=w.drew) hB _
 have hgg1:(w.drew.alloc (.cells row R.E)).heap[g]?=some (.cells cur R.E (0,0)):=(Below.heap_alloc w.drew _ g hgl).trans hg
 have hbe1:Below w.heap.size w (w.drew.alloc (.cells row R.E)):=((Below.refl _ w).drew).alloc (Nat.le_refl _) _
 generalize w.drew.alloc (.cells row R.E)=w1 at *
 have r1:=run_copy_k ok w1 ty2 w.heap.size (i * R.k) (l.length+1-i) (cap2-i) ⟨B,0,none⟩ 1 1 1 row R.E (R.c x) hg1 (by show _=min _ _;omega) (by rw[hXl,Nat.one_mul]) (fun j v hv=>by rw[Addr.add_lit,Nat.zero_add,hB1.cell];exact hv) (by rw[hXl];omega) (ok.one x)
 have hs1:(row.toList.take (i * R.k)++R.c x++row.toList.drop (i * R.k+(R.c x).length)).length=cap2 * R.k:=by
  rw[List.length_append,List.length_append,List.length_take,List.length_drop,hrll,hrl,hXl];omega
 have hic:=ins_cells2 row.toList (cellsC R (l.take i)) (R.c x) (cellsC R (l.drop i)) (by rw[hAl];exact hrA)
 rw[hAl,hXl,←hi1] at hic
 rw[hXl,←hi1] at hs1 r1
 have hg2:=setRow_heap w1 w.heap.size row (row.toList.take (i * R.k)++R.c x++row.toList.drop ((i+1) * R.k)).toArray R.E _ hg1
 have hgg2:(w1.setRow w.heap.size (row.toList.take (i * R.k)++R.c x++row.toList.drop ((i+1) * R.k)).toArray).heap[g]?=some (.cells cur R.E (0,0)):=(setRow_other w1 w.heap.size g _ (by omega)).trans hgg1
 have hbe2:Below w.heap.size w (w1.setRow w.heap.size (row.toList.take (i * R.k)++R.c x++row.toList.drop ((i+1) * R.k)).toArray):=bel_row hbe1 (Nat.le_refl _) _
 generalize hcur1:row.toList.take (i * R.k)++R.c x++row.toList.drop ((i+1) * R.k)=cur1 at *
 generalize hw2:w1.setRow w.heap.size cur1.toArray=w2 at *
 have r2:=run_copy_k ok w2.drew ty3 w.heap.size ((i+1) * R.k) (l.length+1-(i+1)) (cap2-(i+1)) ⟨g,i * R.k,none⟩ (l.length-i) (l.length-i) (l.length-i) cur1.toArray R.E (cellsC R (l.drop i)) hg2 (by show _=min _ _;omega) hDl (cells_mid ok (w:=w2.drew) hgg2 htk) (by rw[List.size_toArray,hs1,hDl];omega) (cellsC_one ok _)
 refine⟨w1,w2,w2.drew.setRow w.heap.size (cur1.take ((i+1) * R.k)++cellsC R (l.drop i)++cur1.drop ((i+1) * R.k+(cellsC R (l.drop i)).length)).toArray,cap2,w.heap.size,hcap,r0,?_,?_,?_,?_⟩
 ·rw[cutC_some (by omega)];exact r1
 ·rw[cutC_some (by omega),cutC_some (by omega)];exact r2
 ·have hll:(l.take i++x::l.drop i).length=l.length+1:=by rw[List.length_append,List.length_cons,List.length_take,List.length_drop];omega
  have:=OwnRw.mk ok (w:=w2.drew.setRow w.heap.size (cur1.take ((i+1) * R.k)++cellsC R (l.drop i)++cur1.drop ((i+1) * R.k+(cellsC R (l.drop i)).length)).toArray) (base:=base) (g:=w.heap.size) (cap:=cap2) (l:=l.take i++x::l.drop i) hlo (setRow_heap w2.drew w.heap.size _ _ R.E _ hg2) (by rw[hll];exact hcap) hmx
   (by rw[List.size_toArray,List.length_append,List.length_append,List.length_take,List.length_drop,hs1,hDl];omega)
   (by
    rw[List.toList_toArray,hic,hll,cellsC_append,cellsC,List.append_assoc,List.append_assoc]
    have e:cellsC R (l.take i)++(R.c x++(cellsC R (l.drop i)++row.toList.drop ((i+1) * R.k+(cellsC R (l.drop i)).length)))=(cellsC R (l.take i)++(R.c x++cellsC R (l.drop i)))++row.toList.drop ((i+1) * R.k+(cellsC R (l.drop i)).length):=by simp only[List.append_assoc]
    rw[e,List.take_left' (by rw[List.length_append,List.length_append,hAl,hXl,hDl];omega)])
  rw[hll] at this
  exact this
 ·exact bel_row hbe2.drew (Nat.le_refl _) _
end Go.Proofs.YtpecobmfabmpkaaGreatDoor
