/- PtA BpPanic PtB PtC PtD PtE PtF -/
import Derived.Test.YtpecobmfabmpkaaGreatDoorM6
import Derived.WalkSmall
import Derived.Lib.BytesEntry
import Derived.Laws.Externs
import Derived.Deep.LoopGhost
set_option maxRecDepth 20000
set_option maxHeartbeats 1000000
namespace Go.Proofs.YtpecobmfabmpkaaGreatDoor
section
open Go.RowKit
def OwnN (w:World)(base:Nat)(v:Value)(l:List Eq3):Prop:=w.ownsRow base 64 2 v l.length (ets l)
theorem OwnN.nil (w:World)(base:Nat):OwnN w base (.slice none 0 0) []:=World.ownsRow_nil _ _ _ _
theorem OwnN.on {w w':World}{base:Nat}{v:Value}{l:List Eq3}(h:OwnN w base v l)(hb:Below w.heap.size w w'):OwnN w' base v l:=own_keepO (us:=[64]) (KeepO.of_below hb) h (by decide)
theorem OwnN.form {w:World}{base:Nat}{v:Value}{l:List Eq3}(h:OwnN w base v l):∃a cap,v=.slice a l.length cap∧l.length≤cap∧(a=none∨∃g,a=some ⟨g,0,none⟩) ∧
  (0<l.length→∃g,a=some ⟨g,0,none⟩∧base≤g∧g<w.heap.size∧∀k (hk:k<l.length),∀j,j<2→w.cell? ⟨g,k * 2+j,none⟩=(etc2 (l[k]).1 (l[k]).2)[j]?):=by
 obtain⟨h1,h2⟩:=h
 rcases h2 with⟨rfl,h0⟩|⟨g,cap,cur,rfl,hb,hg,hle,hmax,hsz,htk⟩
 ·have:l=[]:=List.eq_nil_of_length_eq_zero h0
  subst this
  exact⟨none,0,rfl,Nat.le_refl _,.inl rfl,fun h=>absurd h (Nat.lt_irrefl 0)⟩
 ·refine⟨_,cap,rfl,hle,.inr ⟨g,rfl⟩,fun hp=>⟨g,rfl,hb,(Array.getElem?_eq_some_iff.1 hg).1,fun k hk j hj=>?_⟩⟩
  have hown:w.ownsRow base 64 2 (.slice (some ⟨g,0,none⟩) l.length cap) l.length (ets l):=⟨h1,.inr ⟨g,cap,cur,rfl,hb,hg,hle,hmax,hsz,htk⟩⟩
  rw[World.ownsRow.cellAt hown (k * 2+j) (by omega),ets_at l k j hk hj]
theorem OwnN.at_ {w:World}{base n cap:Nat}{a:Option Addr}{ls:List Eq3}(h:OwnN w base (.slice a n cap) ls)(k:Nat)(hk:k<ls.length):∃g,a=some ⟨g,0,none⟩∧base≤g∧g<w.heap.size∧∀j,j<2→w.cell? ⟨g,k * 2+j,none⟩=(etc2 (ls[k]).1 (ls[k]).2)[j]?:=by
 obtain⟨a',c',e,_,_,hr⟩:=h.form
 injection e with e1 e2 e3
 obtain⟨g,e4,h1,h2,h3⟩:=hr (by omega)
 exact⟨g,e1.trans e4,h1,h2,fun j hj=>h3 k hk j hj⟩
theorem KeepT.grownN {w w':World}{base:Nat}{v:Value}{l:List Eq3}(ho:OwnN w base v l)(hg:w.grownBy w' v.ownBlock):KeepT [64] w w' :=
 ⟨hg.size,fun k o hk hno=>by
  refine(hg.block k (Array.getElem?_eq_some_iff.1 hk).1 (fun eb=>?_)).trans hk
  rcases ho.2 with⟨rfl,_⟩|⟨g,cap,cur,rfl,_,hgb,_⟩
  ·simp[Value.ownBlock] at eb
  ·have hkg:k=g:=by simpa [Value.ownBlock] using eb
   subst hkg
   have:o=.cells cur 64 (0,0):=Option.some.inj (hk.symm.trans hgb)
   exact hno _ _ _ this (by decide)⟩
structure SrcN (w:World)(sa:Option Addr)(m c:Nat)(l:List Eq3):Prop where
 len:l.length=m
 nil:sa=none→m=0∧c=0
 cells:∀ad,sa=some ad→∀j u,(ets l)[j]?=some u→w.cell? (ad.add j)=some u
def cutN (a:Option Addr)(cap k:Nat):Option Addr:=if cap=k then a else a.map (·.add (k * 2))
theorem infoN:(Tryz.prog.info? 64).map (fun i=>(i.zero,i.size,i.bytes))=some (some etZ,2,48):=by kernel_rfl
theorem step_appNs {ops:Array Oper}{o:Oper}{a:Act}{K:Act→World→Prop}{Q:Exit→Act→World→Prop}{E:Prop}(w:World)(hgd:o.guard=none)(s x:Operand)
  (ho:o.op=.call { callee:=.builtin .append,args:=#[s,x],argTypes:=#[50,50] }) (base:Nat)
  (v:Value) (l:List Eq3) (hs:a.eval s=v) (hown:OwnN w base v l) (sa:Option Addr) (m c:Nat) (news:List Eq3) (hx:a.eval x=.slice sa m c) (hsrc:SrcN w sa m c news)
  (hbytes:l.length+m≤8192) (hbase:base≤w.heap.size) (d:Tmp) (hd:o.dst=some d)
  (h:∀v' w',OwnN w' base v' (l++news)→w.grownBy w' v.ownBlock→K (a.put (some d) v') w'):
  if Region.wanted o (yielded ops a.tmps)=true then Oper.wp Tryz.prog o a w K Q else E:=by
 have hw:Region.wanted o (yielded ops a.tmps)=true:=by simp[Region.wanted,hgd]
 rw[if_pos hw]
 obtain⟨i0,hi,hz0,hz1,hz2⟩:=info_parts infoN
 cases sa with
 | none =>
  obtain⟨hm,hc⟩:=hsrc.nil rfl
  have hn:news=[]:=List.eq_nil_of_length_eq_zero (by rw[hsrc.len,hm])
  subst hn hm hc
  have hrun:=run_append_owned_none (P:=Tryz.prog) (w:=w) base 50 o.type 64 i0 2 Tryz.underlying50 hi v l.length (ets l) hown
  rw[←hd] at h
  unfold Oper.wp
  simp[execOp,ho,resolve,invoke,builtin,hs,hx,hrun,Result.andThen]
  exact h v w (by rw[List.append_nil];exact hown) (World.grownBy.refl _ _)
 | some ad =>
  refine wp_append_own w s x 50 ho base 64 i0 etZ 2 48 Tryz.underlying50 hi hz0 hz1 hz2 rfl (by omega) v l.length (ets l) hs hown ad m c (ets news) hx (by rw[ets_length,hsrc.len]) (hsrc.cells ad rfl) (ets_one news) (by unfold maxLen;omega) (by omega) hbase ?_
  intro v' w' h1 h2 _
  rw[hd]
  exact h v' w' (by unfold OwnN;rw[ets_append,List.length_append,hsrc.len];exact h1) h2
abbrev UB:List TypeId:=[5,152]
def EtP (w:World)(e:Et)(q:EtA):Prop:=∀W,KeepO UB w W→IsE W e q
theorem EtP.is {w:World}{e:Et}{q:EtA}(h:EtP w e q):IsE w e q:=h w (KeepO.refl _ _)
theorem EtP.keep {w w':World}{e:Et}{q:EtA}(h:EtP w e q)(hk:KeepO UB w w'):EtP w' e q:=fun W hW=>h W (hk.trans hW)
def EtQ (fl:Nat)(w:World)(e:Et)(q:EtA):Prop:=∀W,KeepU fl UB w W→IsE W e q
theorem EtQ.is {fl:Nat}{w:World}{e:Et}{q:EtA}(h:EtQ fl w e q):IsE w e q:=h w (KeepU.refl _ _ _)
theorem EtQ.keep {fl:Nat}{w w':World}{e:Et}{q:EtA}(h:EtQ fl w e q)(hk:KeepU fl UB w w'):EtQ fl w' e q:=fun W hW=>h W (hk.trans hW)
theorem EtQ.below {fl:Nat}{w w':World}{e:Et}{q:EtA}(h:EtQ fl w e q)(hb:Below w.heap.size w w'):EtQ fl w' e q:=h.keep (KeepU.of_below hb)
theorem EtP.q {w:World}{e:Et}{q:EtA}(h:EtP w e q)(fl:Nat):EtQ fl w e q:=fun W hW=>h W hW.o
theorem EtQ.p {w:World}{e:Et}{q:EtA}(h:EtQ 0 w e q):EtP w e q:=fun W hW=>h W (KeepU.zero hW)
structure RdN (fl:Nat)(w:World)(v:Value)(L:List Eq3):Prop where
 form:∃a cap,v=.slice a L.length cap∧L.length≤cap∧(0<L.length→∃g off c fz,a=some ⟨g,off,none⟩∧w.heap[g]?=some (.cells c 64 fz)∧∀i u,(ets L)[i]?=some u→w.cell? ⟨g,off+i,none⟩=some u)
 is:∀x∈L,EtQ fl w x.1 x.2
abbrev UE:List TypeId:=[64,5,3,152]
theorem cell_same {w w':World}{g:Nat}(h:w'.heap[g]?=w.heap[g]?)(i:Nat):w'.cell? ⟨g,i,none⟩=w.cell? ⟨g,i,none⟩:=by
 unfold World.cell?
 simp only[h]
theorem RdN.keep {fl:Nat}{w w':World}{v:Value}{L:List Eq3}(h:RdN fl w v L)(hk:KeepU fl UE w w'):RdN fl w' v L:=by
 obtain⟨a,cap,e,hc,hr⟩:=h.form
 refine⟨⟨a,cap,e,hc,fun hp=>?_⟩,fun x hx=>(h.is x hx).keep (hk.less (by decide))⟩
 obtain⟨g,off,c,fz,e2,hg,hcs⟩:=hr hp
 have h2:=hk.o.same g c _ fz hg (by decide)
 exact⟨g,off,c,fz,e2,h2,fun i u hu=>(cell_same (h2.trans hg.symm) _).trans (hcs i u hu)⟩
theorem OwnN.rdq {fl:Nat}{w:World}{base:Nat}{v:Value}{L:List Eq3}(h:OwnN w base v L)(hi:∀x∈L,EtQ fl w x.1 x.2):RdN fl w v L:=by
 refine⟨?_,hi⟩
 rcases h.2 with⟨rfl,h0⟩|⟨g,cap,cur,rfl,hb,hg,hle,hmax,hsz,htk⟩
 ·rw[h0]
  exact⟨none,0,rfl,Nat.le_refl _,fun h=>absurd h (Nat.lt_irrefl 0)⟩
 ·exact⟨_,cap,rfl,hle,fun hp=>⟨g,0,cur,_,rfl,hg,fun i u hu=>by have:=World.ownsRow.cells h (g:=g) rfl i u hu;rw[Addr.add_lit] at this;exact this⟩⟩
theorem OwnN.rd {w:World}{base:Nat}{v:Value}{L:List Eq3}(h:OwnN w base v L)(hi:∀x∈L,EtP w x.1 x.2):RdN 0 w v L:=h.rdq fun x hx=>(hi x hx).q 0
theorem RdN.at_ {fl:Nat}{w:World}{a:Option Addr}{n cap:Nat}{L:List Eq3}(h:RdN fl w (.slice a n cap) L)(k:Nat)(x:Eq3)(hx:L[k]?=some x):n=L.length∧k<L.length∧∃g off,a=some ⟨g,off,none⟩∧w.cell? ⟨g,off+k * 2,none⟩=some (.slice x.2.a x.1.k.length x.2.c)∧w.cell? ⟨g,off+k * 2+1,none⟩=some (.slice x.2.b x.1.v.length x.2.d)∧IsE w x.1 x.2:=by
 obtain⟨hk,rfl⟩:=List.getElem?_eq_some_iff.1 hx
 obtain⟨a',cap',e,hc,hr⟩:=h.form
 injection e with e1 e2 e3
 obtain⟨g,off,c,fz,e4,hg,hcs⟩:=hr (by omega)
 have h0:=ets_at L k 0 hk (by omega)
 have h1:=ets_at L k 1 hk (by omega)
 exact⟨e2,hk,g,off,e1.trans e4,hcs (k * 2+0) _ h0,hcs (k * 2+1) _ h1,(h.is _ (List.getElem_mem hk)).is⟩
theorem bp_panic {P:Program}{fn:Func}{Q:Ending→World→Prop}{chain:List PanicEntry}{tmps:Array Value}{w:World}(h:Q (.panicked chain) w):bodyPost P fn Q (.panic chain) { tmps:=tmps,defers:=[] } w:=by
 exact⟨rfl,h⟩
def RdZ (w:World)(v:Value)(l:List Nat):Prop:=∃a cap,v=.slice a l.length cap∧l.length≤cap∧(0<l.length→∃g off c fz,a=some ⟨g,off,none⟩∧w.heap[g]?=some (.cells c 3 fz)∧∀i (hi:i<l.length),w.cell? ⟨g,off+i,none⟩=some (.int .i64 (l[i]:Int)))
theorem RdZ.keep {w w':World}{v:Value}{l:List Nat}(h:RdZ w v l)(hk:KeepO UE w w'):RdZ w' v l:=by
 obtain⟨a,cap,e,hc,hr⟩:=h
 refine⟨a,cap,e,hc,fun hp=>?_⟩
 obtain⟨g,off,c,fz,e2,hg,hcs⟩:=hr hp
 have h2:=hk.same g c _ fz hg (by decide)
 exact⟨g,off,c,fz,e2,h2,fun i hi=>(cell_same (h2.trans hg.symm) _).trans (hcs i hi)⟩
theorem RdZ.nil (w:World):RdZ w (.slice none 0 0) []:=⟨none,0,rfl,Nat.le_refl _,fun h=>absurd h (Nat.lt_irrefl 0)⟩
theorem RdZ.at_ {w:World}{a:Option Addr}{n cap:Nat}{l:List Nat}(h:RdZ w (.slice a n cap) l)(k:Nat)(hk:k<l.length):n=l.length∧∃g off,a=some ⟨g,off,none⟩∧w.cell? ⟨g,off+k,none⟩=some (.int .i64 (l[k]:Int)):=by
 obtain⟨a',cap',e,hc,hr⟩:=h
 injection e with e1 e2 e3
 obtain⟨g,off,c,fz,e4,hg,hcs⟩:=hr (by omega)
 exact⟨e2,g,off,e1.trans e4,hcs k hk⟩
theorem zn_at (l:List Nat)(i:Nat)(hi:i<l.length):(zv (l.map Int.ofNat))[i]?=some (.int .i64 (l[i]:Int)):=by unfold zv;simp[hi]
theorem OwnZ.rd {w:World}{base:Nat}{v:Value}{l:List Nat}(h:OwnZ w base v (l.map Int.ofNat)):RdZ w v l:=by
 rcases h.2 with⟨rfl,h0⟩|⟨g,cap,cur,rfl,hb,hg,hle,hmax,hsz,htk⟩
 ·rw[List.length_map] at h0
  have:l=[]:=List.eq_nil_of_length_eq_zero h0
  subst this
  exact RdZ.nil _
 ·rw[List.length_map] at hle
  refine⟨_,cap,by rw[List.length_map],hle,fun hp=>⟨g,0,cur,_,rfl,hg,fun i hi=>?_⟩⟩
  have:=World.ownsRow.cells h (g:=g) rfl i _ (zn_at l i hi)
  rw[Addr.add_lit] at this
  exact this
def pgc (at_:Int)(lv:Nat)(ve vk:Value):List Value:=[.int .i64 at_,.int .i64 (lv:Int),ve,vk]
structure PgR (fl:Nat)(w:World)(p:Pg)(ve vk:Value)(L:List Eq3):Prop where
 e:RdN fl w ve L
 k:RdZ w vk p.ks
 es:L.map Prod.fst=p.es
theorem PgR.keep {fl:Nat}{w w':World}{p:Pg}{ve vk:Value}{L:List Eq3}(h:PgR fl w p ve vk L)(hk:KeepU fl UE w w'):PgR fl w' p ve vk L:=⟨h.e.keep hk,h.k.keep hk.o,h.es⟩
theorem PgR.below {fl:Nat}{w w':World}{p:Pg}{ve vk:Value}{L:List Eq3}(h:PgR fl w p ve vk L)(hk:Below w.heap.size w w'):PgR fl w' p ve vk L:=h.keep (KeepU.of_below hk)
theorem PgR.len {fl:Nat}{w:World}{p:Pg}{ve vk:Value}{L:List Eq3}(h:PgR fl w p ve vk L):L.length=p.es.length:=by rw[←h.es,List.length_map]
theorem PgR.forms {fl:Nat}{w:World}{p:Pg}{ve vk:Value}{L:List Eq3}(h:PgR fl w p ve vk L):∃ea ec ka kc,ve=.slice ea p.es.length ec∧vk=.slice ka p.ks.length kc:=by
 obtain⟨a,c,e,_⟩:=h.e.form
 obtain⟨a2,c2,e2,_⟩:=h.k
 exact⟨a,c,a2,c2,by rw[e,h.len],e2⟩
structure PgF (p:Pg):Prop where
 e0:0<p.lv→p.es=[]
 k0:p.lv=0→p.ks=[]
 n:p.es.length+p.ks.length≤1000
 lv:p.lv≤11
 sz:∀e∈p.es,szE e≤1000
def szP (p:Pg):Nat:=szL p.es+2 * p.ks.length
def refused13 (e:Int):Ending:=.panicked [{ v:=.iface 30 (.int .i64 e),recovered:=false }]
theorem codNeed13 (b:Bool)(e:Int)(w:World):
  Calls Tryz.prog 99 #[.bool b,.int .i64 e] w fun x w'=>x=(if b then .returned (.tuple #[]) else refused13 e)∧w'=w:=by
 cases b
 ·go_enter Tryz.func99,Tryz.ntmps99
  go_wp2
  simp[bodyPost,refused13]
 ·go_enter Tryz.func99,Tryz.ntmps99
  go_wp2
  go_end0
  exact⟨rfl,rfl⟩
theorem needYes13 (e:Int)(w:World):Calls Tryz.prog 99 #[.bool true,.int .i64 e] w fun x w'=>x=.returned (.tuple #[])∧w'=w:=codNeed13 true e w
theorem needNo13 (e:Int)(w:World):Calls Tryz.prog 99 #[.bool false,.int .i64 e] w fun x w'=>x=.panicked [{ v:=.iface 30 (.int .i64 e),recovered:=false }]∧w'=w:=codNeed13 false e w
theorem codIsKey (a:Option Addr)(n c:Nat)(w:World):Calls Tryz.prog 39 #[.slice a n c] w fun e w'=>e=.returned (.bool (decide (1≤n∧n≤100)))∧w'=w:=by
 by_cases h1:1≤n
 ·have h1':(1:Int)≤(n:Int):=by omega
  by_cases h2:n≤100
  ·have h2':(n:Int)≤100:=by omega
   rw[decide_eq_true ⟨h1,h2⟩]
   go_enter Tryz.func39,Tryz.ntmps39
   go_wp2
   go_ret
   first|exact⟨rfl,rfl⟩|simp
  ·have h2':¬(n:Int)≤100:=by omega
   rw[decide_eq_false (fun h=>h2 h.2)]
   go_enter Tryz.func39,Tryz.ntmps39
   go_wp2
   go_ret
   first|exact⟨rfl,rfl⟩|simp
 ·have h1':¬(1:Int)≤(n:Int):=by omega
  rw[decide_eq_false (fun h=>h1 h.1)]
  go_enter Tryz.func39,Tryz.ntmps39
  go_wp2
  go_ret
  first|exact⟨rfl,rfl⟩|simp
theorem codIsItem (a b:Option Addr)(n c m d:Nat)(w:World)(hn:n≤140737488355328):Calls Tryz.prog 40 #[.slice a n c,.slice b m d] w fun e w'=>e=.returned (.bool (decide (n+m≤240)))∧w'=w:=by
 by_cases h1:n+m≤240
 ·have h1':(m:Int)≤240-(n:Int):=by omega
  rw[decide_eq_true h1]
  go_enter Tryz.func40,Tryz.ntmps40
  go_wp2
  go_ret
  first|exact⟨rfl,rfl⟩|simp
 ·have h1':¬(m:Int)≤240-(n:Int):=by omega
  rw[decide_eq_false h1]
  go_enter Tryz.func40,Tryz.ntmps40
  go_wp2
  go_ret
  first|exact⟨rfl,rfl⟩|simp
theorem codLen13 (at_:Int)(lv:Nat)(ea ka:Option Addr)(n ec m kc:Nat)(w:World)(hn:n+m≤1000):
  Calls Tryz.prog 70 #[.agg (pgc at_ lv (.slice ea n ec) (.slice ka m kc)).toArray] w fun e w'=>e=.returned (.int .i64 ((n+m:Nat):Int))∧Below w.heap.size w w':=by
 have kb:=Blk.new w 133 (pgc at_ lv (.slice ea n ec) (.slice ka m kc))
 have hY:Below w.heap.size w (w.alloc (.cells (pgc at_ lv (.slice ea n ec) (.slice ka m kc)).toArray 133)):=(Below.refl _ w).alloc (Nat.le_refl _) _
 unfold pgc at *
 have c2:=kb.cell 2
 have c3:=kb.cell 3
 simp only[gZ0,gZ1] at c2 c3
 have HY:=mkHid hY
 clear kb hY
 go_enter Tryz.func70,Tryz.ntmps70
 go_wp2_with fail
 go_ret
 exact⟨by simp,HY.out⟩
variable {fl:Nat}
theorem codSizeUp (at_:Int)(lv:Nat)(ve vk:Value)(k:Int)(w:World)(hl:0<lv):
  Calls Tryz.prog 199 #[.agg (pgc at_ lv ve vk).toArray,.int .i64 k] w fun e w'=>e=.returned (.int .i64 2)∧Below w.heap.size w w':=by
 have kb:=Blk.new w 133 (pgc at_ lv ve vk)
 have hY:Below w.heap.size w (w.alloc (.cells (pgc at_ lv ve vk).toArray 133)):=(Below.refl _ w).alloc (Nat.le_refl _) _
 unfold pgc at *
 have c1:=kb.cell 1
 simp only[gZ0,gZ1] at c1
 have HY:=mkHid hY
 have hl':(0:Int)<(lv:Int):=by omega
 clear kb hY
 go_enter Tryz.func199,Tryz.ntmps199
 go_wp2_with fail
 go_ret
 exact⟨rfl,HY.out⟩
theorem codSizeLow (at_:Int)(L:List Eq3)(ve vk:Value)(k:Nat)(x:Eq3)(w:World)(hr:RdN fl w ve L)(hx:L[k]?=some x)(hz:szE x.1≤1000):
  Calls Tryz.prog 199 #[.agg (pgc at_ 0 ve vk).toArray,.int .i64 (k:Int)] w fun e w'=>e=.returned (.int .i64 (szE x.1:Int))∧Below w.heap.size w w':=by
 have hY:Below w.heap.size w (w.alloc (.cells (pgc at_ 0 ve vk).toArray 133)):=(Below.refl _ w).alloc (Nat.le_refl _) _
 obtain⟨a,cap,rfl,hc,_⟩:=hr.form
 obtain⟨_,hk,g,off,rfl,d0,d1,_⟩:=(hr.keep (KeepU.of_below hY)).at_ k x hx
 have kb:=Blk.new w 133 (pgc at_ 0 (.slice (some ⟨g,off,none⟩) L.length cap) vk)
 unfold pgc at *
 have c1:=kb.cell 1
 have c2:=kb.cell 2
 simp only[gZ0,gZ1] at c1 c2
 have HY:=mkHid hY
 have hk':(k:Int)<(L.length:Int):=by omega
 have hE:Hid (((szE x.1:Nat):Int)=2+(x.1.k.length:Int)+(x.1.v.length:Int)):=by unfold Hid szE;omega
 unfold szE at hz
 have hz1:x.1.k.length≤1000:=by omega
 have hz2:x.1.v.length≤1000:=by omega
 clear kb hY hz hx hr
 generalize x.1.k.length=n1 at *
 generalize x.1.v.length=n2 at *
 generalize szE x.1=z at *
 generalize x.2.a=qa at *
 generalize x.2.b=qb at *
 generalize x.2.c=qc at *
 generalize x.2.d=qd at *
 generalize L.length=n at *
 simp only[Int.natCast_zero] at *
 go_enter Tryz.func199,Tryz.ntmps199
 go_wp2_with fail
 go_region
 all_goals
  go_wp2
  go_ret
  exact⟨by rw[hE.out];rfl,HY.out.drew⟩
def szK (p:Pg)(k:Nat):Nat:=if p.lv=0 then szL (p.es.take k) else 2 * k
theorem szK_all {p:Pg}(h:PgF p):szK p (p.es.length+p.ks.length)=szP p:=by
 unfold szK szP
 by_cases h0:p.lv=0
 ·rw[if_pos h0,h.k0 h0,List.length_nil,Nat.add_zero,List.take_length];omega
 ·rw[if_neg h0,h.e0 (by omega)];rw[List.length_nil,szL];omega
theorem szK_le {p:Pg}(h:PgF p)(k:Nat)(hk:k≤p.es.length+p.ks.length):szK p k≤1000000:=by
 unfold szK
 split
 ·rename_i h0
  have:∀l:List Et,(∀e∈l,szE e≤1000)→szL l≤1000 * l.length:=by
   intro l
   induction l with
   | nil=>intro _;exact Nat.le_refl _
   | cons e l ih =>
    intro hl
    have h1:=ih (fun x hx=>hl x (List.mem_cons_of_mem _ hx))
    have h2:=hl e List.mem_cons_self
    rw[szL,List.length_cons];omega
  have h1:=this (p.es.take k) (fun e he=>h.sz e (List.mem_of_mem_take he))
  have h2:(p.es.take k).length≤1000:=by have:=h.n;rw[List.length_take];omega
  omega
 ·have:=h.n;omega
theorem codSizeOf (at_:Int)(p:Pg)(ve vk:Value)(L:List Eq3)(k:Nat)(w:World)(h:PgR fl w p ve vk L)(hf:PgF p)(hk:k<p.es.length+p.ks.length):
  Calls Tryz.prog 199 #[.agg (pgc at_ p.lv ve vk).toArray,.int .i64 (k:Int)] w fun e w'=>(∃z:Nat,e=.returned (.int .i64 (z:Int))∧szK p (k+1)=szK p k+z∧z≤1000)∧Below w.heap.size w w':=by
 by_cases h0:p.lv=0
 ·rw[h0]
  have hk2:k<L.length:=by have:=hf.k0 h0;rw[this,List.length_nil] at hk;rw[h.len];exact hk
  obtain⟨x,hx⟩:∃x,L[k]?=some x:=⟨L[k],List.getElem?_eq_getElem hk2⟩
  have hxe:p.es[k]?=some x.1:=by rw[←h.es,List.getElem?_map,hx];rfl
  obtain⟨hk3,hxe2⟩:=List.getElem?_eq_some_iff.1 hxe
  have hz:szE x.1≤1000:=hf.sz _ (by rw[←hxe2];exact List.getElem_mem hk3)
  refine(codSizeLow at_ L ve vk k x w h.e hx hz).mono ?_
  rintro e w' ⟨rfl,hb⟩
  refine⟨⟨_,rfl,?_,hz⟩,hb⟩
  unfold szK
  rw[if_pos h0,if_pos h0,szL_take_succ hk3]
  congr 2
  simp[hk3,hxe2]
 ·refine(codSizeUp at_ p.lv ve vk k w (by omega)).mono ?_
  rintro e w' ⟨rfl,hb⟩
  refine⟨⟨2,rfl,?_,by omega⟩,hb⟩
  unfold szK
  rw[if_neg h0,if_neg h0]
  omega
theorem codSize13 (at_:Int)(p:Pg)(ve vk:Value)(L:List Eq3)(w:World)(h:PgR fl w p ve vk L)(hf:PgF p):
  Calls Tryz.prog 180 #[.agg (pgc at_ p.lv ve vk).toArray] w fun e w'=>e=.returned (.int .i64 (szP p:Int))∧Below w.heap.size w w':=by
 obtain⟨ea,ec,ka,kc,rfl,rfl⟩:=h.forms
 have hY:Below w.heap.size w (w.alloc (.cells (pgc at_ p.lv (.slice ea p.es.length ec) (.slice ka p.ks.length kc)).toArray 133)):=(Below.refl _ w).alloc (Nat.le_refl _) _
 have kb:=Blk.new w 133 (pgc at_ p.lv (.slice ea p.es.length ec) (.slice ka p.ks.length kc))
 have HL:=codLen13 at_ p.lv ea ka p.es.length ec p.ks.length kc (w.alloc (.cells (pgc at_ p.lv (.slice ea p.es.length ec) (.slice ka p.ks.length kc)).toArray 133)) hf.n
 have HZ:Hid (∀W k,Below w.heap.size w W→k<p.es.length+p.ks.length→Calls Tryz.prog 199 #[.agg (pgc at_ p.lv (.slice ea p.es.length ec) (.slice ka p.ks.length kc)).toArray,.int .i64 ((k:Nat):Int)] W fun e w'=>(∃z:Nat,e=.returned (.int .i64 (z:Int))∧szK p (k+1)=szK p k+z∧z≤1000)∧Below W.heap.size W w'):=fun W k hW hk=>codSizeOf at_ p _ _ L k W (h.below hW) hf hk
 have HA:=mkHid (szK_all hf)
 have HK0:Hid (szK p 0=0):=by unfold Hid szK;split<;>simp[szL]
 have HM:Hid (∀k,k≤p.es.length+p.ks.length→szK p k≤1000000):=fun k hk=>szK_le hf k hk
 have hn:=hf.n
 have HY:=mkHid hY
 have HKb:=mkHid kb
 have hl:=hf.lv
 unfold pgc at HL kb HY HKb HZ ⊢
 generalize szP p=Z at *
 generalize szK p=S at *
 generalize p.lv=lv at *
 clear h hf hY
 generalize p.es.length=n at *
 generalize p.ks.length=m at *
 generalize hq:n+m=q at *
 clear hq
 have c0:=kb.cell 0
 have c1:=kb.cell 1
 have c2:=kb.cell 2
 have c3:=kb.cell 3
 simp only[gZ0,gZ1] at c0 c1 c2 c3
 clear kb
 go_enter Tryz.func180,Tryz.ntmps180
 go_wp2_with (go_at_call 70;refine HL.mono ?_;rintro e y1 ⟨rfl,hb1⟩)
 have HB1:=mkHid (HY.out.trans (hb1.mono HY.out.size))
 have HK1:=mkHid (HKb.out.on hb1)
 clear hb1 c0 c1 c2 c3 HL
 go_loopw [3,7] (fun s i wr=>∃(k:Nat),k≤q∧i=.int .i64 (k:Int)∧s=.int .i64 ((S k:Nat):Int)∧Hid (Below w.heap.size w wr)∧Hid (Blk wr w.heap.size 133 [.int .i64 at_,.int .i64 (lv:Int),.slice ea n ec,.slice ka m kc])) (fun _ i _=>q-(Go.RowKit.intOf i).toNat)
 case atStart=>exact⟨0,Nat.zero_le _,rfl,by rw[HK0.out];rfl,HB1,HK1⟩
 case round =>
  obtain⟨k,hk,rfl,rfl,HB,HK⟩:=hrel
  clear HB1 HK1
  have d0:=HK.out.cell 0
  have d1:=HK.out.cell 1
  have d2:=HK.out.cell 2
  have d3:=HK.out.cell 3
  simp only[gZ0,gZ1] at d0 d1 d2 d3
  by_cases hlt:k<q
  ·have hlt':(k:Int)<(q:Int):=by omega
   have HC:=HZ.out wr k HB.out hlt
   have hS:=HM.out k hk
   go_wp2_with (go_at_call 199;refine HC.mono ?_;rintro e y2 ⟨⟨z,rfl,hz,hz2⟩,hb2⟩)
   go_roundw
   case rel=>exact⟨k+1,by omega,by go_num,by rw[hz];go_num,HB.out.trans (hb2.mono HB.out.size),HK.out.on hb2⟩
   case measure=>simp[Go.RowKit.intOf];omega
  ·have hlt':¬(k:Int)<(q:Int):=by omega
   have hkq:k=q:=by omega
   subst hkq
   go_wp2_with fail
   go_ret
   exact⟨by rw[HA.out];rfl,HB.out⟩
theorem codFits (at_:Int)(p:Pg)(ve vk:Value)(L:List Eq3)(w:World)(h:PgR fl w p ve vk L)(hf:PgF p):
  Calls Tryz.prog 145 #[.agg (pgc at_ p.lv ve vk).toArray] w fun e w'=>e=.returned (.bool (decide (szP p≤509)))∧Below w.heap.size w w':=by
 have hY:Below w.heap.size w (w.alloc (.cells (pgc at_ p.lv ve vk).toArray 133)):=(Below.refl _ w).alloc (Nat.le_refl _) _
 have kb:=Blk.new w 133 (pgc at_ p.lv ve vk)
 have HS:=codSize13 at_ p ve vk L _ (h.below hY) hf
 obtain⟨ea,ec,ka,kc,rfl,rfl⟩:=h.forms
 unfold pgc at *
 have c0:=kb.cell 0
 have c1:=kb.cell 1
 have c2:=kb.cell 2
 have c3:=kb.cell 3
 simp only[gZ0,gZ1] at c0 c1 c2 c3
 have HY:=mkHid hY
 clear h hf kb hY
 generalize szP p=Z at *
 generalize p.lv=lv at *
 generalize p.es.length=n at *
 generalize p.ks.length=m at *
 by_cases hz:Z≤509
 ·have hz':(Z:Int)≤509:=by omega
  rw[decide_eq_true hz]
  go_enter Tryz.func145,Tryz.ntmps145
  go_wp2_with (go_at_call 180;refine HS.mono ?_;rintro e y1 ⟨rfl,hb1⟩)
  go_ret
  exact⟨by first|(simp;done)|(simp[hz'];done),HY.out.trans (hb1.mono HY.out.size)⟩
 ·have hz':¬(Z:Int)≤509:=by omega
  rw[decide_eq_false hz]
  go_enter Tryz.func145,Tryz.ntmps145
  go_wp2_with (go_at_call 180;refine HS.mono ?_;rintro e y1 ⟨rfl,hb1⟩)
  go_ret
  exact⟨by first|(simp;done)|(simp[hz'];done),HY.out.trans (hb1.mono HY.out.size)⟩
end
section
open Go.RowKit
theorem bytesOf_map (l:List UInt8):Lib.bytesOf (l.map fun b=>((b.toNat:Nat):Int))=l:=by
 unfold Lib.bytesOf
 rw[List.map_map]
 conv=>rhs;rw[←List.map_id l]
 refine List.map_congr_left (fun b _=>?_)
 simp
theorem load_isB {w:World}{a:Option Addr}{n c:Nat}{l:List UInt8}(h:IsB w a n c l):(Extern.Bytes.bytesOf (.slice a n c)).run Tryz.prog w=.ok ⟨l.toArray⟩ w:=by
 cases a with
 | none =>
  have h0:=h.nil rfl
  have h1:=h.le
  have h2:=h.len_eq
  have:l=[]:=List.eq_nil_of_length_eq_zero (by omega)
  subst this
  rfl
 | some ad =>
  by_cases hp:0<n
  ·obtain⟨b,off,e,hc⟩:=h.cells hp
   have e2:=Option.some.inj e
   subst e2
   have hl:=Lib.run_loadBytesX (P:=Tryz.prog) w (l.map fun b=>((b.toNat:Nat):Int)) ⟨b,off,none⟩ .empty (fun j x hj=>by
    rw[List.getElem?_map] at hj
    obtain⟨y,hy,rfl⟩:=Option.map_eq_some_iff.1 hj
    have hjl:j<l.length:=(List.getElem?_eq_some_iff.1 hy).1
    rw[Addr.add_lit,hc j (by rw[←h.len_eq];exact hjl)]
    unfold nth
    rw[List.getD_eq_getElem?_getD,hy]
    rfl)
   rw[List.length_map,h.len_eq,bytesOf_map] at hl
   refine hl.trans ?_
   congr 1
   apply ByteArray.ext
   show (#[]:Array UInt8)++l.toArray=l.toArray
   simp
  ·have h2:=h.len_eq
   have h3:n=0:=by omega
   have:l=[]:=List.eq_nil_of_length_eq_zero (by omega)
   subst this h3
   rfl
theorem run_cmpB (w:World){a1 a2:Option Addr}{n1 c1 n2 c2:Nat}{l m:List UInt8}(h1:IsB w a1 n1 c1 l)(h2:IsB w a2 n2 c2 m):
  (callFunc 156 #[.slice a1 n1 c1,.slice a2 n2 c2]).run Tryz.prog w=.ok (.value (.int .i64 (Lib.compareBytes l m))) w:=by
 rw[run_callFunc_extern (P:=Tryz.prog) (e:=Extern.BytealgCompare.compare) Tryz.func156 (by kernel_rfl) (by kernel_rfl) (by kernel_rfl) (by kernel_rfl)]
 have hs:(Extern.BytealgCompare.compare #[.slice a1 n1 c1,.slice a2 n2 c2]).run Tryz.prog w=.ok (.int .i64 (Lib.compareBytes l m)) w:=by
  change Sem.run Tryz.prog (do pure (goInt (Extern.BytealgCompare.cmp (←Extern.Bytes.bytesOf (.slice a1 n1 c1)) (←Extern.Bytes.bytesOf (.slice a2 n2 c2))))) w=_
  simp only[Sem.run_bind,Sem.run_pure,load_isB h1,load_isB h2,Result.andThen]
  rw[Lib.cmp_eq]
  rfl
 rw[hs]
 rfl
theorem codCompare (a1 a2:Option Addr)(n1 n2 c1 c2:Nat)(l m:List UInt8)(w:World)(h1:IsB w a1 n1 c1 l)(h2:IsB w a2 n2 c2 m):
  Calls Tryz.prog 111 #[.slice a1 n1 c1,.slice a2 n2 c2] w fun e w'=>e=.returned (.int .i64 (Lib.compareBytes l m))∧w'=w:=by
 have hr:=run_cmpB w h1 h2
 clear h1 h2
 generalize Lib.compareBytes l m=z at *
 go_enter Tryz.func111,Tryz.ntmps111
 go_wp2
 go_ret
 exact⟨rfl,rfl⟩
theorem cb_lt (x y:List UInt8):Lib.compareBytes x y<0↔Op.bytesLess x y=true:=by
 induction x generalizing y with
 | nil=>cases y<;>simp[Lib.compareBytes,Op.bytesLess]
 | cons a x ih =>
  cases y with
  | nil=>simp[Lib.compareBytes,Op.bytesLess]
  | cons b y =>
   rw[Lib.compareBytes,lt_cons,Bool.or_eq_true,decide_eq_true_eq,Bool.and_eq_true,beq_iff_eq]
   by_cases h:a<b
   ·simp[h]
   ·rw[if_neg h]
    by_cases h2:b<a
    ·rw[if_pos h2]
     have h3:¬a=b:=fun e=>by subst e;exact h h2
     simp[h,h3]
    ·rw[if_neg h2,ih]
     have e:a=b:=by
      have h3:¬a.toNat<b.toNat:=fun h'=>h (UInt8.lt_iff_toNat_lt.2 h')
      have h4:¬b.toNat<a.toNat:=fun h'=>h2 (UInt8.lt_iff_toNat_lt.2 h')
      exact UInt8.toNat_inj.1 (by omega)
     subst e
     simp[h]
theorem cb_swap (x y:List UInt8):0<Lib.compareBytes x y↔Lib.compareBytes y x<0:=by
 induction x generalizing y with
 | nil=>cases y<;>simp[Lib.compareBytes]
 | cons a x ih =>
  cases y with
  | nil=>simp[Lib.compareBytes]
  | cons b y =>
   rw[Lib.compareBytes,Lib.compareBytes]
   by_cases h:a<b
   ·have h2:¬b<a:=fun h'=>UInt8.lt_irrefl _ (UInt8.lt_trans h h')
    simp[h,h2]
   ·by_cases h2:b<a
    ·simp[h,h2]
    ·simp[h,h2,ih]
theorem cb_gt (x y:List UInt8):0<Lib.compareBytes x y↔Op.bytesLess y x=true:=(cb_swap x y).trans (cb_lt y x)
theorem cb_eq (x y:List UInt8):Lib.compareBytes x y=0↔x=y:=by
 constructor
 ·intro h
  rcases lt_tot x y with h1|h1|h1
  ·have:=(cb_lt x y).2 h1;omega
  ·exact h1
  ·have:=(cb_gt x y).2 h1;omega
 ·rintro rfl
  have h1:¬Lib.compareBytes x x<0:=fun h=>by have:=(cb_lt x x).1 h;rw[lt_irr] at this;cases this
  have h2:¬0<Lib.compareBytes x x:=fun h=>by have:=(cb_gt x x).1 h;rw[lt_irr] at this;cases this
  omega
variable {fl:Nat}
theorem codFind1 (x:Eq3)(b:Option Addr)(m d:Nat)(key:List UInt8)(w:World)(hx:EtQ fl w x.1 x.2)(hb:IsB w b m d key):
  Calls Tryz.prog 114 #[.agg #[.slice x.2.a x.1.k.length x.2.c,.slice x.2.b x.1.v.length x.2.d],.slice b m d] w fun e w'=>e=.returned (.int .i64 (Lib.compareBytes x.1.k key))∧Below w.heap.size w w':=by
 have hY:Below w.heap.size w (w.alloc (.cells #[.slice x.2.a x.1.k.length x.2.c,.slice x.2.b x.1.v.length x.2.d] 64)):=(Below.refl _ w).alloc (Nat.le_refl _) _
 have kb:=Blk.new w 64 [.slice x.2.a x.1.k.length x.2.c,.slice x.2.b x.1.v.length x.2.d]
 have c0:=kb.cell 0
 simp only[List.getElem?_cons_zero] at c0
 have HC:=codCompare x.2.a b x.1.k.length m x.2.c d x.1.k key _ (hx.is.below hY).k (hb.below hY rfl)
 have HY:=mkHid hY
 clear kb hY hx hb
 generalize Lib.compareBytes x.1.k key=z at *
 generalize x.1.k.length=n1 at *
 generalize x.1.v.length=n2 at *
 generalize x.2.a=qa at *
 generalize x.2.b=qb at *
 generalize x.2.c=qc at *
 generalize x.2.d=qd at *
 go_enter Tryz.func114,Tryz.ntmps114
 go_wp2_with (go_at_call 111;refine HC.mono ?_;rintro e y1 ⟨rfl,hw1⟩;rw[hw1];clear hw1)
 go_ret
 exact⟨rfl,HY.out⟩
theorem getD_map (L:List Eq3)(k:Nat)(x:Eq3)(h:L[k]?=some x):(L.map Prod.fst).getD k et0=x.1:=by rw[List.getD_eq_getElem?_getD,List.getElem?_map,h];rfl
theorem srt_at {l:List Et}(h:SrtE l){i k:Nat}(hi:i<k)(hk:k<l.length):Op.bytesLess (l.getD i et0).k (l.getD k et0).k=true:=by
 have h1:=List.pairwise_iff_getElem.1 h i k (by omega) hk hi
 rw[List.getD_eq_getElem?_getD,List.getD_eq_getElem?_getD,List.getElem?_eq_getElem hk,List.getElem?_eq_getElem (by omega)]
 exact h1
theorem codBsf (ve:Value)(L:List Eq3)(b:Option Addr)(m d:Nat)(key:List UInt8)(w:World)(hr:RdN fl w ve L)(hs:SrtE (L.map Prod.fst))(hb:IsB w b m d key)(hn:L.length≤1000):
  Calls Tryz.prog 113 #[ve,.slice b m d,.func (.func 114) #[] #[]] w fun e w'=>e=.returned (.tuple #[.int .i64 (atE (L.map Prod.fst) key:Int),.bool (hasE13 (L.map Prod.fst) key)])∧Below w.heap.size w w':=by
 obtain⟨a,cap,rfl,hc,_⟩:=hr.form
 have HR:Hid (∀W,Below w.heap.size w W→∀k,k<L.length→∃x g off,L[k]?=some x∧a=some ⟨g,off,none⟩∧W.cell? ⟨g,off+k * 2,none⟩=some (.slice x.2.a x.1.k.length x.2.c)∧W.cell? ⟨g,off+k * 2+1,none⟩=some (.slice x.2.b x.1.v.length x.2.d)∧Calls Tryz.prog 114 #[.agg #[.slice x.2.a x.1.k.length x.2.c,.slice x.2.b x.1.v.length x.2.d],.slice b m d] W fun e w'=>e=.returned (.int .i64 (Lib.compareBytes ((L.map Prod.fst).getD k et0).k key))∧Below W.heap.size W w'):=fun W hW k hk=>by
  have hx:L[k]?=some L[k]:=List.getElem?_eq_getElem hk
  obtain⟨_,_,g,off,e1,d0,d1,_⟩:=(hr.keep (KeepU.of_below hW)).at_ k _ hx
  refine⟨L[k],g,off,hx,e1,d0,d1,?_⟩
  rw[getD_map L k _ hx]
  exact codFind1 _ b m d key W (((hr.keep (KeepU.of_below hW)).is) _ (List.getElem_mem hk)) (hb.below hW rfl)
 have HU:Hid (∀k,k≤L.length→(∀t,t<k→Lib.compareBytes ((L.map Prod.fst).getD t et0).k key<0)→(∀t,k≤t→t<L.length→0≤Lib.compareBytes ((L.map Prod.fst).getD t et0).k key)→k=atE (L.map Prod.fst) key):=fun k hk h1 h2=>atE_uniq (by rw[List.length_map];exact hk) (fun i hi=>(cb_lt _ _).1 (h1 i hi)) (fun hi=>by
  rw[List.length_map] at hi
  have:=h2 k (Nat.le_refl _) hi
  exact Bool.eq_false_iff.2 (fun h=>by have:=(cb_lt _ _).2 h;omega))
 have HH:Hid (∀k,k=atE (L.map Prod.fst) key→hasE13 (L.map Prod.fst) key=(decide (k<L.length)&&decide (Lib.compareBytes ((L.map Prod.fst).getD k et0).k key=0))):=fun k hk=>by
  unfold hasE13 isE
  rw[←hk,List.length_map]
  congr 1
  rw[Bool.eq_iff_iff,decide_eq_true_eq,cb_eq,beq_iff_eq]
 have HM1:Hid (∀i k,i<k→k<L.length→Lib.compareBytes ((L.map Prod.fst).getD k et0).k key<0→Lib.compareBytes ((L.map Prod.fst).getD i et0).k key<0):=fun i k h1 h2 h3=>by
  rw[cb_lt] at h3 ⊢
  exact lt_tr _ _ _ (srt_at hs h1 (by rw[List.length_map];exact h2)) h3
 generalize L.length=n at *
 generalize atE (L.map Prod.fst) key=A at *
 generalize hasE13 (L.map Prod.fst) key=Hh at *
 generalize hcf:(fun k=>Lib.compareBytes ((L.map Prod.fst).getD k et0).k key)=cf
 have hcf':∀k,Lib.compareBytes ((L.map Prod.fst).getD k et0).k key=cf k:=fun k=>by rw[←hcf]
 simp only[hcf'] at HR HU HH HM1
 clear hr hs hb hcf hcf'
 go_enter Tryz.func113,Tryz.ntmps113
 go_wp2
 go_loopg [9,10] n (fun kx s9 s10 wr=>∃lo hi:Nat,s9=.int .i64 (lo:Int)∧s10=.int .i64 (hi:Int)∧lo≤hi∧hi≤n∧hi-lo≤kx∧Hid (Below w.heap.size w wr)∧Hid (∀t,t<lo→cf t<0)∧Hid (∀t,hi≤t→t<n→0≤cf t))
 case atStart=>exact⟨0,n,rfl,rfl,Nat.zero_le _,Nat.le_refl _,by omega,Below.refl _ _,fun t ht=>absurd ht (Nat.not_lt_zero _),fun t h1 h2=>absurd h2 (by omega)⟩
 case round =>
  obtain⟨lo,hi,rfl,rfl,hlh,hin,hg,HB,HI,HJ⟩:=hrel
  by_cases hlt:lo<hi
  ·obtain⟨x,g,off,hx,hae,d0,d1,HC⟩:=HR.out wr HB.out ((lo+hi)/2) (by omega)
   subst hae
   clear hx
   generalize x.1.k.length=n1 at *
   generalize x.1.v.length=n2 at *
   generalize x.2.a=qa at *
   generalize x.2.b=qb at *
   generalize x.2.c=qc at *
   generalize x.2.d=qd at *
   generalize hcz:cf ((lo+hi)/2)=z at *
   have HCz:=mkHid hcz
   clear hcz
   by_cases hz:z<0
   ·go_wp2_with (go_at_call 114;refine HC.mono ?_;rintro e w' ⟨rfl,hb1⟩)
    go_roundg (hi-((lo+hi)/2+1))
    case measure=>omega
    case rel =>
     refine⟨(lo+hi)/2+1,hi,by rw[show ((lo:Int)+(hi:Int))/2+1=(((lo+hi)/2+1:Nat):Int) by omega],rfl,by omega,hin,Nat.le_refl _,HB.out.trans (hb1.mono HB.out.size),fun t ht=>?_,HJ⟩
     by_cases e:t=(lo+hi)/2
     ·rw[e,HCz.out];exact hz
     ·exact HM1.out t ((lo+hi)/2) (by omega) (by omega) (by rw[HCz.out];exact hz)
   ·go_wp2_with (go_at_call 114;refine HC.mono ?_;rintro e w' ⟨rfl,hb1⟩)
    go_roundg ((lo+hi)/2-lo)
    case measure=>omega
    case rel =>
     refine⟨lo,(lo+hi)/2,rfl,by rw[show ((lo:Int)+(hi:Int))/2=(((lo+hi)/2:Nat):Int) by omega],by omega,by omega,Nat.le_refl _,HB.out.trans (hb1.mono HB.out.size),HI,fun t h1 h2=>Int.not_lt.1 (fun h3=>?_)⟩
     by_cases e:t=(lo+hi)/2
     ·rw[e,HCz.out] at h3;omega
     ·have:=HM1.out ((lo+hi)/2) t (by omega) h2 h3
      rw[HCz.out] at this
      omega
  ·obtain rfl:hi=lo:=by omega
   have hA:=HU.out hi hin HI.out HJ.out
   have hH:=HH.out hi hA
   subst hA
   by_cases hn2:hi<n
   ·obtain⟨x,g,off,hx,hae,d0,d1,HC⟩:=HR.out wr HB.out hi hn2
    subst hae
    clear hx
    generalize x.1.k.length=n1 at *
    generalize x.1.v.length=n2 at *
    generalize x.2.a=qa at *
    generalize x.2.b=qb at *
    generalize x.2.c=qc at *
    generalize x.2.d=qd at *
    generalize hcz:cf hi=z at *
    have HHz:=mkHid hH
    clear hcz hH
    by_cases hz:z=0
    ·go_wp2_with (go_at_call 114;refine HC.mono ?_;rintro e w' ⟨rfl,hb1⟩)
     go_ret2
     exact⟨by rw[HHz.out];simp[hn2,hz],HB.out.trans (hb1.mono HB.out.size)⟩
    ·go_wp2_with (go_at_call 114;refine HC.mono ?_;rintro e w' ⟨rfl,hb1⟩)
     go_ret2
     exact⟨by rw[HHz.out];simp[hn2,hz],HB.out.trans (hb1.mono HB.out.size)⟩
   ·have HHz:=mkHid hH
    clear hH
    go_wp2
    go_ret2
    exact⟨by rw[HHz.out];simp[hn2],HB.out⟩
theorem codFind13 (at_:Int)(lv:Nat)(ve vk:Value)(L:List Eq3)(b:Option Addr)(m d:Nat)(key:List UInt8)(w:World)(hr:RdN fl w ve L)(hs:SrtE (L.map Prod.fst))(hb:IsB w b m d key)(hn:L.length≤1000):
  Calls Tryz.prog 74 #[.agg (pgc at_ lv ve vk).toArray,.slice b m d] w fun e w'=>e=.returned (.tuple #[.int .i64 (atE (L.map Prod.fst) key:Int),.bool (hasE13 (L.map Prod.fst) key)])∧Below w.heap.size w w':=by
 have hY:Below w.heap.size w (w.alloc (.cells (pgc at_ lv ve vk).toArray 133)):=(Below.refl _ w).alloc (Nat.le_refl _) _
 have kb:=Blk.new w 133 (pgc at_ lv ve vk)
 have HS:=codBsf ve L b m d key _ (hr.keep (KeepU.of_below hY)) hs (hb.below hY rfl) hn
 unfold pgc at *
 have c2:=kb.cell 2
 simp only[gZ0,gZ1] at c2
 have HY:=mkHid hY
 clear hr hs hb kb hY
 generalize atE (L.map Prod.fst) key=A at *
 generalize hasE13 (L.map Prod.fst) key=Hh at *
 go_enter Tryz.func74,Tryz.ntmps74
 go_wp2_with (go_at_call 113;refine HS.mono ?_;rintro e y1 ⟨rfl,hb1⟩)
 go_ret2
 exact⟨rfl,HY.out.trans (hb1.mono HY.out.size)⟩
end
section
open Go.RowKit
theorem zeros_app (a b:List UInt8):zerosL (a++b)=(zerosL a&&zerosL b):=by unfold zerosL;exact List.all_append
theorem drop_nth (l:List UInt8)(k:Nat)(hk:k<l.length):l.drop k=nth l k::l.drop (k+1):=by
 rw[List.drop_eq_getElem_cons hk];unfold nth;simp[hk]
theorem zeros_cons (b:UInt8)(l:List UInt8):zerosL (b::l)=(b==0&&zerosL l):=rfl
theorem codTrimR (a:Option Addr)(n c:Nat)(l:List UInt8)(w:World)(h:IsB w a n c l)(hn:n≤1000000):
  Calls Tryz.prog 172 #[.slice a n c,.int .u8 0] w fun e w'=>(∃k,e=.returned (.slice a k c)∧IsB w a k c (l.take k)∧k≤n∧zerosL l=zerosL (l.take k)∧(zerosL (l.take k)=true→k=0))∧w'=w:=by
 have hl:=h.len_eq
 have HI:Hid (∀k,k≤n→IsB w a k c (l.take k)):=fun k hk=>by
  by_cases h0:0<n
  ·obtain⟨b,off,e,_⟩:=h.cells h0
   subst e
   exact h.head k hk
  ·have:k=n:=by omega
   subst this
   rw[←hl,List.take_length,hl]
   exact h
 have HC:Hid (0<n→∃b off,a=some ⟨b,off,none⟩∧∀i,i<n→w.cell? ⟨b,off+i,none⟩=some (.int .u8 ((nth l i).toNat:Int))):=h.cells
 have hc:=h.le
 have hmx:=h.max
 unfold maxLen at hmx
 have HSn:Hid (∀k,k<n→zerosL (l.drop k)=(nth l k==0&&zerosL (l.drop (k+1)))):=fun k hk=>by rw[drop_nth l k (by omega),zeros_cons]
 have HSt:Hid (∀k,k<n→zerosL (l.take (k+1))=(zerosL (l.take k)&&nth l k==0)):=fun k hk=>by
  rw[List.take_succ_eq_append_getElem (by omega:k<l.length),zeros_app]
  congr 1
  unfold nth zerosL
  simp[show k<l.length by omega]
 have HSa:Hid (∀k,k≤n→zerosL (l.drop k)=true→zerosL l=zerosL (l.take k)):=fun k _ h1=>by
  conv=>lhs;rw[←List.take_append_drop k l]
  rw[zeros_app,h1,Bool.and_true]
 have HS0:Hid (zerosL (l.drop n)=true):=by unfold Hid;rw[List.drop_of_length_le (by omega)];rfl
 generalize (fun i=>nth l i)=f at *
 clear h
 go_enter Tryz.func172,Tryz.ntmps172
 go_wp2
 go_loopg [0] n (fun kx s0 wr=>∃k:Nat,s0=.slice a k c∧k≤n∧k≤kx∧wr=w∧Hid (zerosL (l.drop k)=true))
 case atStart=>exact⟨n,rfl,Nat.le_refl _,Nat.le_refl _,rfl,HS0⟩
 case round =>
  obtain⟨k,rfl,hk,hkx,rfl,HZ⟩:=hrel
  by_cases h0:0<k
  ·obtain⟨q,rfl⟩:∃q,k=q+1:=⟨k-1,by omega⟩
   obtain⟨b,off,e,hcs⟩:=HC.out (by omega)
   subst e
   have c0:=hcs q (by omega)
   have hq1:((q+1:Nat):Int)-1=(q:Int):=by omega
   have hsl:=fun W=>slH .i64 b off (q+1) c q (by omega) W
   have HDq:=HSn.out q (by omega)
   have HTq:=HSt.out q (by omega)
   clear hcs
   by_cases hz:nth l q=0
   ·have hz':((nth l q).toNat:Int)=0:=by rw[hz];rfl
    rw[hz'] at c0
    go_wp2_with fail
    go_roundg q
    case measure=>omega
    case rel=>exact⟨q,rfl,by omega,Nat.le_refl _,rfl,by unfold Hid;rw[HDq,hz,HZ.out];rfl⟩
   ·have hz':¬((nth l q).toNat:Int)=0:=fun e=>hz (UInt8.toNat_inj.1 (by simpa using e))
    go_wp2_with fail
    go_ret
    refine⟨⟨q+1,rfl,HI.out _ hk,hk,HSa.out _ hk HZ.out,fun h1=>?_⟩,rfl⟩
    rw[HTq,Bool.and_eq_true,beq_iff_eq] at h1
    exact absurd h1.2 hz
  ·have hk0:k=0:=by omega
   subst hk0
   go_wp2_with fail
   go_ret
   exact⟨⟨0,rfl,HI.out _ hk,hk,HSa.out _ hk HZ.out,fun _=>rfl⟩,rfl⟩
theorem codTrimL (a:Option Addr)(n c:Nat)(l:List UInt8)(w:World)(h:IsB w a n c l)(hn:n≤1000000):
  Calls Tryz.prog 171 #[.slice a n c,.int .u8 0] w fun e w'=>(∃a' n' c',e=.returned (.slice a' n' c')∧n'≤n∧(n'=0↔zerosL l=true))∧w'=w:=by
 have hl:=h.len_eq
 have HSa:Hid (∀k,zerosL (l.take k)=true→zerosL l=zerosL (l.drop k)):=fun k h1=>by
  conv=>lhs;rw[←List.take_append_drop k l]
  rw[zeros_app,h1,Bool.true_and]
 have HSn:Hid (∀k,k<n→zerosL (l.drop k)=(nth l k==0&&zerosL (l.drop (k+1)))):=fun k hk=>by rw[drop_nth l k (by omega),zeros_cons]
 have HSt:Hid (∀k,k<n→zerosL (l.take (k+1))=(zerosL (l.take k)&&nth l k==0)):=fun k hk=>by
  rw[List.take_succ_eq_append_getElem (by omega:k<l.length),zeros_app]
  congr 1
  unfold nth zerosL
  simp[show k<l.length by omega]
 have HSz:Hid (zerosL (l.drop n)=true):=by unfold Hid;rw[List.drop_of_length_le (by omega)];rfl
 have HN:Hid (∀k,nth (l.drop k) 0=nth l k):=fun k=>by unfold nth;rw[List.getD_eq_getElem?_getD,List.getElem?_drop,Nat.add_zero,←List.getD_eq_getElem?_getD]
 have HIb:Hid (IsB w a n c (l.drop 0)):=by unfold Hid;rw[List.drop_zero];exact h
 have hmx:=h.max
 unfold maxLen at hmx
 clear h
 go_enter Tryz.func171,Tryz.ntmps171
 go_wp2
 go_loopg [0] n (fun kx s0 wr=>∃(k:Nat) (a':Option Addr),s0=.slice a' (n-k) (c-k)∧k≤n∧n-k≤kx∧wr=w∧Hid (IsB w a' (n-k) (c-k) (l.drop k))∧Hid (zerosL (l.take k)=true))
 case atStart=>exact⟨0,a,by rw[Nat.sub_zero,Nat.sub_zero],Nat.zero_le _,by omega,rfl,by rw[Nat.sub_zero,Nat.sub_zero];exact HIb,rfl⟩
 case round =>
  obtain⟨k,a',rfl,hk,hkx,rfl,HI,HZ⟩:=hrel
  clear HIb
  by_cases h0:0<n-k
  ·obtain⟨b,off,e,hcs⟩:=HI.out.cells h0
   subst e
   have c0:=hcs 0 h0
   rw[Nat.add_zero,HN.out k] at c0
   have h0':(0:Int)<((n-k:Nat):Int):=by omega
   have hle:=HI.out.le
   have hsl:=fun W=>slB b off (n-k) (c-k) 1 (by omega) W
   have HDq:=HSn.out k (by omega)
   have HTq:=HSt.out k (by omega)
   have HCt:Hid (IsB wr (cutA b off (c-k) 1) (n-(k+1)) (c-(k+1)) (l.drop (k+1))):=by
    have:=HI.out.cut 1 (by omega)
    rw[List.drop_drop,Nat.sub_sub,Nat.sub_sub] at this
    exact this
   clear hcs
   by_cases hz:nth l k=0
   ·have hz':((nth l k).toNat:Int)=0:=by rw[hz];rfl
    rw[hz'] at c0
    simp only[Int.natCast_one] at hsl
    have HT2:Hid (zerosL (l.take (k+1))=true):=by unfold Hid;rw[HTq,HZ.out,hz];rfl
    rw[show n-k-1=n-(k+1) by omega,show c-k-1=c-(k+1) by omega] at hsl
    generalize cutA b off (c-k) 1=ct at *
    clear HDq HTq hz
    go_wp2_with fail
    go_roundg (n-(k+1))
    case measure=>omega
    case rel=>exact⟨k+1,ct,rfl,by omega,Nat.le_refl _,rfl,HCt,HT2⟩
   ·have hz':¬((nth l k).toNat:Int)=0:=fun e=>hz (UInt8.toNat_inj.1 (by simpa using e))
    have h1:¬((n-k:Nat):Int)=0:=by omega
    have HR:Hid (n-k=0↔zerosL l=true):=by
     unfold Hid
     rw[HSa.out k HZ.out,HDq]
     constructor
     ·intro h;omega
     ·intro h
      rw[Bool.and_eq_true,beq_iff_eq] at h
      exact absurd h.1 hz
    clear hsl HDq HTq HCt
    generalize hnk:n-k=r at *
    go_wp2_with fail
    go_ret
    exact⟨⟨_,r,_,rfl,by omega,HR.out⟩,rfl⟩
  ·have hk0:n-k=0:=by omega
   have hkn:k=n:=by omega
   have HR:Hid (zerosL l=true):=by unfold Hid;rw[HSa.out k HZ.out,hkn];exact HSz.out
   rw[hk0] at HI ⊢
   go_wp2_with fail
   go_ret
   exact⟨⟨none,0,0,rfl,Nat.zero_le _,⟨fun _=>HR.out,fun _=>rfl⟩⟩,rfl⟩
theorem zeros_nil:zerosL []=true:=rfl
theorem codTrim (a:Option Addr)(n c:Nat)(l:List UInt8)(w:World)(h:IsB w a n c l)(hn:n≤1000000):
  Calls Tryz.prog 143 #[.slice a n c,.string ⟨#[0]⟩] w fun e w'=>(∃a' n' c',e=.returned (.slice a' n' c')∧n'≤n∧(n'=0↔zerosL l=true))∧Below w.heap.size w w':=by
 by_cases h0:n=0
 ·have:l=[]:=List.eq_nil_of_length_eq_zero (by rw[h.len_eq];exact h0)
  subst this h0
  clear h
  go_enter Tryz.func143,Tryz.ntmps143
  go_wp2_with fail
  go_ret
  exact⟨⟨none,0,0,rfl,Nat.le_refl _,⟨fun _=>zeros_nil,fun _=>rfl⟩⟩,Below.refl _ _⟩
 ·have h0':¬(n:Int)=0:=by omega
  have HR:∀W,Below w.heap.size w W→Calls Tryz.prog 172 #[.slice a n c,.int .u8 0] W fun e w'=>(∃k,e=.returned (.slice a k c)∧IsB W a k c (l.take k)∧k≤n∧zerosL l=zerosL (l.take k)∧(zerosL (l.take k)=true→k=0))∧w'=W:=fun W hW=>codTrimR a n c l W (h.below hW rfl) hn
  have HB0:∀W,Below w.heap.size w W→Below w.heap.size w W:=fun W hW=>hW
  have HL:=fun W k (hI:IsB W a k c (l.take k)) (hk:k≤n)=>codTrimL a k c (l.take k) W hI (by omega)
  clear h
  generalize zerosL l=Z at *
  go_enter Tryz.func143,Tryz.ntmps143
  go_wp2_with fail
  go_region_held3 (fun w'=>Below w.heap.size w w')
   (first|exact(Below.refl _ w).drew|assumption)
   (first
    | (go_at_call 172;have hq0:=‹Below _ _ _›;refine(HR _ hq0).mono ?_;rintro e w8 ⟨⟨k8,rfl,hi8,hk8,hz8,hy8⟩,hw8⟩;rw[hw8] at *;clear hw8)
    | (go_at_call 171;refine(HL _ _ hi8 hk8).mono ?_;rintro e w9 ⟨⟨a9,n9,c9,rfl,hn9,hz9⟩,hw9⟩;rw[hw9] at *;clear hw9))
  all_goals
   have hq9:=‹Below _ _ _›
   go_wp2
   go_ret
   exact⟨⟨a9,n9,c9,rfl,by omega,by rw[hz8];exact hz9⟩,hq9⟩
end
end Go.Proofs.YtpecobmfabmpkaaGreatDoor
