/- Tp1 PtA BpPanic PtB PtC -/
import Derived.Test.YtpecobmfabmpkaaGreatDoorM11
import Derived.WalkSmall
set_option maxHeartbeats 1000000
namespace Go.Proofs.YtpecobmfabmpkaaGreatDoor
open Go.RowKit
def entB (e:Et):List UInt8:=UInt8.ofNat e.k.length::UInt8.ofNat e.v.length::(e.k++e.v)
def entsB:List Et→List UInt8
 | []=>[]
 | e::l=>entB e++entsB l
theorem entB_length (e:Et):(entB e).length=szE e:=by unfold entB szE;simp;omega
theorem entsB_length (l:List Et):(entsB l).length=szL l:=by
 induction l with
 | nil=>rfl
 | cons e l ih=>rw[entsB,List.length_append,entB_length,ih,szL]
theorem entsB_append (a b:List Et):entsB (a++b)=entsB a++entsB b:=by
 induction a with
 | nil=>rfl
 | cons e a ih=>rw[List.cons_append,entsB,entsB,ih,List.append_assoc]
def kidB (i:Nat):List UInt8:=[UInt8.ofNat (i/256),UInt8.ofNat (i%256)]
def kidsB:List Nat→List UInt8
 | []=>[]
 | i::l=>kidB i++kidsB l
theorem kidsB_length (l:List Nat):(kidsB l).length=2 * l.length:=by
 induction l with
 | nil=>rfl
 | cons e l ih=>rw[kidsB,List.length_append,ih,List.length_cons];unfold kidB;simp;omega
theorem kidsB_append (a b:List Nat):kidsB (a++b)=kidsB a++kidsB b:=by
 induction a with
 | nil=>rfl
 | cons e a ih=>rw[List.cons_append,kidsB,kidsB,ih,List.append_assoc]
structure Pg where
 lv:Nat
 es:List Et
 ks:List Nat
def parsE:Nat→List UInt8→Option (List Et × List UInt8)
 | 0,b=>some ([],b)
 | n+1,b =>
  if 2≤b.length∧2+(b.getD 0 0).toNat+(b.getD 1 0).toNat≤b.length then
   (parsE n (b.drop (2+(b.getD 0 0).toNat+(b.getD 1 0).toNat))).map fun x=>(⟨(b.drop 2).take (b.getD 0 0).toNat,(b.drop (2+(b.getD 0 0).toNat)).take (b.getD 1 0).toNat⟩::x.1,x.2)
  else none
def parsK:Nat→List UInt8→Option (List Nat × List UInt8)
 | 0,b=>some ([],b)
 | n+1,b =>
  if 2≤b.length then (parsK n (b.drop 2)).map fun x=>(((b.getD 0 0).toNat * 256+(b.getD 1 0).toNat):: x.1,x.2)
  else none
def zerosL (b:List UInt8):Bool:=b.all (· == 0)
def risE:List Et→Bool
 | []=>true
 | [_]=>true
 | a::b::l=>Op.bytesLess a.k b.k&&risE (b::l)
def rightE (l:List Et):Bool:=l.all (fun e=>itemOk e.k e.v)&&risE l&&decide (0<l.length)
def pgOf (b:List UInt8):Option Pg :=
 if 3≤b.length∧b.getD 0 0=116∧(b.getD 1 0).toNat≤11 then
  if (b.getD 1 0).toNat=0 then
   match parsE (b.getD 2 0).toNat (b.drop 3) with
   | some x=>if rightE x.1=true∧zerosL x.2=true then some ⟨0,x.1,[]⟩ else none
   | none=>none
  else
   match parsK (b.getD 2 0).toNat (b.drop 3) with
   | some x=>if 1<x.1.length∧zerosL x.2=true then some ⟨(b.getD 1 0).toNat,[],x.1⟩ else none
   | none=>none
 else none
def leafB (l:List Et):List UInt8:=pad512 (116::0::UInt8.ofNat l.length::entsB l)
def nodeB (ks:List Nat):List UInt8:=pad512 (116::1::UInt8.ofNat ks.length::kidsB ks)
structure LfOk (l:List Et):Prop where
 ne:l≠[]
 ok:∀e∈l,itemOk e.k e.v=true
 srt:SrtE l
 sz:szL l≤509
theorem item_facts {e:Et}(h:itemOk e.k e.v=true):1≤e.k.length∧e.k.length≤100∧e.k.length+e.v.length≤240:=by
 unfold itemOk keyOk at h
 simp only[Bool.and_eq_true,decide_eq_true_eq] at h
 omega
theorem szE_le {e:Et}(h:itemOk e.k e.v=true):szE e≤242:=by have:=item_facts h;unfold szE;omega
theorem ris_of {l:List Et}(h:SrtE l):risE l=true:=by
 induction l with
 | nil=>rfl
 | cons a l ih =>
  cases l with
  | nil=>rfl
  | cons b l =>
   obtain⟨h1,h2⟩:=List.pairwise_cons.1 h
   rw[risE,h1 b List.mem_cons_self,ih h2];rfl
theorem LfOk.len {l:List Et}(h:LfOk l):l.length≤169:=by
 have:=szL_len (fun e he=>(item_facts (h.ok e he)).1)
 have:=h.sz
 omega
theorem u8_of {n:Nat}(h:n<256):(UInt8.ofNat n).toNat=n:=by simp;omega
theorem pad_eq {b:List UInt8}(h:b.length≤512):pad512 b=b++List.replicate (512-b.length) 0:=by unfold pad512;rw[List.take_of_length_le h]
theorem zeros_rep (n:Nat):zerosL (List.replicate n 0)=true:=by unfold zerosL;simp
theorem parsE_ents (l:List Et)(hl:∀e∈l,itemOk e.k e.v=true)(r:List UInt8):parsE l.length (entsB l++r)=some (l,r):=by
 induction l with
 | nil=>rfl
 | cons e l ih =>
  have hf:=item_facts (hl e List.mem_cons_self)
  have e1:(UInt8.ofNat e.k.length).toNat=e.k.length:=u8_of (by omega)
  have e2:(UInt8.ofNat e.v.length).toNat=e.v.length:=u8_of (by omega)
  have hb:entsB (e::l)++r=UInt8.ofNat e.k.length::UInt8.ofNat e.v.length::(e.k++(e.v++(entsB l++r))):=by
   rw[entsB];unfold entB;simp
  rw[List.length_cons,parsE,hb]
  simp only[List.getD_cons_zero,List.getD_cons_succ,e1,e2]
  have hlen:(UInt8.ofNat e.k.length::UInt8.ofNat e.v.length::(e.k++(e.v++(entsB l++r)))).length=2+e.k.length+e.v.length+(entsB l++r).length:=by simp;omega
  rw[if_pos (by rw[hlen];omega)]
  have d1:(UInt8.ofNat e.k.length::UInt8.ofNat e.v.length::(e.k++(e.v++(entsB l++r)))).drop (2+e.k.length+e.v.length)=entsB l++r:=by
   rw[show 2+e.k.length+e.v.length=(e.k.length+e.v.length)+1+1 by omega,List.drop_succ_cons,List.drop_succ_cons,←List.append_assoc,List.drop_left' (by simp)]
  have d2:(UInt8.ofNat e.k.length::UInt8.ofNat e.v.length::(e.k++(e.v++(entsB l++r)))).drop 2=e.k++(e.v++(entsB l++r)):=rfl
  have d3:(UInt8.ofNat e.k.length::UInt8.ofNat e.v.length::(e.k++(e.v++(entsB l++r)))).drop (2+e.k.length)=e.v++(entsB l++r):=by
   rw[show 2+e.k.length=e.k.length+1+1 by omega,List.drop_succ_cons,List.drop_succ_cons,List.drop_left' rfl]
  rw[d1,d2,d3,ih (fun x hx=>hl x (List.mem_cons_of_mem _ hx)),List.take_left' rfl,List.take_left' rfl]
  rfl
theorem parsK_kids (l:List Nat)(hl:∀i∈l,i<65536)(r:List UInt8):parsK l.length (kidsB l++r)=some (l,r):=by
 induction l with
 | nil=>rfl
 | cons i l ih =>
  have hi:=hl i List.mem_cons_self
  have e1:(UInt8.ofNat (i/256)).toNat=i/256:=u8_of (by omega)
  have e2:(UInt8.ofNat (i%256)).toNat=i%256:=u8_of (by omega)
  have hb:kidsB (i::l)++r=UInt8.ofNat (i/256):: UInt8.ofNat (i%256):: (kidsB l++r):=by rw[kidsB];unfold kidB;simp
  rw[List.length_cons,parsK,hb]
  simp only[List.getD_cons_zero,List.getD_cons_succ,e1,e2]
  rw[if_pos (by simp)]
  rw[show (UInt8.ofNat (i/256):: UInt8.ofNat (i%256):: (kidsB l++r)).drop 2=kidsB l++r from rfl,ih (fun x hx=>hl x (List.mem_cons_of_mem _ hx))]
  simp only[Option.map_some,Option.some.injEq,Prod.mk.injEq,List.cons.injEq,and_true]
  omega
theorem pg_leaf {l:List Et}(h:LfOk l):pgOf (leafB l)=some ⟨0,l,[]⟩:=by
 have hl:=h.len
 have hs:=h.sz
 have hn:0<l.length:=List.length_pos_iff.2 h.ne
 have e3:(UInt8.ofNat l.length).toNat=l.length:=u8_of (by omega)
 have hr:rightE l=true:=by
  unfold rightE
  rw[ris_of h.srt,List.all_eq_true.2 h.ok,decide_eq_true hn]
  rfl
 have hB:leafB l=116::0::UInt8.ofNat l.length::(entsB l++List.replicate (509-szL l) 0):=by
  unfold leafB
  rw[pad_eq (by simp only[List.length_cons];rw[entsB_length];omega)]
  simp only[List.length_cons,entsB_length,List.cons_append]
  rw[show 512-(szL l+1+1+1)=509-szL l by omega]
 unfold pgOf
 rw[hB]
 simp only[List.getD_cons_zero,List.getD_cons_succ,List.length_cons,e3]
 rw[if_pos ⟨by omega,trivial,by decide⟩,if_pos (by decide)]
 rw[show (116::0::UInt8.ofNat l.length::(entsB l++List.replicate (509-szL l) 0)).drop 3=entsB l++List.replicate (509-szL l) 0 from rfl,parsE_ents l h.ok]
 simp only
 rw[if_pos ⟨hr,zeros_rep _⟩]
theorem pg_node {ks:List Nat}(h1:1<ks.length)(h2:ks.length≤254)(h3:∀i∈ks,i<65536):pgOf (nodeB ks)=some ⟨1,[],ks⟩:=by
 have e3:(UInt8.ofNat ks.length).toNat=ks.length:=u8_of (by omega)
 have hB:nodeB ks=116::1::UInt8.ofNat ks.length::(kidsB ks++List.replicate (509-2 * ks.length) 0):=by
  unfold nodeB
  rw[pad_eq (by simp only[List.length_cons];rw[kidsB_length];omega)]
  simp only[List.length_cons,kidsB_length,List.cons_append]
  rw[show 512-(2 * ks.length+1+1+1)=509-2 * ks.length by omega]
 unfold pgOf
 rw[hB]
 simp only[List.getD_cons_zero,List.getD_cons_succ,List.length_cons,e3]
 rw[if_pos ⟨by omega,trivial,by decide⟩,if_neg (by decide)]
 rw[show (116::1::UInt8.ofNat ks.length::(kidsB ks++List.replicate (509-2 * ks.length) 0)).drop 3=kidsB ks++List.replicate (509-2 * ks.length) 0 from rfl,parsK_kids ks h3]
 simp only
 rw[if_pos ⟨h1,zeros_rep _⟩]
 rfl
structure CutOk (l:List Et)(c:Nat):Prop where
 c0:0<c
 c1:c<l.length
 lo:szL (l.take c)≤509
 hi:szL (l.drop c)≤509
def offC (l:List Et)(c:Nat):Nat:=max (2 * szL (l.take c)-szL l) (szL l-2 * szL (l.take c))
theorem szL_cut (l:List Et)(c:Nat):szL (l.take c)+szL (l.drop c)=szL l:=by rw[←szL_append,List.take_append_drop]
theorem szL_take_succ {l:List Et}{c:Nat}(h:c<l.length):szL (l.take (c+1))=szL (l.take c)+szE (l.getD c et0):=by
 rw[List.take_succ_eq_append_getElem h,szL_append,szL,szL]
 simp[h]
theorem cut_some {l:List Et}(hl:∀e∈l,szE e≤242)(h0:509<szL l):∃c,0<c∧c<l.length∧offC l c≤242:=by
 have hm:∀i,i<l.length→szE (l.getD i et0)≤242:=fun i hi=>by
  have:l.getD i et0=l[i]:=by simp[hi]
  rw[this];exact hl _ (List.getElem_mem hi)
 have hex:∃c,szL l≤2 * szL (l.take c)∧c≤l.length∧∀c',c'<c→2 * szL (l.take c')<szL l:=by
  have:∀n,n≤l.length→(∀c',c'≤n→2 * szL (l.take c')<szL l)∨∃c,szL l≤2 * szL (l.take c)∧c≤l.length∧∀c',c'<c→2 * szL (l.take c')<szL l:=by
   intro n
   induction n with
   | zero=>intro _;exact .inl (fun c' hc=>by rw[Nat.le_zero.1 hc];simp[szL];omega)
   | succ n ih =>
    intro hn
    rcases ih (by omega) with h|h
    ·by_cases h2:szL l≤2 * szL (l.take (n+1))
     ·exact .inr ⟨n+1,h2,hn,fun c' hc=>h c' (by omega)⟩
     ·exact .inl (fun c' hc=>by
       by_cases h3:c'=n+1
       ·rw[h3];omega
       ·exact h c' (by omega))
    ·exact .inr h
  rcases this l.length (Nat.le_refl _) with h|h
  ·have:=h l.length (Nat.le_refl _);rw[List.take_length] at this;omega
  ·exact h
 obtain⟨c,h1,h2,h3⟩:=hex
 have hc0:0<c:=by
  rcases Nat.eq_zero_or_pos c with h|h
  ·rw[h] at h1;simp[szL] at h1;omega
  ·exact h
 obtain⟨d,rfl⟩:∃d,c=d+1:=⟨c-1,by omega⟩
 have hs:=szL_take_succ (l:=l) (c:=d) (by omega)
 have hd:=h3 d (by omega)
 have hz:=hm d (by omega)
 have hd0:0<d:=by
  rcases Nat.eq_zero_or_pos d with h|h
  ·rw[h] at hs hd h1 hz;simp only[List.take_zero,szL] at hs;omega
  ·exact h
 by_cases hA:2 * szL (l.take (d+1))-szL l≤242∧d+1<l.length
 ·exact⟨d+1,hc0,hA.2,by unfold offC;omega⟩
 ·refine⟨d,hd0,by omega,?_⟩
  unfold offC
  by_cases h4:d+1<l.length
  ·have:¬2 * szL (l.take (d+1))-szL l≤242:=fun h=>hA ⟨h,h4⟩
   omega
  ·have h5:d+1=l.length:=by omega
   rw[h5,List.take_length] at hs
   omega
theorem cut_ok {l:List Et}{c:Nat}(hl:∀e∈l,szE e≤242)(h0:509<szL l)(h1:szL l≤760)(hc0:0<c)(hc1:c<l.length)(hbest:∀c',0<c'→c'<l.length→offC l c≤offC l c'):CutOk l c:=by
 obtain⟨d,d0,d1,d2⟩:=cut_some hl h0
 have h2:=hbest d d0 d1
 have h3:=szL_cut l c
 have h4:offC l c≤242:=Nat.le_trans h2 d2
 unfold offC at h4
 exact⟨hc0,hc1,by omega,by omega⟩
def OwnN (w:World)(base:Nat)(v:Value)(l:List Eq3):Prop:=w.ownsRow base 64 2 v l.length (ets l)
theorem OwnN.nil (w:World)(base:Nat):OwnN w base (.slice none 0 0) []:=World.ownsRow_nil _ _ _ _
theorem OwnN.on {w w':World}{base:Nat}{v:Value}{l:List Eq3}(h:OwnN w base v l)(hb:Below w.heap.size w w'):OwnN w' base v l:=own_keepO (us:=[64]) (KeepO.of_below hb) h (by decide)
theorem OwnN.form {w:World}{base:Nat}{v:Value}{l:List Eq3}(h:OwnN w base v l):∃a cap,v=.slice a l.length cap∧l.length≤cap∧(a=none∨∃g,a=some ⟨g,0,none⟩) ∧
  (0<l.length→∃g,a=some ⟨g,0,none⟩∧base≤g∧g<w.heap.size∧∀k (hk:k<l.length),∀j,j<2→w.cell? ⟨g,k * 2+j,none⟩=(etc2 (l[k]).1 (l[k]).2)[j]?):=by
 obtain⟨h1,h2⟩:=h
 rcases h2 with⟨rfl,h0⟩|⟨g,cap,cur,rfl,hb,hg,hle,hmax,hsz,htk⟩
 ·have:l=[]:=List.eq_nil_of_length_eq_zero h0
  subst this
  exact⟨none,0,rfl,Nat.le_refl _,.inl rfl,fun h=>absurd h (Nat.lt_irrefl 0)⟩
 ·refine⟨_,cap,rfl,hle,.inr ⟨g,rfl⟩,fun hp=>⟨g,rfl,hb,(Array.getElem?_eq_some_iff.1 hg).1,fun k hk j hj=>?_⟩⟩
  have hown:w.ownsRow base 64 2 (.slice (some ⟨g,0,none⟩) l.length cap) l.length (ets l):=⟨h1,.inr ⟨g,cap,cur,rfl,hb,hg,hle,hmax,hsz,htk⟩⟩
  rw[World.ownsRow.cellAt hown (k * 2+j) (by omega),ets_at l k j hk hj]
theorem OwnN.at_ {w:World}{base n cap:Nat}{a:Option Addr}{ls:List Eq3}(h:OwnN w base (.slice a n cap) ls)(k:Nat)(hk:k<ls.length):∃g,a=some ⟨g,0,none⟩∧base≤g∧g<w.heap.size∧∀j,j<2→w.cell? ⟨g,k * 2+j,none⟩=(etc2 (ls[k]).1 (ls[k]).2)[j]?:=by
 obtain⟨a',c',e,_,_,hr⟩:=h.form
 injection e with e1 e2 e3
 obtain⟨g,e4,h1,h2,h3⟩:=hr (by omega)
 exact⟨g,e1.trans e4,h1,h2,fun j hj=>h3 k hk j hj⟩
theorem KeepT.grownN {w w':World}{base:Nat}{v:Value}{l:List Eq3}(ho:OwnN w base v l)(hg:w.grownBy w' v.ownBlock):KeepT [64] w w' :=
 ⟨hg.size,fun k o hk hno=>by
  refine(hg.block k (Array.getElem?_eq_some_iff.1 hk).1 (fun eb=>?_)).trans hk
  rcases ho.2 with⟨rfl,_⟩|⟨g,cap,cur,rfl,_,hgb,_⟩
  ·simp[Value.ownBlock] at eb
  ·have hkg:k=g:=by simpa [Value.ownBlock] using eb
   subst hkg
   have:o=.cells cur 64 (0,0):=Option.some.inj (hk.symm.trans hgb)
   exact hno _ _ _ this (by decide)⟩
structure SrcN (w:World)(sa:Option Addr)(m c:Nat)(l:List Eq3):Prop where
 len:l.length=m
 nil:sa=none→m=0∧c=0
 cells:∀ad,sa=some ad→∀j u,(ets l)[j]?=some u→w.cell? (ad.add j)=some u
def cutN (a:Option Addr)(cap k:Nat):Option Addr:=if cap=k then a else a.map (·.add (k * 2))
theorem OwnN.src {w:World}{base:Nat}{a:Option Addr}{n cap:Nat}{ls:List Eq3}(h:OwnN w base (.slice a n cap) ls)(hn:n=ls.length)(k:Nat)(hk:k≤n):
  SrcN w a k cap (ls.take k)∧SrcN w (cutN a cap k) (n-k) (cap-k) (ls.drop k):=by
 subst hn
 rcases h.2 with⟨h1,h2⟩|⟨g,cap',cur,h3,h4,h5,hle,h7⟩
 ·injection h1 with e1 e2 e3
  subst e1 e3
  have hk0:k=0:=by omega
  subst hk0
  have hl:ls=[]:=List.eq_nil_of_length_eq_zero e2
  subst hl
  exact⟨⟨rfl,fun _=>⟨rfl,rfl⟩,fun ad e=>by cases e⟩,⟨rfl,fun _=>⟨rfl,rfl⟩,fun ad e=>by cases e⟩⟩
 ·injection h3 with e1 e2 e3
  subst e1 e3
  refine⟨⟨by rw[List.length_take];omega,(fun e=>by cases e),fun ad e j u hu=>?_⟩,⟨by rw[List.length_drop],fun e=>?_,fun ad e j u hu=>?_⟩⟩
  ·obtain rfl:=Option.some.inj e
   rw[ets_take] at hu
   have hj:j<k * 2:=by
    have:=(List.getElem?_eq_some_iff.1 hu).1
    rw[List.length_take] at this;omega
   rw[List.getElem?_take_of_lt hj] at hu
   exact World.ownsRow.cells h (g:=g) rfl j u hu
  ·unfold cutN at e
   split at e
   ·cases e
   ·cases e
  ·rw[ets_drop,List.getElem?_drop] at hu
   unfold cutN at e
   split at e
   ·rename_i hc
    have:=(List.getElem?_eq_some_iff.1 hu).1
    rw[ets_length] at this
    omega
   ·have e2:=Option.some.inj e
    rw[←e2]
    show w.cell? (((⟨g,0,none⟩:Addr).add (k * 2)).add j)=some u
    rw[Addr.add_lit,Addr.add_lit]
    have:=World.ownsRow.cells h (g:=g) rfl (k * 2+j) u hu
    rw[Addr.add_lit] at this
    rw[show 0+k * 2+j=0+(k * 2+j) by omega]
    exact this
theorem infoN:(Tryz.prog.info? 64).map (fun i=>(i.zero,i.size,i.bytes))=some (some etZ,2,48):=by kernel_rfl
theorem step_appNs {ops:Array Oper}{o:Oper}{a:Act}{K:Act→World→Prop}{Q:Exit→Act→World→Prop}{E:Prop}(w:World)(hgd:o.guard=none)(s x:Operand)
  (ho:o.op=.call { callee:=.builtin .append,args:=#[s,x],argTypes:=#[50,50] }) (base:Nat)
  (v:Value) (l:List Eq3) (hs:a.eval s=v) (hown:OwnN w base v l) (sa:Option Addr) (m c:Nat) (news:List Eq3) (hx:a.eval x=.slice sa m c) (hsrc:SrcN w sa m c news)
  (hbytes:l.length+m≤8192) (hbase:base≤w.heap.size) (d:Tmp) (hd:o.dst=some d)
  (h:∀v' w',OwnN w' base v' (l++news)→w.grownBy w' v.ownBlock→K (a.put (some d) v') w'):
  if Region.wanted o (yielded ops a.tmps)=true then Oper.wp Tryz.prog o a w K Q else E:=by
 have hw:Region.wanted o (yielded ops a.tmps)=true:=by simp[Region.wanted,hgd]
 rw[if_pos hw]
 obtain⟨i0,hi,hz0,hz1,hz2⟩:=info_parts infoN
 cases sa with
 | none =>
  obtain⟨hm,hc⟩:=hsrc.nil rfl
  have hn:news=[]:=List.eq_nil_of_length_eq_zero (by rw[hsrc.len,hm])
  subst hn hm hc
  have hrun:=run_append_owned_none (P:=Tryz.prog) (w:=w) base 50 o.type 64 i0 2 Tryz.underlying50 hi v l.length (ets l) hown
  rw[←hd] at h
  unfold Oper.wp
  simp[execOp,ho,resolve,invoke,builtin,hs,hx,hrun,Result.andThen]
  exact h v w (by rw[List.append_nil];exact hown) (World.grownBy.refl _ _)
 | some ad =>
  refine wp_append_own w s x 50 ho base 64 i0 etZ 2 48 Tryz.underlying50 hi hz0 hz1 hz2 rfl (by omega) v l.length (ets l) hs hown ad m c (ets news) hx (by rw[ets_length,hsrc.len]) (hsrc.cells ad rfl) (ets_one news) (by unfold maxLen;omega) (by omega) hbase ?_
  intro v' w' h1 h2 _
  rw[hd]
  exact h v' w' (by unfold OwnN;rw[ets_append,List.length_append,hsrc.len];exact h1) h2
theorem slNh (a:Option Addr)(n cap k:Nat)(hk:k≤cap)(ha:a=none∨∃g,a=some ⟨g,0,none⟩)(w:World):(Instr.slice 50 (.slice a n cap) none (some (.int .i64 (k:Int))) none).run Tryz.prog w=.ok (.slice a k cap) w:=by
 have he:Tryz.prog.elem 50=64:=by kernel_rfl
 have hz:(sizeOf 64).run Tryz.prog w=.ok 2 w:=by
  obtain⟨i0,hi,hz0,hz1,hz2⟩:=info_parts infoN
  simp[sizeOf,typeInfo,hi,hz1]
 rw[run_slice_h w 50 _ n cap (by rw[he];exact Tryz.underlying50) .i64 (k:Int) (by omega) (by omega),he,hz]
 simp only[Result.andThen,sliced,Int.toNat_natCast,Nat.zero_mul,Nat.sub_zero]
 rcases ha with rfl|⟨g,rfl⟩
 ·split<;>rfl
 ·split<;>simp[Addr.add_lit]
theorem slNl (a:Option Addr)(n cap k:Nat)(hk:k≤n)(w:World):(Instr.slice 50 (.slice a n cap) (some (.int .i64 (k:Int))) none none).run Tryz.prog w=.ok (.slice (cutN a cap k) (n-k) (cap-k)) w:=by
 have he:Tryz.prog.elem 50=64:=by kernel_rfl
 have hz:(sizeOf 64).run Tryz.prog w=.ok 2 w:=by
  obtain⟨i0,hi,hz0,hz1,hz2⟩:=info_parts infoN
  simp[sizeOf,typeInfo,hi,hz1]
 rw[run_slice_l w 50 _ n cap (by rw[he];exact Tryz.underlying50) .i64 (k:Int) (by omega) (by omega),he,hz]
 simp only[Result.andThen,sliced,Int.toNat_natCast,cutN]
abbrev UB:List TypeId:=[5,152]
def EtP (w:World)(e:Et)(q:EtA):Prop:=∀W,KeepO UB w W→IsE W e q
theorem EtP.is {w:World}{e:Et}{q:EtA}(h:EtP w e q):IsE w e q:=h w (KeepO.refl _ _)
theorem EtP.keep {w w':World}{e:Et}{q:EtA}(h:EtP w e q)(hk:KeepO UB w w'):EtP w' e q:=fun W hW=>h W (hk.trans hW)
def EtQ (fl:Nat)(w:World)(e:Et)(q:EtA):Prop:=∀W,KeepU fl UB w W→IsE W e q
theorem EtQ.is {fl:Nat}{w:World}{e:Et}{q:EtA}(h:EtQ fl w e q):IsE w e q:=h w (KeepU.refl _ _ _)
theorem EtQ.keep {fl:Nat}{w w':World}{e:Et}{q:EtA}(h:EtQ fl w e q)(hk:KeepU fl UB w w'):EtQ fl w' e q:=fun W hW=>h W (hk.trans hW)
theorem EtQ.below {fl:Nat}{w w':World}{e:Et}{q:EtA}(h:EtQ fl w e q)(hb:Below w.heap.size w w'):EtQ fl w' e q:=h.keep (KeepU.of_below hb)
theorem EtP.q {w:World}{e:Et}{q:EtA}(h:EtP w e q)(fl:Nat):EtQ fl w e q:=fun W hW=>h W hW.o
theorem EtQ.p {w:World}{e:Et}{q:EtA}(h:EtQ 0 w e q):EtP w e q:=fun W hW=>h W (KeepU.zero hW)
structure RdN (fl:Nat)(w:World)(v:Value)(L:List Eq3):Prop where
 form:∃a cap,v=.slice a L.length cap∧L.length≤cap∧(0<L.length→∃g off c fz,a=some ⟨g,off,none⟩∧w.heap[g]?=some (.cells c 64 fz)∧∀i u,(ets L)[i]?=some u→w.cell? ⟨g,off+i,none⟩=some u)
 is:∀x∈L,EtQ fl w x.1 x.2
abbrev UE:List TypeId:=[64,5,3,152]
theorem cell_same {w w':World}{g:Nat}(h:w'.heap[g]?=w.heap[g]?)(i:Nat):w'.cell? ⟨g,i,none⟩=w.cell? ⟨g,i,none⟩:=by
 unfold World.cell?
 simp only[h]
theorem RdN.keep {fl:Nat}{w w':World}{v:Value}{L:List Eq3}(h:RdN fl w v L)(hk:KeepU fl UE w w'):RdN fl w' v L:=by
 obtain⟨a,cap,e,hc,hr⟩:=h.form
 refine⟨⟨a,cap,e,hc,fun hp=>?_⟩,fun x hx=>(h.is x hx).keep (hk.less (by decide))⟩
 obtain⟨g,off,c,fz,e2,hg,hcs⟩:=hr hp
 have h2:=hk.o.same g c _ fz hg (by decide)
 exact⟨g,off,c,fz,e2,h2,fun i u hu=>(cell_same (h2.trans hg.symm) _).trans (hcs i u hu)⟩
theorem OwnN.rdq {fl:Nat}{w:World}{base:Nat}{v:Value}{L:List Eq3}(h:OwnN w base v L)(hi:∀x∈L,EtQ fl w x.1 x.2):RdN fl w v L:=by
 refine⟨?_,hi⟩
 rcases h.2 with⟨rfl,h0⟩|⟨g,cap,cur,rfl,hb,hg,hle,hmax,hsz,htk⟩
 ·rw[h0]
  exact⟨none,0,rfl,Nat.le_refl _,fun h=>absurd h (Nat.lt_irrefl 0)⟩
 ·exact⟨_,cap,rfl,hle,fun hp=>⟨g,0,cur,_,rfl,hg,fun i u hu=>by have:=World.ownsRow.cells h (g:=g) rfl i u hu;rw[Addr.add_lit] at this;exact this⟩⟩
theorem OwnN.rd {w:World}{base:Nat}{v:Value}{L:List Eq3}(h:OwnN w base v L)(hi:∀x∈L,EtP w x.1 x.2):RdN 0 w v L:=h.rdq fun x hx=>(hi x hx).q 0
theorem RdN.at_ {fl:Nat}{w:World}{a:Option Addr}{n cap:Nat}{L:List Eq3}(h:RdN fl w (.slice a n cap) L)(k:Nat)(x:Eq3)(hx:L[k]?=some x):n=L.length∧k<L.length∧∃g off,a=some ⟨g,off,none⟩∧w.cell? ⟨g,off+k * 2,none⟩=some (.slice x.2.a x.1.k.length x.2.c)∧w.cell? ⟨g,off+k * 2+1,none⟩=some (.slice x.2.b x.1.v.length x.2.d)∧IsE w x.1 x.2:=by
 obtain⟨hk,rfl⟩:=List.getElem?_eq_some_iff.1 hx
 obtain⟨a',cap',e,hc,hr⟩:=h.form
 injection e with e1 e2 e3
 obtain⟨g,off,c,fz,e4,hg,hcs⟩:=hr (by omega)
 have h0:=ets_at L k 0 hk (by omega)
 have h1:=ets_at L k 1 hk (by omega)
 exact⟨e2,hk,g,off,e1.trans e4,hcs (k * 2+0) _ h0,hcs (k * 2+1) _ h1,(h.is _ (List.getElem_mem hk)).is⟩
theorem bp_panic {P:Program}{fn:Func}{Q:Ending→World→Prop}{chain:List PanicEntry}{tmps:Array Value}{w:World}(h:Q (.panicked chain) w):bodyPost P fn Q (.panic chain) { tmps:=tmps,defers:=[] } w:=by
 exact⟨rfl,h⟩
def RdZ (w:World)(v:Value)(l:List Nat):Prop:=∃a cap,v=.slice a l.length cap∧l.length≤cap∧(0<l.length→∃g off c fz,a=some ⟨g,off,none⟩∧w.heap[g]?=some (.cells c 3 fz)∧∀i (hi:i<l.length),w.cell? ⟨g,off+i,none⟩=some (.int .i64 (l[i]:Int)))
theorem RdZ.keep {w w':World}{v:Value}{l:List Nat}(h:RdZ w v l)(hk:KeepO UE w w'):RdZ w' v l:=by
 obtain⟨a,cap,e,hc,hr⟩:=h
 refine⟨a,cap,e,hc,fun hp=>?_⟩
 obtain⟨g,off,c,fz,e2,hg,hcs⟩:=hr hp
 have h2:=hk.same g c _ fz hg (by decide)
 exact⟨g,off,c,fz,e2,h2,fun i hi=>(cell_same (h2.trans hg.symm) _).trans (hcs i hi)⟩
theorem RdZ.nil (w:World):RdZ w (.slice none 0 0) []:=⟨none,0,rfl,Nat.le_refl _,fun h=>absurd h (Nat.lt_irrefl 0)⟩
theorem RdZ.at_ {w:World}{a:Option Addr}{n cap:Nat}{l:List Nat}(h:RdZ w (.slice a n cap) l)(k:Nat)(hk:k<l.length):n=l.length∧∃g off,a=some ⟨g,off,none⟩∧w.cell? ⟨g,off+k,none⟩=some (.int .i64 (l[k]:Int)):=by
 obtain⟨a',cap',e,hc,hr⟩:=h
 injection e with e1 e2 e3
 obtain⟨g,off,c,fz,e4,hg,hcs⟩:=hr (by omega)
 exact⟨e2,g,off,e1.trans e4,hcs k hk⟩
theorem zn_at (l:List Nat)(i:Nat)(hi:i<l.length):(zv (l.map Int.ofNat))[i]?=some (.int .i64 (l[i]:Int)):=by unfold zv;simp[hi]
theorem OwnZ.rd {w:World}{base:Nat}{v:Value}{l:List Nat}(h:OwnZ w base v (l.map Int.ofNat)):RdZ w v l:=by
 rcases h.2 with⟨rfl,h0⟩|⟨g,cap,cur,rfl,hb,hg,hle,hmax,hsz,htk⟩
 ·rw[List.length_map] at h0
  have:l=[]:=List.eq_nil_of_length_eq_zero h0
  subst this
  exact RdZ.nil _
 ·rw[List.length_map] at hle
  refine⟨_,cap,by rw[List.length_map],hle,fun hp=>⟨g,0,cur,_,rfl,hg,fun i hi=>?_⟩⟩
  have:=World.ownsRow.cells h (g:=g) rfl i _ (zn_at l i hi)
  rw[Addr.add_lit] at this
  exact this
def pgc (at_:Int)(lv:Nat)(ve vk:Value):List Value:=[.int .i64 at_,.int .i64 (lv:Int),ve,vk]
structure PgR (fl:Nat)(w:World)(p:Pg)(ve vk:Value)(L:List Eq3):Prop where
 e:RdN fl w ve L
 k:RdZ w vk p.ks
 es:L.map Prod.fst=p.es
theorem PgR.keep {fl:Nat}{w w':World}{p:Pg}{ve vk:Value}{L:List Eq3}(h:PgR fl w p ve vk L)(hk:KeepU fl UE w w'):PgR fl w' p ve vk L:=⟨h.e.keep hk,h.k.keep hk.o,h.es⟩
theorem PgR.below {fl:Nat}{w w':World}{p:Pg}{ve vk:Value}{L:List Eq3}(h:PgR fl w p ve vk L)(hk:Below w.heap.size w w'):PgR fl w' p ve vk L:=h.keep (KeepU.of_below hk)
theorem PgR.len {fl:Nat}{w:World}{p:Pg}{ve vk:Value}{L:List Eq3}(h:PgR fl w p ve vk L):L.length=p.es.length:=by rw[←h.es,List.length_map]
theorem PgR.forms {fl:Nat}{w:World}{p:Pg}{ve vk:Value}{L:List Eq3}(h:PgR fl w p ve vk L):∃ea ec ka kc,ve=.slice ea p.es.length ec∧vk=.slice ka p.ks.length kc:=by
 obtain⟨a,c,e,_⟩:=h.e.form
 obtain⟨a2,c2,e2,_⟩:=h.k
 exact⟨a,c,a2,c2,by rw[e,h.len],e2⟩
structure PgF (p:Pg):Prop where
 e0:0<p.lv→p.es=[]
 k0:p.lv=0→p.ks=[]
 n:p.es.length+p.ks.length≤1000
 lv:p.lv≤11
 sz:∀e∈p.es,szE e≤1000
def szP (p:Pg):Nat:=szL p.es+2 * p.ks.length
def refused13 (e:Int):Ending:=.panicked [{ v:=.iface 30 (.int .i64 e),recovered:=false }]
theorem codNeed13 (b:Bool)(e:Int)(w:World):
  Calls Tryz.prog 99 #[.bool b,.int .i64 e] w fun x w'=>x=(if b then .returned (.tuple #[]) else refused13 e)∧w'=w:=by
 cases b
 ·go_enter Tryz.func99,Tryz.ntmps99
  go_wp2
  simp[bodyPost,refused13]
 ·go_enter Tryz.func99,Tryz.ntmps99
  go_wp2
  go_end0
  exact⟨rfl,rfl⟩
theorem needYes13 (e:Int)(w:World):Calls Tryz.prog 99 #[.bool true,.int .i64 e] w fun x w'=>x=.returned (.tuple #[])∧w'=w:=codNeed13 true e w
theorem needNo13 (e:Int)(w:World):Calls Tryz.prog 99 #[.bool false,.int .i64 e] w fun x w'=>x=.panicked [{ v:=.iface 30 (.int .i64 e),recovered:=false }]∧w'=w:=codNeed13 false e w
theorem codIsKey (a:Option Addr)(n c:Nat)(w:World):Calls Tryz.prog 39 #[.slice a n c] w fun e w'=>e=.returned (.bool (decide (1≤n∧n≤100)))∧w'=w:=by
 by_cases h1:1≤n
 ·have h1':(1:Int)≤(n:Int):=by omega
  by_cases h2:n≤100
  ·have h2':(n:Int)≤100:=by omega
   rw[decide_eq_true ⟨h1,h2⟩]
   go_enter Tryz.func39,Tryz.ntmps39
   go_wp2
   go_ret
   first|exact⟨rfl,rfl⟩|simp
  ·have h2':¬(n:Int)≤100:=by omega
   rw[decide_eq_false (fun h=>h2 h.2)]
   go_enter Tryz.func39,Tryz.ntmps39
   go_wp2
   go_ret
   first|exact⟨rfl,rfl⟩|simp
 ·have h1':¬(1:Int)≤(n:Int):=by omega
  rw[decide_eq_false (fun h=>h1 h.1)]
  go_enter Tryz.func39,Tryz.ntmps39
  go_wp2
  go_ret
  first|exact⟨rfl,rfl⟩|simp
theorem codIsItem (a b:Option Addr)(n c m d:Nat)(w:World)(hn:n≤140737488355328):Calls Tryz.prog 40 #[.slice a n c,.slice b m d] w fun e w'=>e=.returned (.bool (decide (n+m≤240)))∧w'=w:=by
 by_cases h1:n+m≤240
 ·have h1':(m:Int)≤240-(n:Int):=by omega
  rw[decide_eq_true h1]
  go_enter Tryz.func40,Tryz.ntmps40
  go_wp2
  go_ret
  first|exact⟨rfl,rfl⟩|simp
 ·have h1':¬(m:Int)≤240-(n:Int):=by omega
  rw[decide_eq_false h1]
  go_enter Tryz.func40,Tryz.ntmps40
  go_wp2
  go_ret
  first|exact⟨rfl,rfl⟩|simp
theorem codLen13 (at_:Int)(lv:Nat)(ea ka:Option Addr)(n ec m kc:Nat)(w:World)(hn:n+m≤1000):
  Calls Tryz.prog 70 #[.agg (pgc at_ lv (.slice ea n ec) (.slice ka m kc)).toArray] w fun e w'=>e=.returned (.int .i64 ((n+m:Nat):Int))∧Below w.heap.size w w':=by
 have kb:=Blk.new w 133 (pgc at_ lv (.slice ea n ec) (.slice ka m kc))
 have hY:Below w.heap.size w (w.alloc (.cells (pgc at_ lv (.slice ea n ec) (.slice ka m kc)).toArray 133)):=(Below.refl _ w).alloc (Nat.le_refl _) _
 unfold pgc at *
 have c2:=kb.cell 2
 have c3:=kb.cell 3
 simp only[gZ0,gZ1] at c2 c3
 have HY:=mkHid hY
 clear kb hY
 go_enter Tryz.func70,Tryz.ntmps70
 go_wp2_with fail
 go_ret
 exact⟨by simp,HY.out⟩
variable {fl:Nat}
theorem codSizeUp (at_:Int)(lv:Nat)(ve vk:Value)(k:Int)(w:World)(hl:0<lv):
  Calls Tryz.prog 199 #[.agg (pgc at_ lv ve vk).toArray,.int .i64 k] w fun e w'=>e=.returned (.int .i64 2)∧Below w.heap.size w w':=by
 have kb:=Blk.new w 133 (pgc at_ lv ve vk)
 have hY:Below w.heap.size w (w.alloc (.cells (pgc at_ lv ve vk).toArray 133)):=(Below.refl _ w).alloc (Nat.le_refl _) _
 unfold pgc at *
 have c1:=kb.cell 1
 simp only[gZ0,gZ1] at c1
 have HY:=mkHid hY
 have hl':(0:Int)<(lv:Int):=by omega
 clear kb hY
 go_enter Tryz.func199,Tryz.ntmps199
 go_wp2_with fail
 go_ret
 exact⟨rfl,HY.out⟩
theorem codSizeLow (at_:Int)(L:List Eq3)(ve vk:Value)(k:Nat)(x:Eq3)(w:World)(hr:RdN fl w ve L)(hx:L[k]?=some x)(hz:szE x.1≤1000):
  Calls Tryz.prog 199 #[.agg (pgc at_ 0 ve vk).toArray,.int .i64 (k:Int)] w fun e w'=>e=.returned (.int .i64 (szE x.1:Int))∧Below w.heap.size w w':=by
 have hY:Below w.heap.size w (w.alloc (.cells (pgc at_ 0 ve vk).toArray 133)):=(Below.refl _ w).alloc (Nat.le_refl _) _
 obtain⟨a,cap,rfl,hc,_⟩:=hr.form
 obtain⟨_,hk,g,off,rfl,d0,d1,_⟩:=(hr.keep (KeepU.of_below hY)).at_ k x hx
 have kb:=Blk.new w 133 (pgc at_ 0 (.slice (some ⟨g,off,none⟩) L.length cap) vk)
 unfold pgc at *
 have c1:=kb.cell 1
 have c2:=kb.cell 2
 simp only[gZ0,gZ1] at c1 c2
 have HY:=mkHid hY
 have hk':(k:Int)<(L.length:Int):=by omega
 have hE:Hid (((szE x.1:Nat):Int)=2+(x.1.k.length:Int)+(x.1.v.length:Int)):=by unfold Hid szE;omega
 unfold szE at hz
 have hz1:x.1.k.length≤1000:=by omega
 have hz2:x.1.v.length≤1000:=by omega
 clear kb hY hz hx hr
 generalize x.1.k.length=n1 at *
 generalize x.1.v.length=n2 at *
 generalize szE x.1=z at *
 generalize x.2.a=qa at *
 generalize x.2.b=qb at *
 generalize x.2.c=qc at *
 generalize x.2.d=qd at *
 generalize L.length=n at *
 simp only[Int.natCast_zero] at *
 go_enter Tryz.func199,Tryz.ntmps199
 go_wp2_with fail
 go_region
 all_goals
  go_wp2
  go_ret
  exact⟨by rw[hE.out];rfl,HY.out.drew⟩
def szK (p:Pg)(k:Nat):Nat:=if p.lv=0 then szL (p.es.take k) else 2 * k
theorem szK_all {p:Pg}(h:PgF p):szK p (p.es.length+p.ks.length)=szP p:=by
 unfold szK szP
 by_cases h0:p.lv=0
 ·rw[if_pos h0,h.k0 h0,List.length_nil,Nat.add_zero,List.take_length];omega
 ·rw[if_neg h0,h.e0 (by omega)];rw[List.length_nil,szL];omega
theorem szK_le {p:Pg}(h:PgF p)(k:Nat)(hk:k≤p.es.length+p.ks.length):szK p k≤1000000:=by
 unfold szK
 split
 ·rename_i h0
  have:∀l:List Et,(∀e∈l,szE e≤1000)→szL l≤1000 * l.length:=by
   intro l
   induction l with
   | nil=>intro _;exact Nat.le_refl _
   | cons e l ih =>
    intro hl
    have h1:=ih (fun x hx=>hl x (List.mem_cons_of_mem _ hx))
    have h2:=hl e List.mem_cons_self
    rw[szL,List.length_cons];omega
  have h1:=this (p.es.take k) (fun e he=>h.sz e (List.mem_of_mem_take he))
  have h2:(p.es.take k).length≤1000:=by have:=h.n;rw[List.length_take];omega
  omega
 ·have:=h.n;omega
theorem codSizeOf (at_:Int)(p:Pg)(ve vk:Value)(L:List Eq3)(k:Nat)(w:World)(h:PgR fl w p ve vk L)(hf:PgF p)(hk:k<p.es.length+p.ks.length):
  Calls Tryz.prog 199 #[.agg (pgc at_ p.lv ve vk).toArray,.int .i64 (k:Int)] w fun e w'=>(∃z:Nat,e=.returned (.int .i64 (z:Int))∧szK p (k+1)=szK p k+z∧z≤1000)∧Below w.heap.size w w':=by
 by_cases h0:p.lv=0
 ·rw[h0]
  have hk2:k<L.length:=by have:=hf.k0 h0;rw[this,List.length_nil] at hk;rw[h.len];exact hk
  obtain⟨x,hx⟩:∃x,L[k]?=some x:=⟨L[k],List.getElem?_eq_getElem hk2⟩
  have hxe:p.es[k]?=some x.1:=by rw[←h.es,List.getElem?_map,hx];rfl
  obtain⟨hk3,hxe2⟩:=List.getElem?_eq_some_iff.1 hxe
  have hz:szE x.1≤1000:=hf.sz _ (by rw[←hxe2];exact List.getElem_mem hk3)
  refine(codSizeLow at_ L ve vk k x w h.e hx hz).mono ?_
  rintro e w' ⟨rfl,hb⟩
  refine⟨⟨_,rfl,?_,hz⟩,hb⟩
  unfold szK
  rw[if_pos h0,if_pos h0,szL_take_succ hk3]
  congr 2
  simp[hk3,hxe2]
 ·refine(codSizeUp at_ p.lv ve vk k w (by omega)).mono ?_
  rintro e w' ⟨rfl,hb⟩
  refine⟨⟨2,rfl,?_,by omega⟩,hb⟩
  unfold szK
  rw[if_neg h0,if_neg h0]
  omega
theorem codSize13 (at_:Int)(p:Pg)(ve vk:Value)(L:List Eq3)(w:World)(h:PgR fl w p ve vk L)(hf:PgF p):
  Calls Tryz.prog 180 #[.agg (pgc at_ p.lv ve vk).toArray] w fun e w'=>e=.returned (.int .i64 (szP p:Int))∧Below w.heap.size w w':=by
 obtain⟨ea,ec,ka,kc,rfl,rfl⟩:=h.forms
 have hY:Below w.heap.size w (w.alloc (.cells (pgc at_ p.lv (.slice ea p.es.length ec) (.slice ka p.ks.length kc)).toArray 133)):=(Below.refl _ w).alloc (Nat.le_refl _) _
 have kb:=Blk.new w 133 (pgc at_ p.lv (.slice ea p.es.length ec) (.slice ka p.ks.length kc))
 have HL:=codLen13 at_ p.lv ea ka p.es.length ec p.ks.length kc (w.alloc (.cells (pgc at_ p.lv (.slice ea p.es.length ec) (.slice ka p.ks.length kc)).toArray 133)) hf.n
 have HZ:Hid (∀W k,Below w.heap.size w W→k<p.es.length+p.ks.length→Calls Tryz.prog 199 #[.agg (pgc at_ p.lv (.slice ea p.es.length ec) (.slice ka p.ks.length kc)).toArray,.int .i64 ((k:Nat):Int)] W fun e w'=>(∃z:Nat,e=.returned (.int .i64 (z:Int))∧szK p (k+1)=szK p k+z∧z≤1000)∧Below W.heap.size W w'):=fun W k hW hk=>codSizeOf at_ p _ _ L k W (h.below hW) hf hk
 have HA:=mkHid (szK_all hf)
 have HK0:Hid (szK p 0=0):=by unfold Hid szK;split<;>simp[szL]
 have HM:Hid (∀k,k≤p.es.length+p.ks.length→szK p k≤1000000):=fun k hk=>szK_le hf k hk
 have hn:=hf.n
 have HY:=mkHid hY
 have HKb:=mkHid kb
 have hl:=hf.lv
 unfold pgc at HL kb HY HKb HZ ⊢
 generalize szP p=Z at *
 generalize szK p=S at *
 generalize p.lv=lv at *
 clear h hf hY
 generalize p.es.length=n at *
 generalize p.ks.length=m at *
 generalize hq:n+m=q at *
 clear hq
 have c0:=kb.cell 0
 have c1:=kb.cell 1
 have c2:=kb.cell 2
 have c3:=kb.cell 3
 simp only[gZ0,gZ1] at c0 c1 c2 c3
 clear kb
 go_enter Tryz.func180,Tryz.ntmps180
 go_wp2_with (go_at_call 70;refine HL.mono ?_;rintro e y1 ⟨rfl,hb1⟩)
 have HB1:=mkHid (HY.out.trans (hb1.mono HY.out.size))
 have HK1:=mkHid (HKb.out.on hb1)
 clear hb1 c0 c1 c2 c3 HL
 go_loopw [3,7] (fun s i wr=>∃(k:Nat),k≤q∧i=.int .i64 (k:Int)∧s=.int .i64 ((S k:Nat):Int)∧Hid (Below w.heap.size w wr)∧Hid (Blk wr w.heap.size 133 [.int .i64 at_,.int .i64 (lv:Int),.slice ea n ec,.slice ka m kc])) (fun _ i _=>q-(Go.RowKit.intOf i).toNat)
 case atStart=>exact⟨0,Nat.zero_le _,rfl,by rw[HK0.out];rfl,HB1,HK1⟩
 case round =>
  obtain⟨k,hk,rfl,rfl,HB,HK⟩:=hrel
  clear HB1 HK1
  have d0:=HK.out.cell 0
  have d1:=HK.out.cell 1
  have d2:=HK.out.cell 2
  have d3:=HK.out.cell 3
  simp only[gZ0,gZ1] at d0 d1 d2 d3
  by_cases hlt:k<q
  ·have hlt':(k:Int)<(q:Int):=by omega
   have HC:=HZ.out wr k HB.out hlt
   have hS:=HM.out k hk
   go_wp2_with (go_at_call 199;refine HC.mono ?_;rintro e y2 ⟨⟨z,rfl,hz,hz2⟩,hb2⟩)
   go_roundw
   case rel=>exact⟨k+1,by omega,by go_num,by rw[hz];go_num,HB.out.trans (hb2.mono HB.out.size),HK.out.on hb2⟩
   case measure=>simp[Go.RowKit.intOf];omega
  ·have hlt':¬(k:Int)<(q:Int):=by omega
   have hkq:k=q:=by omega
   subst hkq
   go_wp2_with fail
   go_ret
   exact⟨by rw[HA.out];rfl,HB.out⟩
theorem codFits (at_:Int)(p:Pg)(ve vk:Value)(L:List Eq3)(w:World)(h:PgR fl w p ve vk L)(hf:PgF p):
  Calls Tryz.prog 145 #[.agg (pgc at_ p.lv ve vk).toArray] w fun e w'=>e=.returned (.bool (decide (szP p≤509)))∧Below w.heap.size w w':=by
 have hY:Below w.heap.size w (w.alloc (.cells (pgc at_ p.lv ve vk).toArray 133)):=(Below.refl _ w).alloc (Nat.le_refl _) _
 have kb:=Blk.new w 133 (pgc at_ p.lv ve vk)
 have HS:=codSize13 at_ p ve vk L _ (h.below hY) hf
 obtain⟨ea,ec,ka,kc,rfl,rfl⟩:=h.forms
 unfold pgc at *
 have c0:=kb.cell 0
 have c1:=kb.cell 1
 have c2:=kb.cell 2
 have c3:=kb.cell 3
 simp only[gZ0,gZ1] at c0 c1 c2 c3
 have HY:=mkHid hY
 clear h hf kb hY
 generalize szP p=Z at *
 generalize p.lv=lv at *
 generalize p.es.length=n at *
 generalize p.ks.length=m at *
 by_cases hz:Z≤509
 ·have hz':(Z:Int)≤509:=by omega
  rw[decide_eq_true hz]
  go_enter Tryz.func145,Tryz.ntmps145
  go_wp2_with (go_at_call 180;refine HS.mono ?_;rintro e y1 ⟨rfl,hb1⟩)
  go_ret
  exact⟨by first|(simp;done)|(simp[hz'];done),HY.out.trans (hb1.mono HY.out.size)⟩
 ·have hz':¬(Z:Int)≤509:=by omega
  rw[decide_eq_false hz]
  go_enter Tryz.func145,Tryz.ntmps145
  go_wp2_with (go_at_call 180;refine HS.mono ?_;rintro e y1 ⟨rfl,hb1⟩)
  go_ret
  exact⟨by first|(simp;done)|(simp[hz'];done),HY.out.trans (hb1.mono HY.out.size)⟩
theorem codSlim (at_:Int)(p:Pg)(ve vk:Value)(L:List Eq3)(w:World)(h:PgR fl w p ve vk L)(hf:PgF p):
  Calls Tryz.prog 150 #[.agg (pgc at_ p.lv ve vk).toArray] w fun e w'=>e=.returned (.bool (decide (szP p<254)))∧Below w.heap.size w w':=by
 have hY:Below w.heap.size w (w.alloc (.cells (pgc at_ p.lv ve vk).toArray 133)):=(Below.refl _ w).alloc (Nat.le_refl _) _
 have kb:=Blk.new w 133 (pgc at_ p.lv ve vk)
 have HS:=codSize13 at_ p ve vk L _ (h.below hY) hf
 obtain⟨ea,ec,ka,kc,rfl,rfl⟩:=h.forms
 unfold pgc at *
 have c0:=kb.cell 0
 have c1:=kb.cell 1
 have c2:=kb.cell 2
 have c3:=kb.cell 3
 simp only[gZ0,gZ1] at c0 c1 c2 c3
 have HY:=mkHid hY
 clear h hf kb hY
 generalize szP p=Z at *
 generalize p.lv=lv at *
 generalize p.es.length=n at *
 generalize p.ks.length=m at *
 by_cases hz:Z<254
 ·have hz':(Z:Int)<254:=by omega
  rw[decide_eq_true hz]
  go_enter Tryz.func150,Tryz.ntmps150
  go_wp2_with (go_at_call 180;refine HS.mono ?_;rintro e y1 ⟨rfl,hb1⟩)
  go_ret
  exact⟨by first|(simp;done)|(simp[hz'];done),HY.out.trans (hb1.mono HY.out.size)⟩
 ·have hz':¬(Z:Int)<254:=by omega
  rw[decide_eq_false hz]
  go_enter Tryz.func150,Tryz.ntmps150
  go_wp2_with (go_at_call 180;refine HS.mono ?_;rintro e y1 ⟨rfl,hb1⟩)
  go_ret
  exact⟨by first|(simp;done)|(simp[hz'];done),HY.out.trans (hb1.mono HY.out.size)⟩
end Go.Proofs.YtpecobmfabmpkaaGreatDoor
