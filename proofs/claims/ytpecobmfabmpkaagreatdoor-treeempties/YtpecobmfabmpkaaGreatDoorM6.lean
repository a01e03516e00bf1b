/- Tr0 Tp0 ResCell Bl0 Bl1 Bl5 Bl8 Tp1 PtA BpPanic PtB PtC PtD PtE PtF PtG PtH PtI -/
import Derived.Test.YtpecobmfabmpkaaGreatDoorM5
import Derived.Laws.ResultCell
import Derived.Laws.Rows
import Derived.WalkSmall
import Derived.Lib.BytesEntry
import Derived.Laws.Externs
import Derived.Deep.LoopGhost
set_option maxRecDepth 20000
set_option maxHeartbeats 4000000
namespace Go.Proofs.YtpecobmfabmpkaaGreatDoor
section
open Go.RowKit
def atE:List Et→List UInt8→Nat
 | [],_=>0
 | e::l,key=>if Op.bytesLess e.k key=true then atE l key+1 else 0
theorem atE_le (l:List Et)(key:List UInt8):atE l key≤l.length:=by
 induction l with
 | nil=>exact Nat.le_refl _
 | cons e l ih=>rw[atE];split<;>simp<;>omega
def et0:Et:=⟨[],[]⟩
theorem atE_lt {l:List Et}{key:List UInt8}:∀i,i<atE l key→Op.bytesLess (l.getD i et0).k key=true:=by
 induction l with
 | nil=>intro i hi;exact absurd hi (Nat.not_lt_zero _)
 | cons e l ih =>
  intro i hi
  rw[atE] at hi
  split at hi
  ·rename_i h
   cases i with
   | zero=>exact h
   | succ i=>exact ih i (by omega)
  ·exact absurd hi (Nat.not_lt_zero _)
theorem atE_at {l:List Et}{key:List UInt8}(h:atE l key<l.length):Op.bytesLess (l.getD (atE l key) et0).k key=false:=by
 induction l with
 | nil=>exact absurd h (Nat.not_lt_zero _)
 | cons e l ih =>
  rw[atE] at h ⊢
  split
  ·rename_i h2
   rw[if_pos h2] at h
   exact ih (by simpa using h)
  ·rename_i h2
   exact Bool.eq_false_iff.2 h2
theorem atE_uniq {l:List Et}{key:List UInt8}{k:Nat}(hk:k≤l.length)(h1:∀i,i<k→Op.bytesLess (l.getD i et0).k key=true)(h2:k<l.length→Op.bytesLess (l.getD k et0).k key=false):k=atE l key:=by
 rcases Nat.lt_trichotomy k (atE l key) with h|h|h
 ·have:=atE_lt k h
  rw[h2 (Nat.lt_of_lt_of_le h (atE_le _ _))] at this
  cases this
 ·exact h
 ·have:=h1 _ h
  rw[atE_at (Nat.lt_of_lt_of_le h hk)] at this
  cases this
def isE (l:List Et)(i:Nat)(key:List UInt8):Bool:=decide (i<l.length)&&((l.getD i et0).k==key)
def putE13 (l:List Et)(key value:List UInt8):List Et:=l.take (atE l key)++⟨key,value⟩::(if isE l (atE l key) key=true then l.drop (atE l key+1) else l.drop (atE l key))
def delE13 (l:List Et)(key:List UInt8):List Et:=if isE l (atE l key) key=true then l.take (atE l key)++l.drop (atE l key+1) else l
def getE13 (l:List Et)(key:List UInt8):List UInt8:=if isE l (atE l key) key=true then (l.getD (atE l key) et0).v else []
def scanE13 (l:List Et)(from_:List UInt8)(most:Int):List Et:=(l.drop (atE l from_)).take most.toNat
def keyOk (k:List UInt8):Bool:=decide (1≤k.length∧k.length≤100)
def itemOk (k v:List UInt8):Bool:=keyOk k&&decide (k.length+v.length≤240)
theorem lt_irr (x:List UInt8):Op.bytesLess x x=false:=by
 induction x with
 | nil=>rfl
 | cons a x ih=>rw[Op.bytesLess,ih];simp
theorem lt_cons (a b:UInt8)(x y:List UInt8):Op.bytesLess (a::x) (b::y)=(decide (a<b)||(a==b&&Op.bytesLess x y)):=by rw[Op.bytesLess]
theorem lt_tr (x y z:List UInt8)(h1:Op.bytesLess x y=true)(h2:Op.bytesLess y z=true):Op.bytesLess x z=true:=by
 induction x generalizing y z with
 | nil =>
  cases z with
  | nil=>cases y with
   | nil=>exact h1
   | cons b y=>cases h2
  | cons c z=>rfl
 | cons a x ih =>
  cases y with
  | nil=>cases h1
  | cons b y =>
   cases z with
   | nil=>cases h2
   | cons c z =>
    rw[lt_cons,Bool.or_eq_true,Bool.and_eq_true,decide_eq_true_eq,beq_iff_eq] at h1 h2 ⊢
    rcases h1 with h1|⟨e1,h1⟩
    ·rcases h2 with h2|⟨e2,h2⟩
     ·exact .inl (UInt8.lt_trans h1 h2)
     ·exact .inl (e2▸h1)
    ·rcases h2 with h2|⟨e2,h2⟩
     ·exact .inl (e1▸h2)
     ·exact .inr ⟨e1.trans e2,ih y z h1 h2⟩
theorem lt_no {x y:List UInt8}(h:Op.bytesLess y x=true):Op.bytesLess x y=false:=by
 cases h2:Op.bytesLess x y with
 | false=>rfl
 | true=>have:=lt_tr x y x h2 h;rw[lt_irr] at this;cases this
theorem lt_ne {x y:List UInt8}(h:Op.bytesLess y x=true):x≠y:=fun e=>by rw[e,lt_irr] at h;cases h
theorem lt_tot (x y:List UInt8):Op.bytesLess x y=true∨x=y∨Op.bytesLess y x=true:=by
 induction x generalizing y with
 | nil=>cases y with
  | nil=>exact .inr (.inl rfl)
  | cons b y=>exact .inl rfl
 | cons a x ih =>
  cases y with
  | nil=>exact .inr (.inr rfl)
  | cons b y =>
   rw[lt_cons,lt_cons]
   by_cases h:a<b
   ·exact .inl (by rw[decide_eq_true h];rfl)
   ·by_cases h2:b<a
    ·exact .inr (.inr (by rw[decide_eq_true h2];rfl))
    ·have e:a=b:=by
      have h3:¬a.toNat<b.toNat:=fun h'=>h (UInt8.lt_iff_toNat_lt.2 h')
      have h4:¬b.toNat<a.toNat:=fun h'=>h2 (UInt8.lt_iff_toNat_lt.2 h')
      exact UInt8.toNat_inj.1 (by omega)
     subst e
     rcases ih y with h3|h3|h3
     ·exact .inl (by rw[h3];simp)
     ·exact .inr (.inl (by rw[h3]))
     ·exact .inr (.inr (by rw[h3];simp))
def hasE13 (l:List Et)(key:List UInt8):Bool:=isE l (atE l key) key
theorem has_cons (e:Et)(l:List Et)(k:List UInt8):hasE13 (e::l) k=if Op.bytesLess e.k k=true then hasE13 l k else (e.k==k):=by
 unfold hasE13
 rw[atE]
 split
 ·unfold isE;simp
 ·unfold isE;simp
theorem put_nil (k v:List UInt8):putE13 [] k v=[⟨k,v⟩]:=rfl
theorem put_cons (e:Et)(l:List Et)(k v:List UInt8):putE13 (e::l) k v=if Op.bytesLess e.k k=true then e::putE13 l k v else if e.k=k then ⟨k,v⟩::l else ⟨k,v⟩::e::l:=by
 unfold putE13
 by_cases h:Op.bytesLess e.k k=true
 ·have h2:atE (e::l) k=atE l k+1:=by rw[atE,if_pos h]
  have h3:isE (e::l) (atE l k+1) k=isE l (atE l k) k:=by unfold isE;simp
  rw[if_pos h,h2,h3]
  simp
 ·have h2:atE (e::l) k=0:=by rw[atE,if_neg h]
  have h3:isE (e::l) 0 k=(e.k==k):=by unfold isE;simp
  rw[if_neg h,h2,h3]
  by_cases h4:e.k=k
  ·rw[if_pos h4,if_pos (by rw[h4];simp)];rfl
  ·rw[if_neg h4,if_neg (by simpa using h4)];rfl
theorem del_cons (e:Et)(l:List Et)(k:List UInt8):delE13 (e::l) k=if Op.bytesLess e.k k=true then e::delE13 l k else if e.k=k then l else e::l:=by
 unfold delE13
 by_cases h:Op.bytesLess e.k k=true
 ·have h2:atE (e::l) k=atE l k+1:=by rw[atE,if_pos h]
  have h3:isE (e::l) (atE l k+1) k=isE l (atE l k) k:=by unfold isE;simp
  rw[if_pos h,h2,h3]
  split<;>simp
 ·have h2:atE (e::l) k=0:=by rw[atE,if_neg h]
  have h3:isE (e::l) 0 k=(e.k==k):=by unfold isE;simp
  rw[if_neg h,h2,h3]
  by_cases h4:e.k=k
  ·rw[if_pos h4,if_pos (by rw[h4];simp)];rfl
  ·rw[if_neg h4,if_neg (by simpa using h4)]
theorem get_cons (e:Et)(l:List Et)(k:List UInt8):getE13 (e::l) k=if Op.bytesLess e.k k=true then getE13 l k else if e.k=k then e.v else []:=by
 unfold getE13
 by_cases h:Op.bytesLess e.k k=true
 ·have h2:atE (e::l) k=atE l k+1:=by rw[atE,if_pos h]
  have h3:isE (e::l) (atE l k+1) k=isE l (atE l k) k:=by unfold isE;simp
  rw[if_pos h,h2,h3]
  simp
 ·have h2:atE (e::l) k=0:=by rw[atE,if_neg h]
  have h3:isE (e::l) 0 k=(e.k==k):=by unfold isE;simp
  rw[if_neg h,h2,h3]
  by_cases h4:e.k=k
  ·rw[if_pos h4,if_pos (by rw[h4];simp)];rfl
  ·rw[if_neg h4,if_neg (by simpa using h4)]
def AllLt (A:List Et)(k:List UInt8):Prop:=∀e∈A,Op.bytesLess e.k k=true
def AllGt (B:List Et)(k:List UInt8):Prop:=∀e∈B,Op.bytesLess k e.k=true
theorem gt_head {B:List Et}{k:List UInt8}(h:AllGt B k){e:Et}{B':List Et}(hB:B=e::B'):Op.bytesLess e.k k=false∧¬e.k=k:=by
 have:=h e (by rw[hB];exact List.mem_cons_self)
 exact⟨lt_no this,lt_ne this⟩
theorem put_gt {B:List Et}{k:List UInt8}(h:AllGt B k)(v:List UInt8):putE13 B k v=⟨k,v⟩::B:=by
 cases B with
 | nil=>rfl
 | cons e B=>rw[put_cons,if_neg (by rw[(gt_head h rfl).1];simp),if_neg (gt_head h rfl).2]
theorem del_gt {B:List Et}{k:List UInt8}(h:AllGt B k):delE13 B k=B:=by
 cases B with
 | nil=>rfl
 | cons e B=>rw[del_cons,if_neg (by rw[(gt_head h rfl).1];simp),if_neg (gt_head h rfl).2]
theorem has_gt {B:List Et}{k:List UInt8}(h:AllGt B k):hasE13 B k=false:=by
 cases B with
 | nil=>rfl
 | cons e B=>rw[has_cons,if_neg (by rw[(gt_head h rfl).1];simp)];simpa using (gt_head h rfl).2
theorem get_gt {B:List Et}{k:List UInt8}(h:AllGt B k):getE13 B k=[]:=by
 cases B with
 | nil=>rfl
 | cons e B=>rw[get_cons,if_neg (by rw[(gt_head h rfl).1];simp),if_neg (gt_head h rfl).2]
theorem AllLt.tail {e:Et}{A:List Et}{k:List UInt8}(h:AllLt (e::A) k):AllLt A k:=fun x hx=>h x (List.mem_cons_of_mem _ hx)
theorem mid_put {A M B:List Et}{k:List UInt8}(hA:AllLt A k)(hB:AllGt B k)(v:List UInt8):putE13 (A++(M++B)) k v=A++(putE13 M k v++B):=by
 induction A with
 | nil =>
  rw[List.nil_append,List.nil_append]
  induction M with
  | nil=>rw[List.nil_append,put_gt hB];rfl
  | cons e M ih =>
   rw[List.cons_append,put_cons,put_cons,ih]
   split
   ·rfl
   ·split<;>rfl
 | cons e A ih=>rw[List.cons_append,put_cons,if_pos (hA e List.mem_cons_self),ih hA.tail];rfl
theorem mid_del {A M B:List Et}{k:List UInt8}(hA:AllLt A k)(hB:AllGt B k):delE13 (A++(M++B)) k=A++(delE13 M k++B):=by
 induction A with
 | nil =>
  rw[List.nil_append,List.nil_append]
  induction M with
  | nil=>rw[List.nil_append,del_gt hB];rfl
  | cons e M ih =>
   rw[List.cons_append,del_cons,del_cons,ih]
   split
   ·rfl
   ·split<;>rfl
 | cons e A ih=>rw[List.cons_append,del_cons,if_pos (hA e List.mem_cons_self),ih hA.tail];rfl
theorem mid_has {A M B:List Et}{k:List UInt8}(hA:AllLt A k)(hB:AllGt B k):hasE13 (A++(M++B)) k=hasE13 M k:=by
 induction A with
 | nil =>
  rw[List.nil_append]
  induction M with
  | nil=>rw[List.nil_append,has_gt hB];rfl
  | cons e M ih=>rw[List.cons_append,has_cons,has_cons,ih]
 | cons e A ih=>rw[List.cons_append,has_cons,if_pos (hA e List.mem_cons_self),ih hA.tail]
theorem mid_get {A M B:List Et}{k:List UInt8}(hA:AllLt A k)(hB:AllGt B k):getE13 (A++(M++B)) k=getE13 M k:=by
 induction A with
 | nil =>
  rw[List.nil_append]
  induction M with
  | nil=>rw[List.nil_append,get_gt hB];rfl
  | cons e M ih=>rw[List.cons_append,get_cons,get_cons,ih]
 | cons e A ih=>rw[List.cons_append,get_cons,if_pos (hA e List.mem_cons_self),ih hA.tail]
def SrtE (l:List Et):Prop:=l.Pairwise (fun a b=>Op.bytesLess a.k b.k=true)
theorem mem_put {l:List Et}{k v:List UInt8}{x:Et}(h:x∈putE13 l k v):x=⟨k,v⟩∨x∈l:=by
 induction l with
 | nil=>rw[put_nil] at h;exact .inl (List.mem_singleton.1 h)
 | cons e l ih =>
  rw[put_cons] at h
  split at h
  ·rcases List.mem_cons.1 h with h|h
   ·exact .inr (h▸List.mem_cons_self)
   ·rcases ih h with h|h
    ·exact .inl h
    ·exact .inr (List.mem_cons_of_mem _ h)
  ·split at h
   ·rcases List.mem_cons.1 h with h|h
    ·exact .inl h
    ·exact .inr (List.mem_cons_of_mem _ h)
   ·rcases List.mem_cons.1 h with h|h
    ·exact .inl h
    ·exact .inr h
theorem del_sub (l:List Et)(k:List UInt8):(delE13 l k).Sublist l:=by
 induction l with
 | nil=>exact List.Sublist.refl _
 | cons e l ih =>
  rw[del_cons]
  split
  ·exact ih.cons_cons e
  ·split
   ·exact List.sublist_cons_self e l
   ·exact List.Sublist.refl _
theorem SrtE.put {l:List Et}(h:SrtE l)(k v:List UInt8):SrtE (putE13 l k v):=by
 induction l with
 | nil=>exact List.pairwise_singleton _ _
 | cons e l ih =>
  obtain⟨h1,h2⟩:=List.pairwise_cons.1 h
  rw[put_cons]
  split
  ·rename_i hlt
   refine List.pairwise_cons.2 ⟨fun x hx=>?_,ih h2⟩
   rcases mem_put hx with h3|h3
   ·rw[h3];exact hlt
   ·exact h1 x h3
  ·rename_i hlt
   split
   ·rename_i he
    exact List.pairwise_cons.2 ⟨fun x hx=>by show Op.bytesLess k x.k=true;rw[←he];exact h1 x hx,h2⟩
   ·rename_i he
    have hk:Op.bytesLess k e.k=true:=by
     rcases lt_tot e.k k with h3|h3|h3
     ·exact absurd h3 hlt
     ·exact absurd h3 he
     ·exact h3
    refine List.pairwise_cons.2 ⟨fun x hx=>?_,h⟩
    rcases List.mem_cons.1 hx with h3|h3
    ·rw[h3];exact hk
    ·exact lt_tr _ _ _ hk (h1 x h3)
theorem SrtE.del {l:List Et}(h:SrtE l)(k:List UInt8):SrtE (delE13 l k):=h.sublist (del_sub l k)
theorem put_ne (l:List Et)(k v:List UInt8):putE13 l k v≠[]:=by
 cases l with
 | nil=>rw[put_nil];exact List.cons_ne_nil _ _
 | cons e l=>rw[put_cons];split<;>(try split)<;>exact List.cons_ne_nil _ _
def szE (e:Et):Nat:=2+e.k.length+e.v.length
def szL:List Et→Nat
 | []=>0
 | e::l=>szE e+szL l
theorem szL_append (a b:List Et):szL (a++b)=szL a+szL b:=by
 induction a with
 | nil=>rw[List.nil_append,szL];omega
 | cons e a ih=>rw[List.cons_append,szL,szL,ih];omega
theorem szL_put (l:List Et)(k v:List UInt8):szL (putE13 l k v)≤szL l+szE ⟨k,v⟩:=by
 induction l with
 | nil=>rw[put_nil];simp[szL]
 | cons e l ih =>
  rw[put_cons]
  split
  ·rw[szL,szL];omega
  ·split
   ·rw[szL,szL];omega
   ·rw[szL,szL];omega
theorem szL_del (l:List Et)(k:List UInt8):szL (delE13 l k)≤szL l:=by
 induction l with
 | nil=>exact Nat.le_refl _
 | cons e l ih =>
  rw[del_cons]
  split
  ·rw[szL,szL];omega
  ·split
   ·rw[szL];omega
   ·exact Nat.le_refl _
theorem szL_len {l:List Et}(h:∀e∈l,1≤e.k.length):3 * l.length≤szL l:=by
 induction l with
 | nil=>exact Nat.le_refl _
 | cons e l ih =>
  have h1:=ih (fun x hx=>h x (List.mem_cons_of_mem _ hx))
  have h2:=h e List.mem_cons_self
  rw[szL,List.length_cons]
  unfold szE
  omega
theorem del_len (l:List Et)(k:List UInt8)(h:hasE13 l k=true):(delE13 l k).length+1=l.length:=by
 induction l with
 | nil=>cases h
 | cons e l ih =>
  rw[has_cons] at h
  rw[del_cons]
  split
  ·rename_i h2
   rw[if_pos h2] at h
   rw[List.length_cons,List.length_cons,ih h]
  ·rename_i h2
   rw[if_neg h2] at h
   rw[if_pos (by simpa using h),List.length_cons]
theorem del_no (l:List Et)(k:List UInt8)(h:hasE13 l k=false):delE13 l k=l:=by
 induction l with
 | nil=>rfl
 | cons e l ih =>
  rw[has_cons] at h
  rw[del_cons]
  split
  ·rename_i h2
   rw[if_pos h2] at h
   rw[ih h]
  ·rename_i h2
   rw[if_neg h2] at h
   rw[if_neg (by simpa using h)]
theorem put_len (l:List Et)(k v:List UInt8):(putE13 l k v).length≤l.length+1:=by
 induction l with
 | nil=>exact Nat.le_refl _
 | cons e l ih =>
  rw[put_cons]
  split
  ·rw[List.length_cons,List.length_cons];omega
  ·split
   ·rw[List.length_cons,List.length_cons];omega
   ·simp only[List.length_cons];omega
theorem results_cell1 {P:Program}{fn:Func}{p:Tmp}{ty:TypeId}(h:fn.results=#[.cell p ty])(tmps:Array Value)(w:World)(g:Nat)(x:Value)
  (hp:tmps.getD p undef=.pointer (some ⟨g,0,none⟩)) (hl:(loadVar ty ⟨g,0,none⟩).run P w=.ok x w):(results fn tmps).run P w=.ok x w:=by
 have q1:tmps[p]?.getD undef=.pointer (some ⟨g,0,none⟩):=by simpa using hp
 simp only[results,h]
 simp[q1,asAddr,hl]
theorem results_cellrow {P:Program}{fn:Func}{p:Tmp}{ty:TypeId}(h:fn.results=#[.cell p ty])(tmps:Array Value)(w:World)(g:Nat)(t:TypeId)(cs:Array Value)(fr:Nat × Nat)(d:TypeDesc)
  (hp:tmps.getD p undef=.pointer (some ⟨g,0,none⟩)) (hg:w.heap[g]?=some (.cells cs t fr))
  (hu:P.underlying ty=some d) (hd:(match d with | .struct _ | .array _ _=>true|_=>false)=true) (hi:(P.info? ty).map (·.size)=some cs.size):
  (results fn tmps).run P w=.ok (.agg cs) w:=results_cell1 h tmps w g _ hp (run_loadVar_row w g t ty cs fr d hg hu hd hi)
theorem results_cellrow_tmp {P:Program}{fn:Func}{p u:Tmp}{ty:TypeId}(h:fn.results=#[.cell p ty,.tmp u])(tmps:Array Value)(w:World)(g:Nat)(t:TypeId)(cs:Array Value)(fr:Nat × Nat)(d:TypeDesc)
  (hp:tmps.getD p undef=.pointer (some ⟨g,0,none⟩)) (hg:w.heap[g]?=some (.cells cs t fr))
  (hu:P.underlying ty=some d) (hd:(match d with | .struct _ | .array _ _=>true|_=>false)=true) (hi:(P.info? ty).map (·.size)=some cs.size):
  (results fn tmps).run P w=.ok (.tuple #[.agg cs,tmps.getD u undef]) w:=by
 rw[results_cell_tmp h,hp]
 simp[asAddr,Result.andThen,run_loadVar_row w g t ty cs fr d hg hu hd hi]
structure Rf where
 len:Int
 sum:List UInt8
 secs:List Int
def needL (n:Int):Int:=if n<1 then 0 else (n-1)/512+1
def secOk (l:List Int)(k:Nat):Prop:=∀i,i<k→(51≤l.getD i 0∧l.getD i 0<4096)∧∀x,x<i→l.getD x 0≠l.getD i 0
instance (l:List Int) (k:Nat):Decidable (secOk l k):=by unfold secOk;exact inferInstance
def headOk (r:Rf):Prop:=0≤r.len∧r.len≤6144∧r.sum.length=32∧(r.secs.length:Int)=needL r.len
instance (r:Rf):Decidable (headOk r):=by unfold headOk;exact inferInstance
def pad512 (k:List UInt8):List UInt8:=k.take 512++List.replicate (512-k.length) 0
theorem pad512_len (k:List UInt8):(pad512 k).length=512:=by unfold pad512;rw[List.length_append,List.length_take,List.length_replicate];omega
def roomOk (t:Tl)(j:Jl)(n:Nat):Prop:=n=0∨(n≤freeL (mapL t j) (j.p.n-51)∧(n:Int)≤48-(t.l.length:Int)-1)
instance (t:Tl) (j:Jl) (n:Nat):Decidable (roomOk t j n):=by unfold roomOk;exact inferInstance
def entB (e:Et):List UInt8:=UInt8.ofNat e.k.length::UInt8.ofNat e.v.length::(e.k++e.v)
def entsB:List Et→List UInt8
 | []=>[]
 | e::l=>entB e++entsB l
theorem entB_length (e:Et):(entB e).length=szE e:=by unfold entB szE;simp;omega
theorem entsB_length (l:List Et):(entsB l).length=szL l:=by
 induction l with
 | nil=>rfl
 | cons e l ih=>rw[entsB,List.length_append,entB_length,ih,szL]
theorem entsB_append (a b:List Et):entsB (a++b)=entsB a++entsB b:=by
 induction a with
 | nil=>rfl
 | cons e a ih=>rw[List.cons_append,entsB,entsB,ih,List.append_assoc]
def kidB (i:Nat):List UInt8:=[UInt8.ofNat (i/256),UInt8.ofNat (i%256)]
def kidsB:List Nat→List UInt8
 | []=>[]
 | i::l=>kidB i++kidsB l
theorem kidsB_length (l:List Nat):(kidsB l).length=2 * l.length:=by
 induction l with
 | nil=>rfl
 | cons e l ih=>rw[kidsB,List.length_append,ih,List.length_cons];unfold kidB;simp;omega
theorem kidsB_append (a b:List Nat):kidsB (a++b)=kidsB a++kidsB b:=by
 induction a with
 | nil=>rfl
 | cons e a ih=>rw[List.cons_append,kidsB,kidsB,ih,List.append_assoc]
structure Pg where
 lv:Nat
 es:List Et
 ks:List Nat
def parsE:Nat→List UInt8→Option (List Et × List UInt8)
 | 0,b=>some ([],b)
 | n+1,b =>
  if 2≤b.length∧2+(b.getD 0 0).toNat+(b.getD 1 0).toNat≤b.length then
   (parsE n (b.drop (2+(b.getD 0 0).toNat+(b.getD 1 0).toNat))).map fun x=>(⟨(b.drop 2).take (b.getD 0 0).toNat,(b.drop (2+(b.getD 0 0).toNat)).take (b.getD 1 0).toNat⟩::x.1,x.2)
  else none
def parsK:Nat→List UInt8→Option (List Nat × List UInt8)
 | 0,b=>some ([],b)
 | n+1,b =>
  if 2≤b.length then (parsK n (b.drop 2)).map fun x=>(((b.getD 0 0).toNat * 256+(b.getD 1 0).toNat):: x.1,x.2)
  else none
def zerosL (b:List UInt8):Bool:=b.all (· == 0)
def risE:List Et→Bool
 | []=>true
 | [_]=>true
 | a::b::l=>Op.bytesLess a.k b.k&&risE (b::l)
def rightE (l:List Et):Bool:=l.all (fun e=>itemOk e.k e.v)&&risE l&&decide (0<l.length)
def pgOf (b:List UInt8):Option Pg :=
 if 3≤b.length∧b.getD 0 0=116∧(b.getD 1 0).toNat≤11 then
  if (b.getD 1 0).toNat=0 then
   match parsE (b.getD 2 0).toNat (b.drop 3) with
   | some x=>if rightE x.1=true∧zerosL x.2=true then some ⟨0,x.1,[]⟩ else none
   | none=>none
  else
   match parsK (b.getD 2 0).toNat (b.drop 3) with
   | some x=>if 1<x.1.length∧zerosL x.2=true then some ⟨(b.getD 1 0).toNat,[],x.1⟩ else none
   | none=>none
 else none
def leafB (l:List Et):List UInt8:=pad512 (116::0::UInt8.ofNat l.length::entsB l)
def nodeB (ks:List Nat):List UInt8:=pad512 (116::1::UInt8.ofNat ks.length::kidsB ks)
structure LfOk (l:List Et):Prop where
 ne:l≠[]
 ok:∀e∈l,itemOk e.k e.v=true
 srt:SrtE l
 sz:szL l≤509
theorem item_facts {e:Et}(h:itemOk e.k e.v=true):1≤e.k.length∧e.k.length≤100∧e.k.length+e.v.length≤240:=by
 unfold itemOk keyOk at h
 simp only[Bool.and_eq_true,decide_eq_true_eq] at h
 omega
theorem szE_le {e:Et}(h:itemOk e.k e.v=true):szE e≤242:=by have:=item_facts h;unfold szE;omega
theorem ris_of {l:List Et}(h:SrtE l):risE l=true:=by
 induction l with
 | nil=>rfl
 | cons a l ih =>
  cases l with
  | nil=>rfl
  | cons b l =>
   obtain⟨h1,h2⟩:=List.pairwise_cons.1 h
   rw[risE,h1 b List.mem_cons_self,ih h2];rfl
theorem LfOk.len {l:List Et}(h:LfOk l):l.length≤169:=by
 have:=szL_len (fun e he=>(item_facts (h.ok e he)).1)
 have:=h.sz
 omega
theorem u8_of {n:Nat}(h:n<256):(UInt8.ofNat n).toNat=n:=by simp;omega
theorem pad_eq {b:List UInt8}(h:b.length≤512):pad512 b=b++List.replicate (512-b.length) 0:=by unfold pad512;rw[List.take_of_length_le h]
theorem zeros_rep (n:Nat):zerosL (List.replicate n 0)=true:=by unfold zerosL;simp
theorem parsE_ents (l:List Et)(hl:∀e∈l,itemOk e.k e.v=true)(r:List UInt8):parsE l.length (entsB l++r)=some (l,r):=by
 induction l with
 | nil=>rfl
 | cons e l ih =>
  have hf:=item_facts (hl e List.mem_cons_self)
  have e1:(UInt8.ofNat e.k.length).toNat=e.k.length:=u8_of (by omega)
  have e2:(UInt8.ofNat e.v.length).toNat=e.v.length:=u8_of (by omega)
  have hb:entsB (e::l)++r=UInt8.ofNat e.k.length::UInt8.ofNat e.v.length::(e.k++(e.v++(entsB l++r))):=by
   rw[entsB];unfold entB;simp
  rw[List.length_cons,parsE,hb]
  simp only[List.getD_cons_zero,List.getD_cons_succ,e1,e2]
  have hlen:(UInt8.ofNat e.k.length::UInt8.ofNat e.v.length::(e.k++(e.v++(entsB l++r)))).length=2+e.k.length+e.v.length+(entsB l++r).length:=by simp;omega
  rw[if_pos (by rw[hlen];omega)]
  have d1:(UInt8.ofNat e.k.length::UInt8.ofNat e.v.length::(e.k++(e.v++(entsB l++r)))).drop (2+e.k.length+e.v.length)=entsB l++r:=by
   rw[show 2+e.k.length+e.v.length=(e.k.length+e.v.length)+1+1 by omega,List.drop_succ_cons,List.drop_succ_cons,←List.append_assoc,List.drop_left' (by simp)]
  have d2:(UInt8.ofNat e.k.length::UInt8.ofNat e.v.length::(e.k++(e.v++(entsB l++r)))).drop 2=e.k++(e.v++(entsB l++r)):=rfl
  have d3:(UInt8.ofNat e.k.length::UInt8.ofNat e.v.length::(e.k++(e.v++(entsB l++r)))).drop (2+e.k.length)=e.v++(entsB l++r):=by
   rw[show 2+e.k.length=e.k.length+1+1 by omega,List.drop_succ_cons,List.drop_succ_cons,List.drop_left' rfl]
  rw[d1,d2,d3,ih (fun x hx=>hl x (List.mem_cons_of_mem _ hx)),List.take_left' rfl,List.take_left' rfl]
  rfl
theorem parsK_kids (l:List Nat)(hl:∀i∈l,i<65536)(r:List UInt8):parsK l.length (kidsB l++r)=some (l,r):=by
 induction l with
 | nil=>rfl
 | cons i l ih =>
  have hi:=hl i List.mem_cons_self
  have e1:(UInt8.ofNat (i/256)).toNat=i/256:=u8_of (by omega)
  have e2:(UInt8.ofNat (i%256)).toNat=i%256:=u8_of (by omega)
  have hb:kidsB (i::l)++r=UInt8.ofNat (i/256):: UInt8.ofNat (i%256):: (kidsB l++r):=by rw[kidsB];unfold kidB;simp
  rw[List.length_cons,parsK,hb]
  simp only[List.getD_cons_zero,List.getD_cons_succ,e1,e2]
  rw[if_pos (by simp)]
  rw[show (UInt8.ofNat (i/256):: UInt8.ofNat (i%256):: (kidsB l++r)).drop 2=kidsB l++r from rfl,ih (fun x hx=>hl x (List.mem_cons_of_mem _ hx))]
  simp only[Option.map_some,Option.some.injEq,Prod.mk.injEq,List.cons.injEq,and_true]
  omega
theorem pg_leaf {l:List Et}(h:LfOk l):pgOf (leafB l)=some ⟨0,l,[]⟩:=by
 have hl:=h.len
 have hs:=h.sz
 have hn:0<l.length:=List.length_pos_iff.2 h.ne
 have e3:(UInt8.ofNat l.length).toNat=l.length:=u8_of (by omega)
 have hr:rightE l=true:=by
  unfold rightE
  rw[ris_of h.srt,List.all_eq_true.2 h.ok,decide_eq_true hn]
  rfl
 have hB:leafB l=116::0::UInt8.ofNat l.length::(entsB l++List.replicate (509-szL l) 0):=by
  unfold leafB
  rw[pad_eq (by simp only[List.length_cons];rw[entsB_length];omega)]
  simp only[List.length_cons,entsB_length,List.cons_append]
  rw[show 512-(szL l+1+1+1)=509-szL l by omega]
 unfold pgOf
 rw[hB]
 simp only[List.getD_cons_zero,List.getD_cons_succ,List.length_cons,e3]
 rw[if_pos ⟨by omega,trivial,by decide⟩,if_pos (by decide)]
 rw[show (116::0::UInt8.ofNat l.length::(entsB l++List.replicate (509-szL l) 0)).drop 3=entsB l++List.replicate (509-szL l) 0 from rfl,parsE_ents l h.ok]
 simp only
 rw[if_pos ⟨hr,zeros_rep _⟩]
theorem pg_node {ks:List Nat}(h1:1<ks.length)(h2:ks.length≤254)(h3:∀i∈ks,i<65536):pgOf (nodeB ks)=some ⟨1,[],ks⟩:=by
 have e3:(UInt8.ofNat ks.length).toNat=ks.length:=u8_of (by omega)
 have hB:nodeB ks=116::1::UInt8.ofNat ks.length::(kidsB ks++List.replicate (509-2 * ks.length) 0):=by
  unfold nodeB
  rw[pad_eq (by simp only[List.length_cons];rw[kidsB_length];omega)]
  simp only[List.length_cons,kidsB_length,List.cons_append]
  rw[show 512-(2 * ks.length+1+1+1)=509-2 * ks.length by omega]
 unfold pgOf
 rw[hB]
 simp only[List.getD_cons_zero,List.getD_cons_succ,List.length_cons,e3]
 rw[if_pos ⟨by omega,trivial,by decide⟩,if_neg (by decide)]
 rw[show (116::1::UInt8.ofNat ks.length::(kidsB ks++List.replicate (509-2 * ks.length) 0)).drop 3=kidsB ks++List.replicate (509-2 * ks.length) 0 from rfl,parsK_kids ks h3]
 simp only
 rw[if_pos ⟨h1,zeros_rep _⟩]
 rfl
structure CutOk (l:List Et)(c:Nat):Prop where
 c0:0<c
 c1:c<l.length
 lo:szL (l.take c)≤509
 hi:szL (l.drop c)≤509
def offC (l:List Et)(c:Nat):Nat:=max (2 * szL (l.take c)-szL l) (szL l-2 * szL (l.take c))
theorem szL_cut (l:List Et)(c:Nat):szL (l.take c)+szL (l.drop c)=szL l:=by rw[←szL_append,List.take_append_drop]
theorem szL_take_succ {l:List Et}{c:Nat}(h:c<l.length):szL (l.take (c+1))=szL (l.take c)+szE (l.getD c et0):=by
 rw[List.take_succ_eq_append_getElem h,szL_append,szL,szL]
 simp[h]
theorem cut_some {l:List Et}(hl:∀e∈l,szE e≤242)(h0:509<szL l):∃c,0<c∧c<l.length∧offC l c≤242:=by
 have hm:∀i,i<l.length→szE (l.getD i et0)≤242:=fun i hi=>by
  have:l.getD i et0=l[i]:=by simp[hi]
  rw[this];exact hl _ (List.getElem_mem hi)
 have hex:∃c,szL l≤2 * szL (l.take c)∧c≤l.length∧∀c',c'<c→2 * szL (l.take c')<szL l:=by
  have:∀n,n≤l.length→(∀c',c'≤n→2 * szL (l.take c')<szL l)∨∃c,szL l≤2 * szL (l.take c)∧c≤l.length∧∀c',c'<c→2 * szL (l.take c')<szL l:=by
   intro n
   induction n with
   | zero=>intro _;exact .inl (fun c' hc=>by rw[Nat.le_zero.1 hc];simp[szL];omega)
   | succ n ih =>
    intro hn
    rcases ih (by omega) with h|h
    ·by_cases h2:szL l≤2 * szL (l.take (n+1))
     ·exact .inr ⟨n+1,h2,hn,fun c' hc=>h c' (by omega)⟩
     ·exact .inl (fun c' hc=>by
       by_cases h3:c'=n+1
       ·rw[h3];omega
       ·exact h c' (by omega))
    ·exact .inr h
  rcases this l.length (Nat.le_refl _) with h|h
  ·have:=h l.length (Nat.le_refl _);rw[List.take_length] at this;omega
  ·exact h
 obtain⟨c,h1,h2,h3⟩:=hex
 have hc0:0<c:=by
  rcases Nat.eq_zero_or_pos c with h|h
  ·rw[h] at h1;simp[szL] at h1;omega
  ·exact h
 obtain⟨d,rfl⟩:∃d,c=d+1:=⟨c-1,by omega⟩
 have hs:=szL_take_succ (l:=l) (c:=d) (by omega)
 have hd:=h3 d (by omega)
 have hz:=hm d (by omega)
 have hd0:0<d:=by
  rcases Nat.eq_zero_or_pos d with h|h
  ·rw[h] at hs hd h1 hz;simp only[List.take_zero,szL] at hs;omega
  ·exact h
 by_cases hA:2 * szL (l.take (d+1))-szL l≤242∧d+1<l.length
 ·exact⟨d+1,hc0,hA.2,by unfold offC;omega⟩
 ·refine⟨d,hd0,by omega,?_⟩
  unfold offC
  by_cases h4:d+1<l.length
  ·have:¬2 * szL (l.take (d+1))-szL l≤242:=fun h=>hA ⟨h,h4⟩
   omega
  ·have h5:d+1=l.length:=by omega
   rw[h5,List.take_length] at hs
   omega
theorem cut_ok {l:List Et}{c:Nat}(hl:∀e∈l,szE e≤242)(h0:509<szL l)(h1:szL l≤760)(hc0:0<c)(hc1:c<l.length)(hbest:∀c',0<c'→c'<l.length→offC l c≤offC l c'):CutOk l c:=by
 obtain⟨d,d0,d1,d2⟩:=cut_some hl h0
 have h2:=hbest d d0 d1
 have h3:=szL_cut l c
 have h4:offC l c≤242:=Nat.le_trans h2 d2
 unfold offC at h4
 exact⟨hc0,hc1,by omega,by omega⟩
def OwnN (w:World)(base:Nat)(v:Value)(l:List Eq3):Prop:=w.ownsRow base 64 2 v l.length (ets l)
theorem OwnN.nil (w:World)(base:Nat):OwnN w base (.slice none 0 0) []:=World.ownsRow_nil _ _ _ _
theorem OwnN.on {w w':World}{base:Nat}{v:Value}{l:List Eq3}(h:OwnN w base v l)(hb:Below w.heap.size w w'):OwnN w' base v l:=own_keepO (us:=[64]) (KeepO.of_below hb) h (by decide)
theorem OwnN.form {w:World}{base:Nat}{v:Value}{l:List Eq3}(h:OwnN w base v l):∃a cap,v=.slice a l.length cap∧l.length≤cap∧(a=none∨∃g,a=some ⟨g,0,none⟩) ∧
  (0<l.length→∃g,a=some ⟨g,0,none⟩∧base≤g∧g<w.heap.size∧∀k (hk:k<l.length),∀j,j<2→w.cell? ⟨g,k * 2+j,none⟩=(etc2 (l[k]).1 (l[k]).2)[j]?):=by
 obtain⟨h1,h2⟩:=h
 rcases h2 with⟨rfl,h0⟩|⟨g,cap,cur,rfl,hb,hg,hle,hmax,hsz,htk⟩
 ·have:l=[]:=List.eq_nil_of_length_eq_zero h0
  subst this
  exact⟨none,0,rfl,Nat.le_refl _,.inl rfl,fun h=>absurd h (Nat.lt_irrefl 0)⟩
 ·refine⟨_,cap,rfl,hle,.inr ⟨g,rfl⟩,fun hp=>⟨g,rfl,hb,(Array.getElem?_eq_some_iff.1 hg).1,fun k hk j hj=>?_⟩⟩
  have hown:w.ownsRow base 64 2 (.slice (some ⟨g,0,none⟩) l.length cap) l.length (ets l):=⟨h1,.inr ⟨g,cap,cur,rfl,hb,hg,hle,hmax,hsz,htk⟩⟩
  rw[World.ownsRow.cellAt hown (k * 2+j) (by omega),ets_at l k j hk hj]
theorem OwnN.at_ {w:World}{base n cap:Nat}{a:Option Addr}{ls:List Eq3}(h:OwnN w base (.slice a n cap) ls)(k:Nat)(hk:k<ls.length):∃g,a=some ⟨g,0,none⟩∧base≤g∧g<w.heap.size∧∀j,j<2→w.cell? ⟨g,k * 2+j,none⟩=(etc2 (ls[k]).1 (ls[k]).2)[j]?:=by
 obtain⟨a',c',e,_,_,hr⟩:=h.form
 injection e with e1 e2 e3
 obtain⟨g,e4,h1,h2,h3⟩:=hr (by omega)
 exact⟨g,e1.trans e4,h1,h2,fun j hj=>h3 k hk j hj⟩
theorem KeepT.grownN {w w':World}{base:Nat}{v:Value}{l:List Eq3}(ho:OwnN w base v l)(hg:w.grownBy w' v.ownBlock):KeepT [64] w w' :=
 ⟨hg.size,fun k o hk hno=>by
  refine(hg.block k (Array.getElem?_eq_some_iff.1 hk).1 (fun eb=>?_)).trans hk
  rcases ho.2 with⟨rfl,_⟩|⟨g,cap,cur,rfl,_,hgb,_⟩
  ·simp[Value.ownBlock] at eb
  ·have hkg:k=g:=by simpa [Value.ownBlock] using eb
   subst hkg
   have:o=.cells cur 64 (0,0):=Option.some.inj (hk.symm.trans hgb)
   exact hno _ _ _ this (by decide)⟩
structure SrcN (w:World)(sa:Option Addr)(m c:Nat)(l:List Eq3):Prop where
 len:l.length=m
 nil:sa=none→m=0∧c=0
 cells:∀ad,sa=some ad→∀j u,(ets l)[j]?=some u→w.cell? (ad.add j)=some u
def cutN (a:Option Addr)(cap k:Nat):Option Addr:=if cap=k then a else a.map (·.add (k * 2))
theorem OwnN.src {w:World}{base:Nat}{a:Option Addr}{n cap:Nat}{ls:List Eq3}(h:OwnN w base (.slice a n cap) ls)(hn:n=ls.length)(k:Nat)(hk:k≤n):
  SrcN w a k cap (ls.take k)∧SrcN w (cutN a cap k) (n-k) (cap-k) (ls.drop k):=by
 subst hn
 rcases h.2 with⟨h1,h2⟩|⟨g,cap',cur,h3,h4,h5,hle,h7⟩
 ·injection h1 with e1 e2 e3
  subst e1 e3
  have hk0:k=0:=by omega
  subst hk0
  have hl:ls=[]:=List.eq_nil_of_length_eq_zero e2
  subst hl
  exact⟨⟨rfl,fun _=>⟨rfl,rfl⟩,fun ad e=>by cases e⟩,⟨rfl,fun _=>⟨rfl,rfl⟩,fun ad e=>by cases e⟩⟩
 ·injection h3 with e1 e2 e3
  subst e1 e3
  refine⟨⟨by rw[List.length_take];omega,(fun e=>by cases e),fun ad e j u hu=>?_⟩,⟨by rw[List.length_drop],fun e=>?_,fun ad e j u hu=>?_⟩⟩
  ·obtain rfl:=Option.some.inj e
   rw[ets_take] at hu
   have hj:j<k * 2:=by
    have:=(List.getElem?_eq_some_iff.1 hu).1
    rw[List.length_take] at this;omega
   rw[List.getElem?_take_of_lt hj] at hu
   exact World.ownsRow.cells h (g:=g) rfl j u hu
  ·unfold cutN at e
   split at e
   ·cases e
   ·cases e
  ·rw[ets_drop,List.getElem?_drop] at hu
   unfold cutN at e
   split at e
   ·rename_i hc
    have:=(List.getElem?_eq_some_iff.1 hu).1
    rw[ets_length] at this
    omega
   ·have e2:=Option.some.inj e
    rw[←e2]
    show w.cell? (((⟨g,0,none⟩:Addr).add (k * 2)).add j)=some u
    rw[Addr.add_lit,Addr.add_lit]
    have:=World.ownsRow.cells h (g:=g) rfl (k * 2+j) u hu
    rw[Addr.add_lit] at this
    rw[show 0+k * 2+j=0+(k * 2+j) by omega]
    exact this
theorem infoN:(Tryz.prog.info? 64).map (fun i=>(i.zero,i.size,i.bytes))=some (some etZ,2,48):=by kernel_rfl
theorem step_appNs {ops:Array Oper}{o:Oper}{a:Act}{K:Act→World→Prop}{Q:Exit→Act→World→Prop}{E:Prop}(w:World)(hgd:o.guard=none)(s x:Operand)
  (ho:o.op=.call { callee:=.builtin .append,args:=#[s,x],argTypes:=#[50,50] }) (base:Nat)
  (v:Value) (l:List Eq3) (hs:a.eval s=v) (hown:OwnN w base v l) (sa:Option Addr) (m c:Nat) (news:List Eq3) (hx:a.eval x=.slice sa m c) (hsrc:SrcN w sa m c news)
  (hbytes:l.length+m≤8192) (hbase:base≤w.heap.size) (d:Tmp) (hd:o.dst=some d)
  (h:∀v' w',OwnN w' base v' (l++news)→w.grownBy w' v.ownBlock→K (a.put (some d) v') w'):
  if Region.wanted o (yielded ops a.tmps)=true then Oper.wp Tryz.prog o a w K Q else E:=by
 have hw:Region.wanted o (yielded ops a.tmps)=true:=by simp[Region.wanted,hgd]
 rw[if_pos hw]
 obtain⟨i0,hi,hz0,hz1,hz2⟩:=info_parts infoN
 cases sa with
 | none =>
  obtain⟨hm,hc⟩:=hsrc.nil rfl
  have hn:news=[]:=List.eq_nil_of_length_eq_zero (by rw[hsrc.len,hm])
  subst hn hm hc
  have hrun:=run_append_owned_none (P:=Tryz.prog) (w:=w) base 50 o.type 64 i0 2 Tryz.underlying50 hi v l.length (ets l) hown
  rw[←hd] at h
  unfold Oper.wp
  simp[execOp,ho,resolve,invoke,builtin,hs,hx,hrun,Result.andThen]
  exact h v w (by rw[List.append_nil];exact hown) (World.grownBy.refl _ _)
 | some ad =>
  refine wp_append_own w s x 50 ho base 64 i0 etZ 2 48 Tryz.underlying50 hi hz0 hz1 hz2 rfl (by omega) v l.length (ets l) hs hown ad m c (ets news) hx (by rw[ets_length,hsrc.len]) (hsrc.cells ad rfl) (ets_one news) (by unfold maxLen;omega) (by omega) hbase ?_
  intro v' w' h1 h2 _
  rw[hd]
  exact h v' w' (by unfold OwnN;rw[ets_append,List.length_append,hsrc.len];exact h1) h2
theorem slNh (a:Option Addr)(n cap k:Nat)(hk:k≤cap)(ha:a=none∨∃g,a=some ⟨g,0,none⟩)(w:World):(Instr.slice 50 (.slice a n cap) none (some (.int .i64 (k:Int))) none).run Tryz.prog w=.ok (.slice a k cap) w:=by
 have he:Tryz.prog.elem 50=64:=by kernel_rfl
 have hz:(sizeOf 64).run Tryz.prog w=.ok 2 w:=by
  obtain⟨i0,hi,hz0,hz1,hz2⟩:=info_parts infoN
  simp[sizeOf,typeInfo,hi,hz1]
 rw[run_slice_h w 50 _ n cap (by rw[he];exact Tryz.underlying50) .i64 (k:Int) (by omega) (by omega),he,hz]
 simp only[Result.andThen,sliced,Int.toNat_natCast,Nat.zero_mul,Nat.sub_zero]
 rcases ha with rfl|⟨g,rfl⟩
 ·split<;>rfl
 ·split<;>simp[Addr.add_lit]
theorem slNl (a:Option Addr)(n cap k:Nat)(hk:k≤n)(w:World):(Instr.slice 50 (.slice a n cap) (some (.int .i64 (k:Int))) none none).run Tryz.prog w=.ok (.slice (cutN a cap k) (n-k) (cap-k)) w:=by
 have he:Tryz.prog.elem 50=64:=by kernel_rfl
 have hz:(sizeOf 64).run Tryz.prog w=.ok 2 w:=by
  obtain⟨i0,hi,hz0,hz1,hz2⟩:=info_parts infoN
  simp[sizeOf,typeInfo,hi,hz1]
 rw[run_slice_l w 50 _ n cap (by rw[he];exact Tryz.underlying50) .i64 (k:Int) (by omega) (by omega),he,hz]
 simp only[Result.andThen,sliced,Int.toNat_natCast,cutN]
abbrev UB:List TypeId:=[5,152]
def EtP (w:World)(e:Et)(q:EtA):Prop:=∀W,KeepO UB w W→IsE W e q
theorem EtP.is {w:World}{e:Et}{q:EtA}(h:EtP w e q):IsE w e q:=h w (KeepO.refl _ _)
theorem EtP.keep {w w':World}{e:Et}{q:EtA}(h:EtP w e q)(hk:KeepO UB w w'):EtP w' e q:=fun W hW=>h W (hk.trans hW)
def EtQ (fl:Nat)(w:World)(e:Et)(q:EtA):Prop:=∀W,KeepU fl UB w W→IsE W e q
theorem EtQ.is {fl:Nat}{w:World}{e:Et}{q:EtA}(h:EtQ fl w e q):IsE w e q:=h w (KeepU.refl _ _ _)
theorem EtQ.keep {fl:Nat}{w w':World}{e:Et}{q:EtA}(h:EtQ fl w e q)(hk:KeepU fl UB w w'):EtQ fl w' e q:=fun W hW=>h W (hk.trans hW)
theorem EtQ.below {fl:Nat}{w w':World}{e:Et}{q:EtA}(h:EtQ fl w e q)(hb:Below w.heap.size w w'):EtQ fl w' e q:=h.keep (KeepU.of_below hb)
theorem EtP.q {w:World}{e:Et}{q:EtA}(h:EtP w e q)(fl:Nat):EtQ fl w e q:=fun W hW=>h W hW.o
theorem EtQ.p {w:World}{e:Et}{q:EtA}(h:EtQ 0 w e q):EtP w e q:=fun W hW=>h W (KeepU.zero hW)
structure RdN (fl:Nat)(w:World)(v:Value)(L:List Eq3):Prop where
 form:∃a cap,v=.slice a L.length cap∧L.length≤cap∧(0<L.length→∃g off c fz,a=some ⟨g,off,none⟩∧w.heap[g]?=some (.cells c 64 fz)∧∀i u,(ets L)[i]?=some u→w.cell? ⟨g,off+i,none⟩=some u)
 is:∀x∈L,EtQ fl w x.1 x.2
abbrev UE:List TypeId:=[64,5,3,152]
theorem cell_same {w w':World}{g:Nat}(h:w'.heap[g]?=w.heap[g]?)(i:Nat):w'.cell? ⟨g,i,none⟩=w.cell? ⟨g,i,none⟩:=by
 unfold World.cell?
 simp only[h]
theorem RdN.keep {fl:Nat}{w w':World}{v:Value}{L:List Eq3}(h:RdN fl w v L)(hk:KeepU fl UE w w'):RdN fl w' v L:=by
 obtain⟨a,cap,e,hc,hr⟩:=h.form
 refine⟨⟨a,cap,e,hc,fun hp=>?_⟩,fun x hx=>(h.is x hx).keep (hk.less (by decide))⟩
 obtain⟨g,off,c,fz,e2,hg,hcs⟩:=hr hp
 have h2:=hk.o.same g c _ fz hg (by decide)
 exact⟨g,off,c,fz,e2,h2,fun i u hu=>(cell_same (h2.trans hg.symm) _).trans (hcs i u hu)⟩
theorem OwnN.rdq {fl:Nat}{w:World}{base:Nat}{v:Value}{L:List Eq3}(h:OwnN w base v L)(hi:∀x∈L,EtQ fl w x.1 x.2):RdN fl w v L:=by
 refine⟨?_,hi⟩
 rcases h.2 with⟨rfl,h0⟩|⟨g,cap,cur,rfl,hb,hg,hle,hmax,hsz,htk⟩
 ·rw[h0]
  exact⟨none,0,rfl,Nat.le_refl _,fun h=>absurd h (Nat.lt_irrefl 0)⟩
 ·exact⟨_,cap,rfl,hle,fun hp=>⟨g,0,cur,_,rfl,hg,fun i u hu=>by have:=World.ownsRow.cells h (g:=g) rfl i u hu;rw[Addr.add_lit] at this;exact this⟩⟩
theorem OwnN.rd {w:World}{base:Nat}{v:Value}{L:List Eq3}(h:OwnN w base v L)(hi:∀x∈L,EtP w x.1 x.2):RdN 0 w v L:=h.rdq fun x hx=>(hi x hx).q 0
theorem RdN.at_ {fl:Nat}{w:World}{a:Option Addr}{n cap:Nat}{L:List Eq3}(h:RdN fl w (.slice a n cap) L)(k:Nat)(x:Eq3)(hx:L[k]?=some x):n=L.length∧k<L.length∧∃g off,a=some ⟨g,off,none⟩∧w.cell? ⟨g,off+k * 2,none⟩=some (.slice x.2.a x.1.k.length x.2.c)∧w.cell? ⟨g,off+k * 2+1,none⟩=some (.slice x.2.b x.1.v.length x.2.d)∧IsE w x.1 x.2:=by
 obtain⟨hk,rfl⟩:=List.getElem?_eq_some_iff.1 hx
 obtain⟨a',cap',e,hc,hr⟩:=h.form
 injection e with e1 e2 e3
 obtain⟨g,off,c,fz,e4,hg,hcs⟩:=hr (by omega)
 have h0:=ets_at L k 0 hk (by omega)
 have h1:=ets_at L k 1 hk (by omega)
 exact⟨e2,hk,g,off,e1.trans e4,hcs (k * 2+0) _ h0,hcs (k * 2+1) _ h1,(h.is _ (List.getElem_mem hk)).is⟩
theorem bp_panic {P:Program}{fn:Func}{Q:Ending→World→Prop}{chain:List PanicEntry}{tmps:Array Value}{w:World}(h:Q (.panicked chain) w):bodyPost P fn Q (.panic chain) { tmps:=tmps,defers:=[] } w:=by
 exact⟨rfl,h⟩
def RdZ (w:World)(v:Value)(l:List Nat):Prop:=∃a cap,v=.slice a l.length cap∧l.length≤cap∧(0<l.length→∃g off c fz,a=some ⟨g,off,none⟩∧w.heap[g]?=some (.cells c 3 fz)∧∀i (hi:i<l.length),w.cell? ⟨g,off+i,none⟩=some (.int .i64 (l[i]:Int)))
theorem RdZ.keep {w w':World}{v:Value}{l:List Nat}(h:RdZ w v l)(hk:KeepO UE w w'):RdZ w' v l:=by
 obtain⟨a,cap,e,hc,hr⟩:=h
 refine⟨a,cap,e,hc,fun hp=>?_⟩
 obtain⟨g,off,c,fz,e2,hg,hcs⟩:=hr hp
 have h2:=hk.same g c _ fz hg (by decide)
 exact⟨g,off,c,fz,e2,h2,fun i hi=>(cell_same (h2.trans hg.symm) _).trans (hcs i hi)⟩
theorem RdZ.nil (w:World):RdZ w (.slice none 0 0) []:=⟨none,0,rfl,Nat.le_refl _,fun h=>absurd h (Nat.lt_irrefl 0)⟩
theorem RdZ.at_ {w:World}{a:Option Addr}{n cap:Nat}{l:List Nat}(h:RdZ w (.slice a n cap) l)(k:Nat)(hk:k<l.length):n=l.length∧∃g off,a=some ⟨g,off,none⟩∧w.cell? ⟨g,off+k,none⟩=some (.int .i64 (l[k]:Int)):=by
 obtain⟨a',cap',e,hc,hr⟩:=h
 injection e with e1 e2 e3
 obtain⟨g,off,c,fz,e4,hg,hcs⟩:=hr (by omega)
 exact⟨e2,g,off,e1.trans e4,hcs k hk⟩
theorem zn_at (l:List Nat)(i:Nat)(hi:i<l.length):(zv (l.map Int.ofNat))[i]?=some (.int .i64 (l[i]:Int)):=by unfold zv;simp[hi]
theorem OwnZ.rd {w:World}{base:Nat}{v:Value}{l:List Nat}(h:OwnZ w base v (l.map Int.ofNat)):RdZ w v l:=by
 rcases h.2 with⟨rfl,h0⟩|⟨g,cap,cur,rfl,hb,hg,hle,hmax,hsz,htk⟩
 ·rw[List.length_map] at h0
  have:l=[]:=List.eq_nil_of_length_eq_zero h0
  subst this
  exact RdZ.nil _
 ·rw[List.length_map] at hle
  refine⟨_,cap,by rw[List.length_map],hle,fun hp=>⟨g,0,cur,_,rfl,hg,fun i hi=>?_⟩⟩
  have:=World.ownsRow.cells h (g:=g) rfl i _ (zn_at l i hi)
  rw[Addr.add_lit] at this
  exact this
def pgc (at_:Int)(lv:Nat)(ve vk:Value):List Value:=[.int .i64 at_,.int .i64 (lv:Int),ve,vk]
structure PgR (fl:Nat)(w:World)(p:Pg)(ve vk:Value)(L:List Eq3):Prop where
 e:RdN fl w ve L
 k:RdZ w vk p.ks
 es:L.map Prod.fst=p.es
theorem PgR.keep {fl:Nat}{w w':World}{p:Pg}{ve vk:Value}{L:List Eq3}(h:PgR fl w p ve vk L)(hk:KeepU fl UE w w'):PgR fl w' p ve vk L:=⟨h.e.keep hk,h.k.keep hk.o,h.es⟩
theorem PgR.below {fl:Nat}{w w':World}{p:Pg}{ve vk:Value}{L:List Eq3}(h:PgR fl w p ve vk L)(hk:Below w.heap.size w w'):PgR fl w' p ve vk L:=h.keep (KeepU.of_below hk)
theorem PgR.len {fl:Nat}{w:World}{p:Pg}{ve vk:Value}{L:List Eq3}(h:PgR fl w p ve vk L):L.length=p.es.length:=by rw[←h.es,List.length_map]
theorem PgR.forms {fl:Nat}{w:World}{p:Pg}{ve vk:Value}{L:List Eq3}(h:PgR fl w p ve vk L):∃ea ec ka kc,ve=.slice ea p.es.length ec∧vk=.slice ka p.ks.length kc:=by
 obtain⟨a,c,e,_⟩:=h.e.form
 obtain⟨a2,c2,e2,_⟩:=h.k
 exact⟨a,c,a2,c2,by rw[e,h.len],e2⟩
structure PgF (p:Pg):Prop where
 e0:0<p.lv→p.es=[]
 k0:p.lv=0→p.ks=[]
 n:p.es.length+p.ks.length≤1000
 lv:p.lv≤11
 sz:∀e∈p.es,szE e≤1000
def szP (p:Pg):Nat:=szL p.es+2 * p.ks.length
def refused13 (e:Int):Ending:=.panicked [{ v:=.iface 30 (.int .i64 e),recovered:=false }]
theorem codNeed13 (b:Bool)(e:Int)(w:World):
  Calls Tryz.prog 99 #[.bool b,.int .i64 e] w fun x w'=>x=(if b then .returned (.tuple #[]) else refused13 e)∧w'=w:=by
 cases b
 ·go_enter Tryz.func99,Tryz.ntmps99
  go_wp2
  simp[bodyPost,refused13]
 ·go_enter Tryz.func99,Tryz.ntmps99
  go_wp2
  go_end0
  exact⟨rfl,rfl⟩
theorem needYes13 (e:Int)(w:World):Calls Tryz.prog 99 #[.bool true,.int .i64 e] w fun x w'=>x=.returned (.tuple #[])∧w'=w:=codNeed13 true e w
theorem needNo13 (e:Int)(w:World):Calls Tryz.prog 99 #[.bool false,.int .i64 e] w fun x w'=>x=.panicked [{ v:=.iface 30 (.int .i64 e),recovered:=false }]∧w'=w:=codNeed13 false e w
theorem codIsKey (a:Option Addr)(n c:Nat)(w:World):Calls Tryz.prog 39 #[.slice a n c] w fun e w'=>e=.returned (.bool (decide (1≤n∧n≤100)))∧w'=w:=by
 by_cases h1:1≤n
 ·have h1':(1:Int)≤(n:Int):=by omega
  by_cases h2:n≤100
  ·have h2':(n:Int)≤100:=by omega
   rw[decide_eq_true ⟨h1,h2⟩]
   go_enter Tryz.func39,Tryz.ntmps39
   go_wp2
   go_ret
   first|exact⟨rfl,rfl⟩|simp
  ·have h2':¬(n:Int)≤100:=by omega
   rw[decide_eq_false (fun h=>h2 h.2)]
   go_enter Tryz.func39,Tryz.ntmps39
   go_wp2
   go_ret
   first|exact⟨rfl,rfl⟩|simp
 ·have h1':¬(1:Int)≤(n:Int):=by omega
  rw[decide_eq_false (fun h=>h1 h.1)]
  go_enter Tryz.func39,Tryz.ntmps39
  go_wp2
  go_ret
  first|exact⟨rfl,rfl⟩|simp
theorem codIsItem (a b:Option Addr)(n c m d:Nat)(w:World)(hn:n≤140737488355328):Calls Tryz.prog 40 #[.slice a n c,.slice b m d] w fun e w'=>e=.returned (.bool (decide (n+m≤240)))∧w'=w:=by
 by_cases h1:n+m≤240
 ·have h1':(m:Int)≤240-(n:Int):=by omega
  rw[decide_eq_true h1]
  go_enter Tryz.func40,Tryz.ntmps40
  go_wp2
  go_ret
  first|exact⟨rfl,rfl⟩|simp
 ·have h1':¬(m:Int)≤240-(n:Int):=by omega
  rw[decide_eq_false h1]
  go_enter Tryz.func40,Tryz.ntmps40
  go_wp2
  go_ret
  first|exact⟨rfl,rfl⟩|simp
theorem codLen13 (at_:Int)(lv:Nat)(ea ka:Option Addr)(n ec m kc:Nat)(w:World)(hn:n+m≤1000):
  Calls Tryz.prog 70 #[.agg (pgc at_ lv (.slice ea n ec) (.slice ka m kc)).toArray] w fun e w'=>e=.returned (.int .i64 ((n+m:Nat):Int))∧Below w.heap.size w w':=by
 have kb:=Blk.new w 133 (pgc at_ lv (.slice ea n ec) (.slice ka m kc))
 have hY:Below w.heap.size w (w.alloc (.cells (pgc at_ lv (.slice ea n ec) (.slice ka m kc)).toArray 133)):=(Below.refl _ w).alloc (Nat.le_refl _) _
 unfold pgc at *
 have c2:=kb.cell 2
 have c3:=kb.cell 3
 simp only[gZ0,gZ1] at c2 c3
 have HY:=mkHid hY
 clear kb hY
 go_enter Tryz.func70,Tryz.ntmps70
 go_wp2_with fail
 go_ret
 exact⟨by simp,HY.out⟩
variable {fl:Nat}
theorem codSizeUp (at_:Int)(lv:Nat)(ve vk:Value)(k:Int)(w:World)(hl:0<lv):
  Calls Tryz.prog 199 #[.agg (pgc at_ lv ve vk).toArray,.int .i64 k] w fun e w'=>e=.returned (.int .i64 2)∧Below w.heap.size w w':=by
 have kb:=Blk.new w 133 (pgc at_ lv ve vk)
 have hY:Below w.heap.size w (w.alloc (.cells (pgc at_ lv ve vk).toArray 133)):=(Below.refl _ w).alloc (Nat.le_refl _) _
 unfold pgc at *
 have c1:=kb.cell 1
 simp only[gZ0,gZ1] at c1
 have HY:=mkHid hY
 have hl':(0:Int)<(lv:Int):=by omega
 clear kb hY
 go_enter Tryz.func199,Tryz.ntmps199
 go_wp2_with fail
 go_ret
 exact⟨rfl,HY.out⟩
theorem codSizeLow (at_:Int)(L:List Eq3)(ve vk:Value)(k:Nat)(x:Eq3)(w:World)(hr:RdN fl w ve L)(hx:L[k]?=some x)(hz:szE x.1≤1000):
  Calls Tryz.prog 199 #[.agg (pgc at_ 0 ve vk).toArray,.int .i64 (k:Int)] w fun e w'=>e=.returned (.int .i64 (szE x.1:Int))∧Below w.heap.size w w':=by
 have hY:Below w.heap.size w (w.alloc (.cells (pgc at_ 0 ve vk).toArray 133)):=(Below.refl _ w).alloc (Nat.le_refl _) _
 obtain⟨a,cap,rfl,hc,_⟩:=hr.form
 obtain⟨_,hk,g,off,rfl,d0,d1,_⟩:=(hr.keep (KeepU.of_below hY)).at_ k x hx
 have kb:=Blk.new w 133 (pgc at_ 0 (.slice (some ⟨g,off,none⟩) L.length cap) vk)
 unfold pgc at *
 have c1:=kb.cell 1
 have c2:=kb.cell 2
 simp only[gZ0,gZ1] at c1 c2
 have HY:=mkHid hY
 have hk':(k:Int)<(L.length:Int):=by omega
 have hE:Hid (((szE x.1:Nat):Int)=2+(x.1.k.length:Int)+(x.1.v.length:Int)):=by unfold Hid szE;omega
 unfold szE at hz
 have hz1:x.1.k.length≤1000:=by omega
 have hz2:x.1.v.length≤1000:=by omega
 clear kb hY hz hx hr
 generalize x.1.k.length=n1 at *
 generalize x.1.v.length=n2 at *
 generalize szE x.1=z at *
 generalize x.2.a=qa at *
 generalize x.2.b=qb at *
 generalize x.2.c=qc at *
 generalize x.2.d=qd at *
 generalize L.length=n at *
 simp only[Int.natCast_zero] at *
 go_enter Tryz.func199,Tryz.ntmps199
 go_wp2_with fail
 go_region
 all_goals
  go_wp2
  go_ret
  exact⟨by rw[hE.out];rfl,HY.out.drew⟩
def szK (p:Pg)(k:Nat):Nat:=if p.lv=0 then szL (p.es.take k) else 2 * k
theorem szK_all {p:Pg}(h:PgF p):szK p (p.es.length+p.ks.length)=szP p:=by
 unfold szK szP
 by_cases h0:p.lv=0
 ·rw[if_pos h0,h.k0 h0,List.length_nil,Nat.add_zero,List.take_length];omega
 ·rw[if_neg h0,h.e0 (by omega)];rw[List.length_nil,szL];omega
theorem szK_le {p:Pg}(h:PgF p)(k:Nat)(hk:k≤p.es.length+p.ks.length):szK p k≤1000000:=by
 unfold szK
 split
 ·rename_i h0
  have:∀l:List Et,(∀e∈l,szE e≤1000)→szL l≤1000 * l.length:=by
   intro l
   induction l with
   | nil=>intro _;exact Nat.le_refl _
   | cons e l ih =>
    intro hl
    have h1:=ih (fun x hx=>hl x (List.mem_cons_of_mem _ hx))
    have h2:=hl e List.mem_cons_self
    rw[szL,List.length_cons];omega
  have h1:=this (p.es.take k) (fun e he=>h.sz e (List.mem_of_mem_take he))
  have h2:(p.es.take k).length≤1000:=by have:=h.n;rw[List.length_take];omega
  omega
 ·have:=h.n;omega
theorem codSizeOf (at_:Int)(p:Pg)(ve vk:Value)(L:List Eq3)(k:Nat)(w:World)(h:PgR fl w p ve vk L)(hf:PgF p)(hk:k<p.es.length+p.ks.length):
  Calls Tryz.prog 199 #[.agg (pgc at_ p.lv ve vk).toArray,.int .i64 (k:Int)] w fun e w'=>(∃z:Nat,e=.returned (.int .i64 (z:Int))∧szK p (k+1)=szK p k+z∧z≤1000)∧Below w.heap.size w w':=by
 by_cases h0:p.lv=0
 ·rw[h0]
  have hk2:k<L.length:=by have:=hf.k0 h0;rw[this,List.length_nil] at hk;rw[h.len];exact hk
  obtain⟨x,hx⟩:∃x,L[k]?=some x:=⟨L[k],List.getElem?_eq_getElem hk2⟩
  have hxe:p.es[k]?=some x.1:=by rw[←h.es,List.getElem?_map,hx];rfl
  obtain⟨hk3,hxe2⟩:=List.getElem?_eq_some_iff.1 hxe
  have hz:szE x.1≤1000:=hf.sz _ (by rw[←hxe2];exact List.getElem_mem hk3)
  refine(codSizeLow at_ L ve vk k x w h.e hx hz).mono ?_
  rintro e w' ⟨rfl,hb⟩
  refine⟨⟨_,rfl,?_,hz⟩,hb⟩
  unfold szK
  rw[if_pos h0,if_pos h0,szL_take_succ hk3]
  congr 2
  simp[hk3,hxe2]
 ·refine(codSizeUp at_ p.lv ve vk k w (by omega)).mono ?_
  rintro e w' ⟨rfl,hb⟩
  refine⟨⟨2,rfl,?_,by omega⟩,hb⟩
  unfold szK
  rw[if_neg h0,if_neg h0]
  omega
theorem codSize13 (at_:Int)(p:Pg)(ve vk:Value)(L:List Eq3)(w:World)(h:PgR fl w p ve vk L)(hf:PgF p):
  Calls Tryz.prog 180 #[.agg (pgc at_ p.lv ve vk).toArray] w fun e w'=>e=.returned (.int .i64 (szP p:Int))∧Below w.heap.size w w':=by
 obtain⟨ea,ec,ka,kc,rfl,rfl⟩:=h.forms
 have hY:Below w.heap.size w (w.alloc (.cells (pgc at_ p.lv (.slice ea p.es.length ec) (.slice ka p.ks.length kc)).toArray 133)):=(Below.refl _ w).alloc (Nat.le_refl _) _
 have kb:=Blk.new w 133 (pgc at_ p.lv (.slice ea p.es.length ec) (.slice ka p.ks.length kc))
 have HL:=codLen13 at_ p.lv ea ka p.es.length ec p.ks.length kc (w.alloc (.cells (pgc at_ p.lv (.slice ea p.es.length ec) (.slice ka p.ks.length kc)).toArray 133)) hf.n
 have HZ:Hid (∀W k,Below w.heap.size w W→k<p.es.length+p.ks.length→Calls Tryz.prog 199 #[.agg (pgc at_ p.lv (.slice ea p.es.length ec) (.slice ka p.ks.length kc)).toArray,.int .i64 ((k:Nat):Int)] W fun e w'=>(∃z:Nat,e=.returned (.int .i64 (z:Int))∧szK p (k+1)=szK p k+z∧z≤1000)∧Below W.heap.size W w'):=fun W k hW hk=>codSizeOf at_ p _ _ L k W (h.below hW) hf hk
 have HA:=mkHid (szK_all hf)
 have HK0:Hid (szK p 0=0):=by unfold Hid szK;split<;>simp[szL]
 have HM:Hid (∀k,k≤p.es.length+p.ks.length→szK p k≤1000000):=fun k hk=>szK_le hf k hk
 have hn:=hf.n
 have HY:=mkHid hY
 have HKb:=mkHid kb
 have hl:=hf.lv
 unfold pgc at HL kb HY HKb HZ ⊢
 generalize szP p=Z at *
 generalize szK p=S at *
 generalize p.lv=lv at *
 clear h hf hY
 generalize p.es.length=n at *
 generalize p.ks.length=m at *
 generalize hq:n+m=q at *
 clear hq
 have c0:=kb.cell 0
 have c1:=kb.cell 1
 have c2:=kb.cell 2
 have c3:=kb.cell 3
 simp only[gZ0,gZ1] at c0 c1 c2 c3
 clear kb
 go_enter Tryz.func180,Tryz.ntmps180
 go_wp2_with (go_at_call 70;refine HL.mono ?_;rintro e y1 ⟨rfl,hb1⟩)
 have HB1:=mkHid (HY.out.trans (hb1.mono HY.out.size))
 have HK1:=mkHid (HKb.out.on hb1)
 clear hb1 c0 c1 c2 c3 HL
 go_loopw [3,7] (fun s i wr=>∃(k:Nat),k≤q∧i=.int .i64 (k:Int)∧s=.int .i64 ((S k:Nat):Int)∧Hid (Below w.heap.size w wr)∧Hid (Blk wr w.heap.size 133 [.int .i64 at_,.int .i64 (lv:Int),.slice ea n ec,.slice ka m kc])) (fun _ i _=>q-(Go.RowKit.intOf i).toNat)
 case atStart=>exact⟨0,Nat.zero_le _,rfl,by rw[HK0.out];rfl,HB1,HK1⟩
 case round =>
  obtain⟨k,hk,rfl,rfl,HB,HK⟩:=hrel
  clear HB1 HK1
  have d0:=HK.out.cell 0
  have d1:=HK.out.cell 1
  have d2:=HK.out.cell 2
  have d3:=HK.out.cell 3
  simp only[gZ0,gZ1] at d0 d1 d2 d3
  by_cases hlt:k<q
  ·have hlt':(k:Int)<(q:Int):=by omega
   have HC:=HZ.out wr k HB.out hlt
   have hS:=HM.out k hk
   go_wp2_with (go_at_call 199;refine HC.mono ?_;rintro e y2 ⟨⟨z,rfl,hz,hz2⟩,hb2⟩)
   go_roundw
   case rel=>exact⟨k+1,by omega,by go_num,by rw[hz];go_num,HB.out.trans (hb2.mono HB.out.size),HK.out.on hb2⟩
   case measure=>simp[Go.RowKit.intOf];omega
  ·have hlt':¬(k:Int)<(q:Int):=by omega
   have hkq:k=q:=by omega
   subst hkq
   go_wp2_with fail
   go_ret
   exact⟨by rw[HA.out];rfl,HB.out⟩
theorem codFits (at_:Int)(p:Pg)(ve vk:Value)(L:List Eq3)(w:World)(h:PgR fl w p ve vk L)(hf:PgF p):
  Calls Tryz.prog 145 #[.agg (pgc at_ p.lv ve vk).toArray] w fun e w'=>e=.returned (.bool (decide (szP p≤509)))∧Below w.heap.size w w':=by
 have hY:Below w.heap.size w (w.alloc (.cells (pgc at_ p.lv ve vk).toArray 133)):=(Below.refl _ w).alloc (Nat.le_refl _) _
 have kb:=Blk.new w 133 (pgc at_ p.lv ve vk)
 have HS:=codSize13 at_ p ve vk L _ (h.below hY) hf
 obtain⟨ea,ec,ka,kc,rfl,rfl⟩:=h.forms
 unfold pgc at *
 have c0:=kb.cell 0
 have c1:=kb.cell 1
 have c2:=kb.cell 2
 have c3:=kb.cell 3
 simp only[gZ0,gZ1] at c0 c1 c2 c3
 have HY:=mkHid hY
 clear h hf kb hY
 generalize szP p=Z at *
 generalize p.lv=lv at *
 generalize p.es.length=n at *
 generalize p.ks.length=m at *
 by_cases hz:Z≤509
 ·have hz':(Z:Int)≤509:=by omega
  rw[decide_eq_true hz]
  go_enter Tryz.func145,Tryz.ntmps145
  go_wp2_with (go_at_call 180;refine HS.mono ?_;rintro e y1 ⟨rfl,hb1⟩)
  go_ret
  exact⟨by first|(simp;done)|(simp[hz'];done),HY.out.trans (hb1.mono HY.out.size)⟩
 ·have hz':¬(Z:Int)≤509:=by omega
  rw[decide_eq_false hz]
  go_enter Tryz.func145,Tryz.ntmps145
  go_wp2_with (go_at_call 180;refine HS.mono ?_;rintro e y1 ⟨rfl,hb1⟩)
  go_ret
  exact⟨by first|(simp;done)|(simp[hz'];done),HY.out.trans (hb1.mono HY.out.size)⟩
theorem codSlim (at_:Int)(p:Pg)(ve vk:Value)(L:List Eq3)(w:World)(h:PgR fl w p ve vk L)(hf:PgF p):
  Calls Tryz.prog 150 #[.agg (pgc at_ p.lv ve vk).toArray] w fun e w'=>e=.returned (.bool (decide (szP p<254)))∧Below w.heap.size w w':=by
 have hY:Below w.heap.size w (w.alloc (.cells (pgc at_ p.lv ve vk).toArray 133)):=(Below.refl _ w).alloc (Nat.le_refl _) _
 have kb:=Blk.new w 133 (pgc at_ p.lv ve vk)
 have HS:=codSize13 at_ p ve vk L _ (h.below hY) hf
 obtain⟨ea,ec,ka,kc,rfl,rfl⟩:=h.forms
 unfold pgc at *
 have c0:=kb.cell 0
 have c1:=kb.cell 1
 have c2:=kb.cell 2
 have c3:=kb.cell 3
 simp only[gZ0,gZ1] at c0 c1 c2 c3
 have HY:=mkHid hY
 clear h hf kb hY
 generalize szP p=Z at *
 generalize p.lv=lv at *
 generalize p.es.length=n at *
 generalize p.ks.length=m at *
 by_cases hz:Z<254
 ·have hz':(Z:Int)<254:=by omega
  rw[decide_eq_true hz]
  go_enter Tryz.func150,Tryz.ntmps150
  go_wp2_with (go_at_call 180;refine HS.mono ?_;rintro e y1 ⟨rfl,hb1⟩)
  go_ret
  exact⟨by first|(simp;done)|(simp[hz'];done),HY.out.trans (hb1.mono HY.out.size)⟩
 ·have hz':¬(Z:Int)<254:=by omega
  rw[decide_eq_false hz]
  go_enter Tryz.func150,Tryz.ntmps150
  go_wp2_with (go_at_call 180;refine HS.mono ?_;rintro e y1 ⟨rfl,hb1⟩)
  go_ret
  exact⟨by first|(simp;done)|(simp[hz'];done),HY.out.trans (hb1.mono HY.out.size)⟩
end
section
open Go.RowKit
theorem bytesOf_map (l:List UInt8):Lib.bytesOf (l.map fun b=>((b.toNat:Nat):Int))=l:=by
 unfold Lib.bytesOf
 rw[List.map_map]
 conv=>rhs;rw[←List.map_id l]
 refine List.map_congr_left (fun b _=>?_)
 simp
theorem load_isB {w:World}{a:Option Addr}{n c:Nat}{l:List UInt8}(h:IsB w a n c l):(Extern.Bytes.bytesOf (.slice a n c)).run Tryz.prog w=.ok ⟨l.toArray⟩ w:=by
 cases a with
 | none =>
  have h0:=h.nil rfl
  have h1:=h.le
  have h2:=h.len_eq
  have:l=[]:=List.eq_nil_of_length_eq_zero (by omega)
  subst this
  rfl
 | some ad =>
  by_cases hp:0<n
  ·obtain⟨b,off,e,hc⟩:=h.cells hp
   have e2:=Option.some.inj e
   subst e2
   have hl:=Lib.run_loadBytesX (P:=Tryz.prog) w (l.map fun b=>((b.toNat:Nat):Int)) ⟨b,off,none⟩ .empty (fun j x hj=>by
    rw[List.getElem?_map] at hj
    obtain⟨y,hy,rfl⟩:=Option.map_eq_some_iff.1 hj
    have hjl:j<l.length:=(List.getElem?_eq_some_iff.1 hy).1
    rw[Addr.add_lit,hc j (by rw[←h.len_eq];exact hjl)]
    unfold nth
    rw[List.getD_eq_getElem?_getD,hy]
    rfl)
   rw[List.length_map,h.len_eq,bytesOf_map] at hl
   refine hl.trans ?_
   congr 1
   apply ByteArray.ext
   show (#[]:Array UInt8)++l.toArray=l.toArray
   simp
  ·have h2:=h.len_eq
   have h3:n=0:=by omega
   have:l=[]:=List.eq_nil_of_length_eq_zero (by omega)
   subst this h3
   rfl
theorem run_cmpB (w:World){a1 a2:Option Addr}{n1 c1 n2 c2:Nat}{l m:List UInt8}(h1:IsB w a1 n1 c1 l)(h2:IsB w a2 n2 c2 m):
  (callFunc 156 #[.slice a1 n1 c1,.slice a2 n2 c2]).run Tryz.prog w=.ok (.value (.int .i64 (Lib.compareBytes l m))) w:=by
 rw[run_callFunc_extern (P:=Tryz.prog) (e:=Extern.BytealgCompare.compare) Tryz.func156 (by kernel_rfl) (by kernel_rfl) (by kernel_rfl) (by kernel_rfl)]
 have hs:(Extern.BytealgCompare.compare #[.slice a1 n1 c1,.slice a2 n2 c2]).run Tryz.prog w=.ok (.int .i64 (Lib.compareBytes l m)) w:=by
  change Sem.run Tryz.prog (do pure (goInt (Extern.BytealgCompare.cmp (←Extern.Bytes.bytesOf (.slice a1 n1 c1)) (←Extern.Bytes.bytesOf (.slice a2 n2 c2))))) w=_
  simp only[Sem.run_bind,Sem.run_pure,load_isB h1,load_isB h2,Result.andThen]
  rw[Lib.cmp_eq]
  rfl
 rw[hs]
 rfl
theorem codCompare (a1 a2:Option Addr)(n1 n2 c1 c2:Nat)(l m:List UInt8)(w:World)(h1:IsB w a1 n1 c1 l)(h2:IsB w a2 n2 c2 m):
  Calls Tryz.prog 111 #[.slice a1 n1 c1,.slice a2 n2 c2] w fun e w'=>e=.returned (.int .i64 (Lib.compareBytes l m))∧w'=w:=by
 have hr:=run_cmpB w h1 h2
 clear h1 h2
 generalize Lib.compareBytes l m=z at *
 go_enter Tryz.func111,Tryz.ntmps111
 go_wp2
 go_ret
 exact⟨rfl,rfl⟩
theorem cb_lt (x y:List UInt8):Lib.compareBytes x y<0↔Op.bytesLess x y=true:=by
 induction x generalizing y with
 | nil=>cases y<;>simp[Lib.compareBytes,Op.bytesLess]
 | cons a x ih =>
  cases y with
  | nil=>simp[Lib.compareBytes,Op.bytesLess]
  | cons b y =>
   rw[Lib.compareBytes,lt_cons,Bool.or_eq_true,decide_eq_true_eq,Bool.and_eq_true,beq_iff_eq]
   by_cases h:a<b
   ·simp[h]
   ·rw[if_neg h]
    by_cases h2:b<a
    ·rw[if_pos h2]
     have h3:¬a=b:=fun e=>by subst e;exact h h2
     simp[h,h3]
    ·rw[if_neg h2,ih]
     have e:a=b:=by
      have h3:¬a.toNat<b.toNat:=fun h'=>h (UInt8.lt_iff_toNat_lt.2 h')
      have h4:¬b.toNat<a.toNat:=fun h'=>h2 (UInt8.lt_iff_toNat_lt.2 h')
      exact UInt8.toNat_inj.1 (by omega)
     subst e
     simp[h]
theorem cb_swap (x y:List UInt8):0<Lib.compareBytes x y↔Lib.compareBytes y x<0:=by
 induction x generalizing y with
 | nil=>cases y<;>simp[Lib.compareBytes]
 | cons a x ih =>
  cases y with
  | nil=>simp[Lib.compareBytes]
  | cons b y =>
   rw[Lib.compareBytes,Lib.compareBytes]
   by_cases h:a<b
   ·have h2:¬b<a:=fun h'=>UInt8.lt_irrefl _ (UInt8.lt_trans h h')
    simp[h,h2]
   ·by_cases h2:b<a
    ·simp[h,h2]
    ·simp[h,h2,ih]
theorem cb_gt (x y:List UInt8):0<Lib.compareBytes x y↔Op.bytesLess y x=true:=(cb_swap x y).trans (cb_lt y x)
theorem cb_eq (x y:List UInt8):Lib.compareBytes x y=0↔x=y:=by
 constructor
 ·intro h
  rcases lt_tot x y with h1|h1|h1
  ·have:=(cb_lt x y).2 h1;omega
  ·exact h1
  ·have:=(cb_gt x y).2 h1;omega
 ·rintro rfl
  have h1:¬Lib.compareBytes x x<0:=fun h=>by have:=(cb_lt x x).1 h;rw[lt_irr] at this;cases this
  have h2:¬0<Lib.compareBytes x x:=fun h=>by have:=(cb_gt x x).1 h;rw[lt_irr] at this;cases this
  omega
variable {fl:Nat}
theorem codFind1 (x:Eq3)(b:Option Addr)(m d:Nat)(key:List UInt8)(w:World)(hx:EtQ fl w x.1 x.2)(hb:IsB w b m d key):
  Calls Tryz.prog 114 #[.agg #[.slice x.2.a x.1.k.length x.2.c,.slice x.2.b x.1.v.length x.2.d],.slice b m d] w fun e w'=>e=.returned (.int .i64 (Lib.compareBytes x.1.k key))∧Below w.heap.size w w':=by
 have hY:Below w.heap.size w (w.alloc (.cells #[.slice x.2.a x.1.k.length x.2.c,.slice x.2.b x.1.v.length x.2.d] 64)):=(Below.refl _ w).alloc (Nat.le_refl _) _
 have kb:=Blk.new w 64 [.slice x.2.a x.1.k.length x.2.c,.slice x.2.b x.1.v.length x.2.d]
 have c0:=kb.cell 0
 simp only[List.getElem?_cons_zero] at c0
 have HC:=codCompare x.2.a b x.1.k.length m x.2.c d x.1.k key _ (hx.is.below hY).k (hb.below hY rfl)
 have HY:=mkHid hY
 clear kb hY hx hb
 generalize Lib.compareBytes x.1.k key=z at *
 generalize x.1.k.length=n1 at *
 generalize x.1.v.length=n2 at *
 generalize x.2.a=qa at *
 generalize x.2.b=qb at *
 generalize x.2.c=qc at *
 generalize x.2.d=qd at *
 go_enter Tryz.func114,Tryz.ntmps114
 go_wp2_with (go_at_call 111;refine HC.mono ?_;rintro e y1 ⟨rfl,hw1⟩;rw[hw1];clear hw1)
 go_ret
 exact⟨rfl,HY.out⟩
theorem getD_map (L:List Eq3)(k:Nat)(x:Eq3)(h:L[k]?=some x):(L.map Prod.fst).getD k et0=x.1:=by rw[List.getD_eq_getElem?_getD,List.getElem?_map,h];rfl
theorem srt_at {l:List Et}(h:SrtE l){i k:Nat}(hi:i<k)(hk:k<l.length):Op.bytesLess (l.getD i et0).k (l.getD k et0).k=true:=by
 have h1:=List.pairwise_iff_getElem.1 h i k (by omega) hk hi
 rw[List.getD_eq_getElem?_getD,List.getD_eq_getElem?_getD,List.getElem?_eq_getElem hk,List.getElem?_eq_getElem (by omega)]
 exact h1
theorem codBsf (ve:Value)(L:List Eq3)(b:Option Addr)(m d:Nat)(key:List UInt8)(w:World)(hr:RdN fl w ve L)(hs:SrtE (L.map Prod.fst))(hb:IsB w b m d key)(hn:L.length≤1000):
  Calls Tryz.prog 113 #[ve,.slice b m d,.func (.func 114) #[] #[]] w fun e w'=>e=.returned (.tuple #[.int .i64 (atE (L.map Prod.fst) key:Int),.bool (hasE13 (L.map Prod.fst) key)])∧Below w.heap.size w w':=by
 obtain⟨a,cap,rfl,hc,_⟩:=hr.form
 have HR:Hid (∀W,Below w.heap.size w W→∀k,k<L.length→∃x g off,L[k]?=some x∧a=some ⟨g,off,none⟩∧W.cell? ⟨g,off+k * 2,none⟩=some (.slice x.2.a x.1.k.length x.2.c)∧W.cell? ⟨g,off+k * 2+1,none⟩=some (.slice x.2.b x.1.v.length x.2.d)∧Calls Tryz.prog 114 #[.agg #[.slice x.2.a x.1.k.length x.2.c,.slice x.2.b x.1.v.length x.2.d],.slice b m d] W fun e w'=>e=.returned (.int .i64 (Lib.compareBytes ((L.map Prod.fst).getD k et0).k key))∧Below W.heap.size W w'):=fun W hW k hk=>by
  have hx:L[k]?=some L[k]:=List.getElem?_eq_getElem hk
  obtain⟨_,_,g,off,e1,d0,d1,_⟩:=(hr.keep (KeepU.of_below hW)).at_ k _ hx
  refine⟨L[k],g,off,hx,e1,d0,d1,?_⟩
  rw[getD_map L k _ hx]
  exact codFind1 _ b m d key W (((hr.keep (KeepU.of_below hW)).is) _ (List.getElem_mem hk)) (hb.below hW rfl)
 have HU:Hid (∀k,k≤L.length→(∀t,t<k→Lib.compareBytes ((L.map Prod.fst).getD t et0).k key<0)→(∀t,k≤t→t<L.length→0≤Lib.compareBytes ((L.map Prod.fst).getD t et0).k key)→k=atE (L.map Prod.fst) key):=fun k hk h1 h2=>atE_uniq (by rw[List.length_map];exact hk) (fun i hi=>(cb_lt _ _).1 (h1 i hi)) (fun hi=>by
  rw[List.length_map] at hi
  have:=h2 k (Nat.le_refl _) hi
  exact Bool.eq_false_iff.2 (fun h=>by have:=(cb_lt _ _).2 h;omega))
 have HH:Hid (∀k,k=atE (L.map Prod.fst) key→hasE13 (L.map Prod.fst) key=(decide (k<L.length)&&decide (Lib.compareBytes ((L.map Prod.fst).getD k et0).k key=0))):=fun k hk=>by
  unfold hasE13 isE
  rw[←hk,List.length_map]
  congr 1
  rw[Bool.eq_iff_iff,decide_eq_true_eq,cb_eq,beq_iff_eq]
 have HM1:Hid (∀i k,i<k→k<L.length→Lib.compareBytes ((L.map Prod.fst).getD k et0).k key<0→Lib.compareBytes ((L.map Prod.fst).getD i et0).k key<0):=fun i k h1 h2 h3=>by
  rw[cb_lt] at h3 ⊢
  exact lt_tr _ _ _ (srt_at hs h1 (by rw[List.length_map];exact h2)) h3
 generalize L.length=n at *
 generalize atE (L.map Prod.fst) key=A at *
 generalize hasE13 (L.map Prod.fst) key=Hh at *
 generalize hcf:(fun k=>Lib.compareBytes ((L.map Prod.fst).getD k et0).k key)=cf
 have hcf':∀k,Lib.compareBytes ((L.map Prod.fst).getD k et0).k key=cf k:=fun k=>by rw[←hcf]
 simp only[hcf'] at HR HU HH HM1
 clear hr hs hb hcf hcf'
 go_enter Tryz.func113,Tryz.ntmps113
 go_wp2
 go_loopg [9,10] n (fun kx s9 s10 wr=>∃lo hi:Nat,s9=.int .i64 (lo:Int)∧s10=.int .i64 (hi:Int)∧lo≤hi∧hi≤n∧hi-lo≤kx∧Hid (Below w.heap.size w wr)∧Hid (∀t,t<lo→cf t<0)∧Hid (∀t,hi≤t→t<n→0≤cf t))
 case atStart=>exact⟨0,n,rfl,rfl,Nat.zero_le _,Nat.le_refl _,by omega,Below.refl _ _,fun t ht=>absurd ht (Nat.not_lt_zero _),fun t h1 h2=>absurd h2 (by omega)⟩
 case round =>
  obtain⟨lo,hi,rfl,rfl,hlh,hin,hg,HB,HI,HJ⟩:=hrel
  by_cases hlt:lo<hi
  ·obtain⟨x,g,off,hx,hae,d0,d1,HC⟩:=HR.out wr HB.out ((lo+hi)/2) (by omega)
   subst hae
   clear hx
   generalize x.1.k.length=n1 at *
   generalize x.1.v.length=n2 at *
   generalize x.2.a=qa at *
   generalize x.2.b=qb at *
   generalize x.2.c=qc at *
   generalize x.2.d=qd at *
   generalize hcz:cf ((lo+hi)/2)=z at *
   have HCz:=mkHid hcz
   clear hcz
   by_cases hz:z<0
   ·go_wp2_with (go_at_call 114;refine HC.mono ?_;rintro e w' ⟨rfl,hb1⟩)
    go_roundg (hi-((lo+hi)/2+1))
    case measure=>omega
    case rel =>
     refine⟨(lo+hi)/2+1,hi,by rw[show ((lo:Int)+(hi:Int))/2+1=(((lo+hi)/2+1:Nat):Int) by omega],rfl,by omega,hin,Nat.le_refl _,HB.out.trans (hb1.mono HB.out.size),fun t ht=>?_,HJ⟩
     by_cases e:t=(lo+hi)/2
     ·rw[e,HCz.out];exact hz
     ·exact HM1.out t ((lo+hi)/2) (by omega) (by omega) (by rw[HCz.out];exact hz)
   ·go_wp2_with (go_at_call 114;refine HC.mono ?_;rintro e w' ⟨rfl,hb1⟩)
    go_roundg ((lo+hi)/2-lo)
    case measure=>omega
    case rel =>
     refine⟨lo,(lo+hi)/2,rfl,by rw[show ((lo:Int)+(hi:Int))/2=(((lo+hi)/2:Nat):Int) by omega],by omega,by omega,Nat.le_refl _,HB.out.trans (hb1.mono HB.out.size),HI,fun t h1 h2=>Int.not_lt.1 (fun h3=>?_)⟩
     by_cases e:t=(lo+hi)/2
     ·rw[e,HCz.out] at h3;omega
     ·have:=HM1.out ((lo+hi)/2) t (by omega) h2 h3
      rw[HCz.out] at this
      omega
  ·obtain rfl:hi=lo:=by omega
   have hA:=HU.out hi hin HI.out HJ.out
   have hH:=HH.out hi hA
   subst hA
   by_cases hn2:hi<n
   ·obtain⟨x,g,off,hx,hae,d0,d1,HC⟩:=HR.out wr HB.out hi hn2
    subst hae
    clear hx
    generalize x.1.k.length=n1 at *
    generalize x.1.v.length=n2 at *
    generalize x.2.a=qa at *
    generalize x.2.b=qb at *
    generalize x.2.c=qc at *
    generalize x.2.d=qd at *
    generalize hcz:cf hi=z at *
    have HHz:=mkHid hH
    clear hcz hH
    by_cases hz:z=0
    ·go_wp2_with (go_at_call 114;refine HC.mono ?_;rintro e w' ⟨rfl,hb1⟩)
     go_ret2
     exact⟨by rw[HHz.out];simp[hn2,hz],HB.out.trans (hb1.mono HB.out.size)⟩
    ·go_wp2_with (go_at_call 114;refine HC.mono ?_;rintro e w' ⟨rfl,hb1⟩)
     go_ret2
     exact⟨by rw[HHz.out];simp[hn2,hz],HB.out.trans (hb1.mono HB.out.size)⟩
   ·have HHz:=mkHid hH
    clear hH
    go_wp2
    go_ret2
    exact⟨by rw[HHz.out];simp[hn2],HB.out⟩
theorem codFind13 (at_:Int)(lv:Nat)(ve vk:Value)(L:List Eq3)(b:Option Addr)(m d:Nat)(key:List UInt8)(w:World)(hr:RdN fl w ve L)(hs:SrtE (L.map Prod.fst))(hb:IsB w b m d key)(hn:L.length≤1000):
  Calls Tryz.prog 74 #[.agg (pgc at_ lv ve vk).toArray,.slice b m d] w fun e w'=>e=.returned (.tuple #[.int .i64 (atE (L.map Prod.fst) key:Int),.bool (hasE13 (L.map Prod.fst) key)])∧Below w.heap.size w w':=by
 have hY:Below w.heap.size w (w.alloc (.cells (pgc at_ lv ve vk).toArray 133)):=(Below.refl _ w).alloc (Nat.le_refl _) _
 have kb:=Blk.new w 133 (pgc at_ lv ve vk)
 have HS:=codBsf ve L b m d key _ (hr.keep (KeepU.of_below hY)) hs (hb.below hY rfl) hn
 unfold pgc at *
 have c2:=kb.cell 2
 simp only[gZ0,gZ1] at c2
 have HY:=mkHid hY
 clear hr hs hb kb hY
 generalize atE (L.map Prod.fst) key=A at *
 generalize hasE13 (L.map Prod.fst) key=Hh at *
 go_enter Tryz.func74,Tryz.ntmps74
 go_wp2_with (go_at_call 113;refine HS.mono ?_;rintro e y1 ⟨rfl,hb1⟩)
 go_ret2
 exact⟨rfl,HY.out.trans (hb1.mono HY.out.size)⟩
end
section
open Go.RowKit
theorem zeros_app (a b:List UInt8):zerosL (a++b)=(zerosL a&&zerosL b):=by unfold zerosL;exact List.all_append
theorem drop_nth (l:List UInt8)(k:Nat)(hk:k<l.length):l.drop k=nth l k::l.drop (k+1):=by
 rw[List.drop_eq_getElem_cons hk];unfold nth;simp[hk]
theorem zeros_cons (b:UInt8)(l:List UInt8):zerosL (b::l)=(b==0&&zerosL l):=rfl
theorem codTrimR (a:Option Addr)(n c:Nat)(l:List UInt8)(w:World)(h:IsB w a n c l)(hn:n≤1000000):
  Calls Tryz.prog 172 #[.slice a n c,.int .u8 0] w fun e w'=>(∃k,e=.returned (.slice a k c)∧IsB w a k c (l.take k)∧k≤n∧zerosL l=zerosL (l.take k)∧(zerosL (l.take k)=true→k=0))∧w'=w:=by
 have hl:=h.len_eq
 have HI:Hid (∀k,k≤n→IsB w a k c (l.take k)):=fun k hk=>by
  by_cases h0:0<n
  ·obtain⟨b,off,e,_⟩:=h.cells h0
   subst e
   exact h.head k hk
  ·have:k=n:=by omega
   subst this
   rw[←hl,List.take_length,hl]
   exact h
 have HC:Hid (0<n→∃b off,a=some ⟨b,off,none⟩∧∀i,i<n→w.cell? ⟨b,off+i,none⟩=some (.int .u8 ((nth l i).toNat:Int))):=h.cells
 have hc:=h.le
 have hmx:=h.max
 unfold maxLen at hmx
 have HSn:Hid (∀k,k<n→zerosL (l.drop k)=(nth l k==0&&zerosL (l.drop (k+1)))):=fun k hk=>by rw[drop_nth l k (by omega),zeros_cons]
 have HSt:Hid (∀k,k<n→zerosL (l.take (k+1))=(zerosL (l.take k)&&nth l k==0)):=fun k hk=>by
  rw[List.take_succ_eq_append_getElem (by omega:k<l.length),zeros_app]
  congr 1
  unfold nth zerosL
  simp[show k<l.length by omega]
 have HSa:Hid (∀k,k≤n→zerosL (l.drop k)=true→zerosL l=zerosL (l.take k)):=fun k _ h1=>by
  conv=>lhs;rw[←List.take_append_drop k l]
  rw[zeros_app,h1,Bool.and_true]
 have HS0:Hid (zerosL (l.drop n)=true):=by unfold Hid;rw[List.drop_of_length_le (by omega)];rfl
 generalize (fun i=>nth l i)=f at *
 clear h
 go_enter Tryz.func172,Tryz.ntmps172
 go_wp2
 go_loopg [0] n (fun kx s0 wr=>∃k:Nat,s0=.slice a k c∧k≤n∧k≤kx∧wr=w∧Hid (zerosL (l.drop k)=true))
 case atStart=>exact⟨n,rfl,Nat.le_refl _,Nat.le_refl _,rfl,HS0⟩
 case round =>
  obtain⟨k,rfl,hk,hkx,rfl,HZ⟩:=hrel
  by_cases h0:0<k
  ·obtain⟨q,rfl⟩:∃q,k=q+1:=⟨k-1,by omega⟩
   obtain⟨b,off,e,hcs⟩:=HC.out (by omega)
   subst e
   have c0:=hcs q (by omega)
   have hq1:((q+1:Nat):Int)-1=(q:Int):=by omega
   have hsl:=fun W=>slH .i64 b off (q+1) c q (by omega) W
   have HDq:=HSn.out q (by omega)
   have HTq:=HSt.out q (by omega)
   clear hcs
   by_cases hz:nth l q=0
   ·have hz':((nth l q).toNat:Int)=0:=by rw[hz];rfl
    rw[hz'] at c0
    go_wp2_with fail
    go_roundg q
    case measure=>omega
    case rel=>exact⟨q,rfl,by omega,Nat.le_refl _,rfl,by unfold Hid;rw[HDq,hz,HZ.out];rfl⟩
   ·have hz':¬((nth l q).toNat:Int)=0:=fun e=>hz (UInt8.toNat_inj.1 (by simpa using e))
    go_wp2_with fail
    go_ret
    refine⟨⟨q+1,rfl,HI.out _ hk,hk,HSa.out _ hk HZ.out,fun h1=>?_⟩,rfl⟩
    rw[HTq,Bool.and_eq_true,beq_iff_eq] at h1
    exact absurd h1.2 hz
  ·have hk0:k=0:=by omega
   subst hk0
   go_wp2_with fail
   go_ret
   exact⟨⟨0,rfl,HI.out _ hk,hk,HSa.out _ hk HZ.out,fun _=>rfl⟩,rfl⟩
theorem codTrimL (a:Option Addr)(n c:Nat)(l:List UInt8)(w:World)(h:IsB w a n c l)(hn:n≤1000000):
  Calls Tryz.prog 171 #[.slice a n c,.int .u8 0] w fun e w'=>(∃a' n' c',e=.returned (.slice a' n' c')∧n'≤n∧(n'=0↔zerosL l=true))∧w'=w:=by
 have hl:=h.len_eq
 have HSa:Hid (∀k,zerosL (l.take k)=true→zerosL l=zerosL (l.drop k)):=fun k h1=>by
  conv=>lhs;rw[←List.take_append_drop k l]
  rw[zeros_app,h1,Bool.true_and]
 have HSn:Hid (∀k,k<n→zerosL (l.drop k)=(nth l k==0&&zerosL (l.drop (k+1)))):=fun k hk=>by rw[drop_nth l k (by omega),zeros_cons]
 have HSt:Hid (∀k,k<n→zerosL (l.take (k+1))=(zerosL (l.take k)&&nth l k==0)):=fun k hk=>by
  rw[List.take_succ_eq_append_getElem (by omega:k<l.length),zeros_app]
  congr 1
  unfold nth zerosL
  simp[show k<l.length by omega]
 have HSz:Hid (zerosL (l.drop n)=true):=by unfold Hid;rw[List.drop_of_length_le (by omega)];rfl
 have HN:Hid (∀k,nth (l.drop k) 0=nth l k):=fun k=>by unfold nth;rw[List.getD_eq_getElem?_getD,List.getElem?_drop,Nat.add_zero,←List.getD_eq_getElem?_getD]
 have HIb:Hid (IsB w a n c (l.drop 0)):=by unfold Hid;rw[List.drop_zero];exact h
 have hmx:=h.max
 unfold maxLen at hmx
 clear h
 go_enter Tryz.func171,Tryz.ntmps171
 go_wp2
 go_loopg [0] n (fun kx s0 wr=>∃(k:Nat) (a':Option Addr),s0=.slice a' (n-k) (c-k)∧k≤n∧n-k≤kx∧wr=w∧Hid (IsB w a' (n-k) (c-k) (l.drop k))∧Hid (zerosL (l.take k)=true))
 case atStart=>exact⟨0,a,by rw[Nat.sub_zero,Nat.sub_zero],Nat.zero_le _,by omega,rfl,by rw[Nat.sub_zero,Nat.sub_zero];exact HIb,rfl⟩
 case round =>
  obtain⟨k,a',rfl,hk,hkx,rfl,HI,HZ⟩:=hrel
  clear HIb
  by_cases h0:0<n-k
  ·obtain⟨b,off,e,hcs⟩:=HI.out.cells h0
   subst e
   have c0:=hcs 0 h0
   rw[Nat.add_zero,HN.out k] at c0
   have h0':(0:Int)<((n-k:Nat):Int):=by omega
   have hle:=HI.out.le
   have hsl:=fun W=>slB b off (n-k) (c-k) 1 (by omega) W
   have HDq:=HSn.out k (by omega)
   have HTq:=HSt.out k (by omega)
   have HCt:Hid (IsB wr (cutA b off (c-k) 1) (n-(k+1)) (c-(k+1)) (l.drop (k+1))):=by
    have:=HI.out.cut 1 (by omega)
    rw[List.drop_drop,Nat.sub_sub,Nat.sub_sub] at this
    exact this
   clear hcs
   by_cases hz:nth l k=0
   ·have hz':((nth l k).toNat:Int)=0:=by rw[hz];rfl
    rw[hz'] at c0
    simp only[Int.natCast_one] at hsl
    have HT2:Hid (zerosL (l.take (k+1))=true):=by unfold Hid;rw[HTq,HZ.out,hz];rfl
    rw[show n-k-1=n-(k+1) by omega,show c-k-1=c-(k+1) by omega] at hsl
    generalize cutA b off (c-k) 1=ct at *
    clear HDq HTq hz
    go_wp2_with fail
    go_roundg (n-(k+1))
    case measure=>omega
    case rel=>exact⟨k+1,ct,rfl,by omega,Nat.le_refl _,rfl,HCt,HT2⟩
   ·have hz':¬((nth l k).toNat:Int)=0:=fun e=>hz (UInt8.toNat_inj.1 (by simpa using e))
    have h1:¬((n-k:Nat):Int)=0:=by omega
    have HR:Hid (n-k=0↔zerosL l=true):=by
     unfold Hid
     rw[HSa.out k HZ.out,HDq]
     constructor
     ·intro h;omega
     ·intro h
      rw[Bool.and_eq_true,beq_iff_eq] at h
      exact absurd h.1 hz
    clear hsl HDq HTq HCt
    generalize hnk:n-k=r at *
    go_wp2_with fail
    go_ret
    exact⟨⟨_,r,_,rfl,by omega,HR.out⟩,rfl⟩
  ·have hk0:n-k=0:=by omega
   have hkn:k=n:=by omega
   have HR:Hid (zerosL l=true):=by unfold Hid;rw[HSa.out k HZ.out,hkn];exact HSz.out
   rw[hk0] at HI ⊢
   go_wp2_with fail
   go_ret
   exact⟨⟨none,0,0,rfl,Nat.zero_le _,⟨fun _=>HR.out,fun _=>rfl⟩⟩,rfl⟩
theorem zeros_nil:zerosL []=true:=rfl
theorem codTrim (a:Option Addr)(n c:Nat)(l:List UInt8)(w:World)(h:IsB w a n c l)(hn:n≤1000000):
  Calls Tryz.prog 143 #[.slice a n c,.string ⟨#[0]⟩] w fun e w'=>(∃a' n' c',e=.returned (.slice a' n' c')∧n'≤n∧(n'=0↔zerosL l=true))∧Below w.heap.size w w':=by
 by_cases h0:n=0
 ·have:l=[]:=List.eq_nil_of_length_eq_zero (by rw[h.len_eq];exact h0)
  subst this h0
  clear h
  go_enter Tryz.func143,Tryz.ntmps143
  go_wp2_with fail
  go_ret
  exact⟨⟨none,0,0,rfl,Nat.le_refl _,⟨fun _=>zeros_nil,fun _=>rfl⟩⟩,Below.refl _ _⟩
 ·have h0':¬(n:Int)=0:=by omega
  have HR:∀W,Below w.heap.size w W→Calls Tryz.prog 172 #[.slice a n c,.int .u8 0] W fun e w'=>(∃k,e=.returned (.slice a k c)∧IsB W a k c (l.take k)∧k≤n∧zerosL l=zerosL (l.take k)∧(zerosL (l.take k)=true→k=0))∧w'=W:=fun W hW=>codTrimR a n c l W (h.below hW rfl) hn
  have HB0:∀W,Below w.heap.size w W→Below w.heap.size w W:=fun W hW=>hW
  have HL:=fun W k (hI:IsB W a k c (l.take k)) (hk:k≤n)=>codTrimL a k c (l.take k) W hI (by omega)
  clear h
  generalize zerosL l=Z at *
  go_enter Tryz.func143,Tryz.ntmps143
  go_wp2_with fail
  go_region_held3 (fun w'=>Below w.heap.size w w')
   (first|exact(Below.refl _ w).drew|assumption)
   (first
    | (go_at_call 172;have hq0:=‹Below _ _ _›;refine(HR _ hq0).mono ?_;rintro e w8 ⟨⟨k8,rfl,hi8,hk8,hz8,hy8⟩,hw8⟩;rw[hw8] at *;clear hw8)
    | (go_at_call 171;refine(HL _ _ hi8 hk8).mono ?_;rintro e w9 ⟨⟨a9,n9,c9,rfl,hn9,hz9⟩,hw9⟩;rw[hw9] at *;clear hw9))
  all_goals
   have hq9:=‹Below _ _ _›
   go_wp2
   go_ret
   exact⟨⟨a9,n9,c9,rfl,by omega,by rw[hz8];exact hz9⟩,hq9⟩
variable {fl:Nat}
theorem ris_iff (l:List Et):risE l=true↔∀i,i+1<l.length→Op.bytesLess (l.getD i et0).k (l.getD (i+1) et0).k=true:=by
 induction l with
 | nil=>exact⟨fun _ i h=>absurd h (by simp),fun _=>rfl⟩
 | cons a l ih =>
  cases l with
  | nil=>exact⟨fun _ i h=>absurd h (by simp),fun _=>rfl⟩
  | cons b l =>
   rw[risE,Bool.and_eq_true,ih]
   constructor
   ·rintro⟨h1,h2⟩ i hi
    cases i with
    | zero=>exact h1
    | succ i=>exact h2 i (by simpa using hi)
   ·intro h
    exact⟨h 0 (by simp),fun i hi=>h (i+1) (by simpa using hi)⟩
def okAt (l:List Et)(i:Nat):Prop:=itemOk (l.getD i et0).k (l.getD i et0).v=true∧(0<i→Op.bytesLess (l.getD (i-1) et0).k (l.getD i et0).k=true)
theorem right_iff (l:List Et):rightE l=true↔(∀i,i<l.length→okAt l i)∧0<l.length:=by
 unfold rightE
 rw[Bool.and_eq_true,Bool.and_eq_true,decide_eq_true_eq,ris_iff,List.all_eq_true]
 constructor
 ·rintro⟨⟨h1,h2⟩,h3⟩
  refine⟨fun i hi=>⟨?_,fun h0=>?_⟩,h3⟩
  ·have:l.getD i et0=l[i]:=by simp[hi]
   rw[this]
   exact h1 _ (List.getElem_mem hi)
  ·have:=h2 (i-1) (by omega)
   rw[show i-1+1=i by omega] at this
   exact this
 ·rintro⟨h1,h2⟩
  refine⟨⟨fun e he=>?_,fun i hi=>?_⟩,h2⟩
  ·obtain⟨i,hi,rfl⟩:=List.getElem_of_mem he
   have:l.getD i et0=l[i]:=by simp[hi]
   have h3:=(h1 i hi).1
   rw[this] at h3
   exact h3
  ·exact(h1 (i+1) hi).2 (by omega)
theorem codRightUp (at_:Int)(lv:Nat)(ve:Value)(ka:Option Addr)(m kc:Nat)(w:World)(hl:0<lv):
  Calls Tryz.prog 142 #[.agg (pgc at_ lv ve (.slice ka m kc)).toArray] w fun e w'=>e=.returned (.bool (decide (1<m)))∧Below w.heap.size w w':=by
 have kb:=Blk.new w 133 (pgc at_ lv ve (.slice ka m kc))
 have hY:Below w.heap.size w (w.alloc (.cells (pgc at_ lv ve (.slice ka m kc)).toArray 133)):=(Below.refl _ w).alloc (Nat.le_refl _) _
 unfold pgc at *
 have c1:=kb.cell 1
 have c3:=kb.cell 3
 simp only[gZ0,gZ1] at c1 c3
 have HY:=mkHid hY
 have hl':(0:Int)<(lv:Int):=by omega
 clear kb hY
 by_cases hm:1<m
 ·have hm':(1:Int)<(m:Int):=by omega
  rw[decide_eq_true hm]
  go_enter Tryz.func142,Tryz.ntmps142
  go_wp2_with fail
  go_ret
  exact⟨by first|rfl|(simp;done)|(simp[hm'];done),HY.out⟩
 ·have hm':¬(1:Int)<(m:Int):=by omega
  rw[decide_eq_false hm]
  go_enter Tryz.func142,Tryz.ntmps142
  go_wp2_with fail
  go_ret
  exact⟨by first|rfl|(simp;done)|(simp[hm'];done),HY.out⟩
theorem ok_iff (l:List Et)(i:Nat)(x:Et)(hx:l.getD i et0=x):okAt l i↔((1≤x.k.length∧x.k.length≤100)∧x.k.length+x.v.length≤240)∧(0<i→Lib.compareBytes (l.getD (i-1) et0).k x.k<0):=by
 unfold okAt itemOk keyOk
 rw[hx,Bool.and_eq_true,decide_eq_true_eq,decide_eq_true_eq]
 refine and_congr_right fun _=>forall_congr' fun _=>?_
 rw[cb_lt]
theorem codRightLow (at_:Int)(ve vk:Value)(L:List Eq3)(w:World)(hr:RdN fl w ve L)(hn:L.length≤1000)(hz:∀x∈L,x.1.k.length≤1000∧x.1.v.length≤1000):
  Calls Tryz.prog 142 #[.agg (pgc at_ 0 ve vk).toArray] w fun e w'=>e=.returned (.bool (rightE (L.map Prod.fst)))∧Below w.heap.size w w':=by
 obtain⟨a,cap,rfl,hcap,_⟩:=hr.form
 have hY:Below w.heap.size w (w.alloc (.cells (pgc at_ 0 (.slice a L.length cap) vk).toArray 133)):=(Below.refl _ w).alloc (Nat.le_refl _) _
 have kb:=Blk.new w 133 (pgc at_ 0 (.slice a L.length cap) vk)
 have HE:Hid (∀W,Below w.heap.size w W→∀(k:Nat) (x:Eq3),L[k]?=some x→EtQ fl W x.1 x.2):=fun W hW k x hx=>(hr.keep (KeepU.of_below hW)).is x (List.mem_of_getElem? hx)
 have HR:Hid (∀W,Below w.heap.size w W→∀(k:Nat) (x:Eq3),L[k]?=some x→∃g off,a=some ⟨g,off,none⟩∧W.cell? ⟨g,off+k * 2,none⟩=some (.slice x.2.a x.1.k.length x.2.c)∧W.cell? ⟨g,off+k * 2+1,none⟩=some (.slice x.2.b x.1.v.length x.2.d)):=fun W hW k x hx=>by
  obtain⟨_,_,g,off,e1,d0,d1,_⟩:=(hr.keep (KeepU.of_below hW)).at_ k x hx
  exact⟨g,off,e1,d0,d1⟩
 have HZ:Hid (∀(k:Nat) (x:Eq3),L[k]?=some x→x.1.k.length≤1000∧x.1.v.length≤1000):=fun k x hx=>hz x (List.mem_of_getElem? hx)
 have HX:Hid (∀k,k<L.length→∃x,L[k]?=some x):=fun k hk=>⟨_,List.getElem?_eq_getElem hk⟩
 have HT:Hid ((∀i,i<L.length→okAt (L.map Prod.fst) i)→0<L.length→rightE (L.map Prod.fst)=true):=fun h1 h2=>(right_iff _).2 ⟨fun i hi=>h1 i (by simpa using hi),by simpa using h2⟩
 have HF:Hid (∀i,i<L.length→¬okAt (L.map Prod.fst) i→rightE (L.map Prod.fst)=false):=fun i hi h1=>Bool.eq_false_iff.2 (fun h=>h1 (((right_iff _).1 h).1 i (by simpa using hi)))
 have HF0:Hid (L.length=0→rightE (L.map Prod.fst)=false):=fun h0=>Bool.eq_false_iff.2 (fun h=>by have:=((right_iff _).1 h).2;rw[List.length_map] at this;omega)
 have HO:Hid (∀(k:Nat) (x:Eq3),L[k]?=some x→(okAt (L.map Prod.fst) k↔((1≤x.1.k.length∧x.1.k.length≤100)∧x.1.k.length+x.1.v.length≤240)∧(0<k→Lib.compareBytes ((L.map Prod.fst).getD (k-1) et0).k x.1.k<0))):=fun k x hx=>ok_iff _ k x.1 (getD_map L k x hx)
 have HG:Hid (∀(k:Nat) (x:Eq3),L[k]?=some x→(L.map Prod.fst).getD k et0=x.1):=fun k x hx=>getD_map L k x hx
 unfold pgc at *
 have c1:=kb.cell 1
 have c2:=kb.cell 2
 simp only[gZ0,gZ1] at c1 c2
 have HY:=mkHid hY
 have HKb:=mkHid kb
 clear hr hz kb hY
 generalize hes:L.map Prod.fst=es at *
 clear hes
 generalize L.length=n at *
 generalize rightE es=RR at *
 simp only[Int.natCast_zero] at *
 go_enter Tryz.func142,Tryz.ntmps142
 go_wp2_with fail
 clear c1 c2
 go_loopg [15] n (fun kx i wr=>∃(k:Nat),k≤n∧n-k≤kx∧i=.int .i64 (k:Int)∧Hid (∀i,i<k→okAt es i)∧Hid (Below w.heap.size w wr)∧Hid (Blk wr w.heap.size 133 [.int .i64 at_,.int .i64 0,.slice a n cap,vk]))
 case atStart=>exact⟨0,Nat.zero_le _,by omega,rfl,fun i hi=>absurd hi (Nat.not_lt_zero _),HY,HKb⟩
 case round =>
  obtain⟨k,hk,hkx,rfl,HD,HB,HK⟩:=hrel
  clear HY HKb
  have d2:wr.cell? ⟨w.heap.size,2,none⟩=some (.slice a n cap):=HK.out.cell 2
  by_cases hlt:k<n
  ·have hlt':(k:Int)<(n:Int):=by omega
   obtain⟨x,hx⟩:=HX.out k hlt
   obtain⟨g,off,hae,e0,e1⟩:=HR.out wr HB.out k x hx
   subst hae
   obtain⟨hz1,hz2⟩:=HZ.out k x hx
   have HOk:=mkHid (HO.out k x hx)
   have hA:Below wr.heap.size wr (wr.alloc (.cells #[.slice x.2.a x.1.k.length x.2.c,.slice x.2.b x.1.v.length x.2.d] 64)):=(Below.refl _ wr).alloc (Nat.le_refl _) _
   have HBA:=mkHid (HB.out.trans (hA.mono HB.out.size))
   have HKA:=mkHid (HK.out.on hA)
   have HX3:=mkHid (HE.out _ HBA.out k x hx)
   have hkb:=Blk.new wr 64 [.slice x.2.a x.1.k.length x.2.c,.slice x.2.b x.1.v.length x.2.d]
   have f0:=hkb.cell 0
   have f1:=hkb.cell 1
   simp only[gZ0,gZ1] at f0 f1
   have HIK:=codIsKey x.2.a x.1.k.length x.2.c
   have HII:=codIsItem x.2.a x.2.b x.1.k.length x.2.c x.1.v.length x.2.d
   clear hkb hA
   by_cases hkey:1≤x.1.k.length∧x.1.k.length≤100
   ·rw[decide_eq_true hkey] at HIK
    by_cases hit:x.1.k.length+x.1.v.length≤240
    ·rw[decide_eq_true hit] at HII
     by_cases hk0:0<k
     ·obtain⟨q,hkq⟩:∃q,k=q+1:=⟨k-1,by omega⟩
      have hq1:IntKind.i64.wrap ((k:Int)-1)=(q:Int):=by rw[show (k:Int)-1=(q:Int) by omega];exact wrapi64_in _ (by omega) (by omega)
      have hk0':(0:Int)<(k:Int):=by omega
      have hq0:(0:Int)≤(q:Int):=by omega
      obtain⟨y,hy⟩:=HX.out q (by omega)
      obtain⟨g2,off2,hae2,p0,p1⟩:=HR.out _ HBA.out q y hy
      have hae3:=Option.some.inj hae2
      injection hae3 with q1 q2 _
      subst q1 q2
      have HY3:=mkHid (HE.out _ HBA.out q y hy)
      have HGy:=HG.out q y hy
      have b2:(wr.alloc (.cells #[.slice x.2.a x.1.k.length x.2.c,.slice x.2.b x.1.v.length x.2.d] 64)).cell? ⟨w.heap.size,2,none⟩=some (.slice (some ⟨g,off,none⟩) n cap):=HKA.out.cell 2
      have HC:=codCompare y.2.a x.2.a y.1.k.length x.1.k.length y.2.c x.2.c y.1.k x.1.k _ (HY3.out.is.k.drewN 1) (HX3.out.is.k.drewN 1)
      have hqi:(q:Int)<(n:Int):=by omega
      have HOr:Hid (Lib.compareBytes y.1.k x.1.k<0→okAt es k):=fun h=>HOk.out.2 ⟨⟨hkey,hit⟩,fun _=>by rw[show k-1=q by omega,HGy];exact h⟩
      have HOn:Hid (¬Lib.compareBytes y.1.k x.1.k<0→¬okAt es k):=fun h1 h2=>h1 (by have:=(HOk.out.1 h2).2 (by omega);rw[show k-1=q by omega,HGy] at this;exact this)
      generalize Lib.compareBytes y.1.k x.1.k=z at *
      clear HOk HX3 HY3 hae2 HGy hx hy hkey hit hkq
      generalize x.1.k.length=n1 at *
      generalize x.1.v.length=n2 at *
      generalize x.2.a=qa at *
      generalize x.2.b=qb at *
      generalize x.2.c=qc at *
      generalize x.2.d=qd at *
      generalize y.1.k.length=m1 at *
      generalize y.1.v.length=m2 at *
      generalize y.2.a=ra at *
      generalize y.2.b=rb at *
      generalize y.2.c=rc at *
      generalize y.2.d=rd at *
      by_cases hzz:z<0
      ·have HO2:=HOr.out hzz
       have hzg:¬(0:Int)≤z:=by omega
       clear HOr HOn
       go_wp2_with (first|(go_at_call 39;refine(HIK _).mono ?_;rintro e w8 ⟨rfl,hw8⟩;rw[hw8];clear hw8)|(go_at_call 40;refine(HII _ (by omega)).mono ?_;rintro e w9 ⟨rfl,hw9⟩;rw[hw9];clear hw9))
       go_region_held3 (fun w'=>w'=(wr.alloc (.cells #[.slice qa n1 qc,.slice qb n2 qd] 64)).drew)
        (first|rfl|assumption|exact hw7)
        (first|(go_at_call 111;have hq9:=‹_=World.drew _›;rw[hq9];refine HC.mono ?_;rintro e w7 ⟨rfl,hw7⟩;clear hq9))
       all_goals
        go_wp2
        go_roundg (n-(k+1))
       all_goals first|omega|skip
       all_goals exact⟨k+1,by omega,Nat.le_refl _,by go_num,fun i hi=>by
         by_cases e:i=k
         ·rw[e];exact HO2
         ·exact HD.out i (by omega),HBA.out.drew,HKA.out⟩
      ·have hzg:(0:Int)≤z:=by omega
       have HRR:Hid (RR=false):=HF.out k hlt (HOn.out hzz)
       clear HOr HOn
       go_wp2_with (first|(go_at_call 39;refine(HIK _).mono ?_;rintro e w8 ⟨rfl,hw8⟩;rw[hw8];clear hw8)|(go_at_call 40;refine(HII _ (by omega)).mono ?_;rintro e w9 ⟨rfl,hw9⟩;rw[hw9];clear hw9))
       go_region_held3 (fun w'=>w'=(wr.alloc (.cells #[.slice qa n1 qc,.slice qb n2 qd] 64)).drew)
        (first|rfl|assumption|exact hw7)
        (first|(go_at_call 111;have hq9:=‹_=World.drew _›;rw[hq9];refine HC.mono ?_;rintro e w7 ⟨rfl,hw7⟩;clear hq9))
       all_goals
        go_wp2
        go_ret
        exact⟨by rw[HRR.out];rfl,HBA.out.drew⟩
     ·have hk0':¬(0:Int)<(k:Int):=by omega
      have HO2:Hid (okAt es k):=HOk.out.2 ⟨⟨hkey,hit⟩,fun h=>absurd h hk0⟩
      clear HOk HX3 hx hkey hit
      generalize x.1.k.length=n1 at *
      generalize x.1.v.length=n2 at *
      generalize x.2.a=qa at *
      generalize x.2.b=qb at *
      generalize x.2.c=qc at *
      generalize x.2.d=qd at *
      go_wp2_with (first|(go_at_call 39;refine(HIK _).mono ?_;rintro e w8 ⟨rfl,hw8⟩;rw[hw8];clear hw8)|(go_at_call 40;refine(HII _ (by omega)).mono ?_;rintro e w9 ⟨rfl,hw9⟩;rw[hw9];clear hw9))
      go_region
      all_goals
       go_wp2
       go_roundg (n-(k+1))
      all_goals first|omega|skip
      all_goals exact⟨k+1,by omega,Nat.le_refl _,by go_num,fun i hi=>by
        by_cases e:i=k
        ·rw[e];exact HO2.out
        ·exact HD.out i (by omega),HBA.out.drew,HKA.out⟩
    ·rw[decide_eq_false hit] at HII
     have HRR:Hid (RR=false):=HF.out k hlt (fun h=>hit (HOk.out.1 h).1.2)
     clear HOk HX3 hx hkey hit
     generalize x.1.k.length=n1 at *
     generalize x.1.v.length=n2 at *
     generalize x.2.a=qa at *
     generalize x.2.b=qb at *
     generalize x.2.c=qc at *
     generalize x.2.d=qd at *
     go_wp2_with (first|(go_at_call 39;refine(HIK _).mono ?_;rintro e w8 ⟨rfl,hw8⟩;rw[hw8];clear hw8)|(go_at_call 40;refine(HII _ (by omega)).mono ?_;rintro e w9 ⟨rfl,hw9⟩;rw[hw9];clear hw9))
     go_ret
     exact⟨by rw[HRR.out];rfl,HBA.out⟩
   ·rw[decide_eq_false hkey] at HIK
    have HRR:Hid (RR=false):=HF.out k hlt (fun h=>hkey (HOk.out.1 h).1.1)
    clear HOk HX3 hx hkey
    generalize x.1.k.length=n1 at *
    generalize x.1.v.length=n2 at *
    generalize x.2.a=qa at *
    generalize x.2.b=qb at *
    generalize x.2.c=qc at *
    generalize x.2.d=qd at *
    go_wp2_with (first|(go_at_call 39;refine(HIK _).mono ?_;rintro e w8 ⟨rfl,hw8⟩;rw[hw8];clear hw8)|(go_at_call 40;refine(HII _ (by omega)).mono ?_;rintro e w9 ⟨rfl,hw9⟩;rw[hw9];clear hw9))
    go_ret
    exact⟨by rw[HRR.out];rfl,HBA.out⟩
  ·have hlt':¬(k:Int)<(n:Int):=by omega
   have hkn:k=n:=by omega
   by_cases h0:0<n
   ·have h0':(0:Int)<(n:Int):=by omega
    have HRR:Hid (RR=true):=HT.out (fun i hi=>HD.out i (by omega)) h0
    clear hkn
    go_wp2_with fail
    go_ret
    exact⟨by rw[HRR.out];rfl,HB.out⟩
   ·have h0':¬(0:Int)<(n:Int):=by omega
    have HRR:Hid (RR=false):=HF0.out (by omega)
    clear hkn
    go_wp2_with fail
    go_ret
    exact⟨by rw[HRR.out];rfl,HB.out⟩
end
section
open Go.RowKit
def SB (w:World)(v:Value)(l:List UInt8):Prop:=∃g off c,v=.slice (some ⟨g,off,none⟩) l.length c∧∀W,KeepO UB w W→IsB W (some ⟨g,off,none⟩) l.length c l
theorem SB.keep {w w':World}{v:Value}{l:List UInt8}(h:SB w v l)(hk:KeepO UB w w'):SB w' v l:=by
 obtain⟨g,off,c,e,hi⟩:=h
 exact⟨g,off,c,e,fun W hW=>hi W (hk.trans hW)⟩
theorem SB.head {w:World}{v:Value}{l:List UInt8}(h:SB w v l)(n:Nat)(hn:n≤l.length):∃g off c,v=.slice (some ⟨g,off,none⟩) l.length c∧l.length≤c∧SB w (.slice (some ⟨g,off,none⟩) n c) (l.take n)∧SB w (.slice (cutA g off c n) (l.length-n) (c-n)) (l.drop n):=by
 obtain⟨g,off,c,e,hi⟩:=h
 have hl:(l.take n).length=n:=by rw[List.length_take];omega
 have hd:(l.drop n).length=l.length-n:=List.length_drop
 refine⟨g,off,c,e,(hi w (KeepO.refl _ _)).le,⟨g,off,c,by rw[hl],fun W hW=>by rw[hl];exact(hi W hW).head n hn⟩,?_⟩
 by_cases hc:c=n
 ·refine⟨g,off,c-n,by unfold cutA;rw[if_pos hc,hd],fun W hW=>?_⟩
  have:=(hi W hW).cut n hn
  unfold cutA at this
  rw[if_pos hc] at this
  rw[hd]
  exact this
 ·refine⟨g,off+n,c-n,by unfold cutA;rw[if_neg hc,hd],fun W hW=>?_⟩
  have:=(hi W hW).cut n hn
  unfold cutA at this
  rw[if_neg hc] at this
  rw[hd]
  exact this
theorem SB.isB {w:World}{v:Value}{l:List UInt8}(h:SB w v l):∃g off c,v=.slice (some ⟨g,off,none⟩) l.length c∧IsB w (some ⟨g,off,none⟩) l.length c l:=by
 obtain⟨g,off,c,e,hi⟩:=h
 exact⟨g,off,c,e,hi w (KeepO.refl _ _)⟩
theorem nextYes (B:Nat)(v:Value)(l:List UInt8)(n:Nat)(w w0:World)(hB:Blk w B 33 [v])(hs:SB w0 v l)(hnl:n≤l.length):
  Calls Tryz.prog 141 #[.int .i64 (n:Int),.pointer (some ⟨B,0,none⟩)] w fun e w'=>∃u v',e=.returned u∧SB w0 u (l.take n)∧SB w0 v' (l.drop n)∧w'=w.setCell ⟨B,0,none⟩ v':=by
 have c0:w.cell? ⟨B,0,none⟩=some v:=hB.cell 0
 have f0:=hB.frozen 0
 obtain⟨g,off,c,rfl,hc,h1,h2⟩:=hs.head n hnl
 have hnl':(n:Int)≤(l.length:Int):=by omega
 have hs1:=fun W=>slH .i64 g off l.length c n (by omega) W
 have hs2:=fun W=>slB g off l.length c n hnl W
 have HN:=needYes13 4
 have H1:=mkHid h1
 have H2:=mkHid h2
 clear h1 h2 hs hB
 generalize cutA g off c n=ca at *
 generalize l.length=r at *
 go_enter Tryz.func141,Tryz.ntmps141
 go_wp2_with (go_at_call 99;refine(HN _).mono ?_;rintro x w2 ⟨rfl,hww⟩;rw[hww];clear hww w2)
 go_ret
 exact⟨_,_,rfl,H1.out,H2.out,rfl⟩
theorem nextNo (B:Nat)(v:Value)(l:List UInt8)(n:Nat)(w w0:World)(hB:Blk w B 33 [v])(hs:SB w0 v l)(hnl:¬n≤l.length):
  Calls Tryz.prog 141 #[.int .i64 (n:Int),.pointer (some ⟨B,0,none⟩)] w fun e w'=>e=.panicked [{ v:=.iface 30 (.int .i64 4),recovered:=false }]∧w'=w:=by
 have c0:w.cell? ⟨B,0,none⟩=some v:=hB.cell 0
 obtain⟨g,off,c,rfl,_⟩:=hs
 have hnl':¬(n:Int)≤(l.length:Int):=by omega
 have HN:=needNo13 4
 clear hB
 generalize l.length=r at *
 go_enter Tryz.func141,Tryz.ntmps141
 go_wp2_with (go_at_call 99;refine(HN _).mono ?_;rintro x w2 ⟨rfl,hww⟩;rw[hww];clear hww w2)
 exact bp_panic ⟨rfl,rfl⟩
theorem pgSize:(Tryz.prog.info? 133).map (·.size)=some 4:=by kernel_rfl
theorem retPg {fn:Func}{p:Tmp}(h:fn.results=#[.cell p 133])(tmps:Array Value)(w:World)(g:Nat)(c0 c1 c2 c3:Value)(hp:tmps.getD p undef=.pointer (some ⟨g,0,none⟩))(hg:Blk w g 133 [c0,c1,c2,c3]):
  (results fn tmps).run Tryz.prog w=.ok (.agg #[c0,c1,c2,c3]) w :=
 results_cellrow h tmps w g 133 #[c0,c1,c2,c3] (0,0) _ hp hg Tryz.underlying133 rfl pgSize
theorem grown_set (w:World)(b i:Nat)(v:Value):w.grownBy (w.setCell ⟨b,i,none⟩ v) (some b):=
 ⟨rfl,rfl,rfl,by simp[World.setCell],fun k _ hk=>Below.heap_setCell _ _ _ _ (fun e=>hk (by simp[e]))⟩
structure PaAt (w wr:World)(v:Value)(r:List UInt8)(lv:Nat)(ve vk:Value)(L:List Eq3)(ks:List Int):Prop where
 b:Blk wr w.heap.size 33 [v]
 r:SB w v r
 res:Blk wr (w.heap.size+1) 133 [.int .i64 0,.int .i64 0,.slice none 0 0,.slice none 0 0]
 p:Blk wr (w.heap.size+2) 133 [.int .i64 0,.int .i64 (lv:Int),ve,vk]
 e:OwnN wr (w.heap.size+3) ve L
 k:OwnZ wr (w.heap.size+3) vk ks
 x:∀x∈L,EtP w x.1 x.2
 low:Below w.heap.size w wr
theorem PaAt.lt {w wr:World}{v:Value}{r:List UInt8}{lv:Nat}{ve vk:Value}{L:List Eq3}{ks:List Int}(h:PaAt w wr v r lv ve vk L ks):w.heap.size+3≤wr.heap.size:=h.p.lt
theorem PaAt.on {w wr wr':World}{v:Value}{r:List UInt8}{lv:Nat}{ve vk:Value}{L:List Eq3}{ks:List Int}(h:PaAt w wr v r lv ve vk L ks)(hb:Below wr.heap.size wr wr'):PaAt w wr' v r lv ve vk L ks :=
 ⟨h.b.on hb,h.r,h.res.on hb,h.p.on hb,h.e.on hb,own_keepO (us:=[3]) (KeepO.of_below hb) h.k (by decide),h.x,h.low.trans (hb.mono h.low.size)⟩
theorem PaAt.cut {w wr:World}{v v':Value}{r r':List UInt8}{lv:Nat}{ve vk:Value}{L:List Eq3}{ks:List Int}(h:PaAt w wr v r lv ve vk L ks)(hr:SB w v' r'):PaAt w (wr.setCell ⟨w.heap.size,0,none⟩ v') v' r' lv ve vk L ks:=by
 have hg:wr.grownBy (wr.setCell ⟨w.heap.size,0,none⟩ v') (some w.heap.size):=grown_set wr w.heap.size 0 v'
 refine⟨h.b.set 0 v',hr,h.res.other _ _ (by show w.heap.size+1≠w.heap.size;omega),h.p.other _ _ (by show w.heap.size+2≠w.heap.size;omega),World.ownsRow.kept h.e hg ?_,World.ownsRow.kept h.k hg ?_,h.x,h.low.setCell (Nat.le_refl _) _⟩
 ·cases hv:ve.ownBlock with
  | none=>exact .inl rfl
  | some k=>exact .inr (fun e=>by have:=(World.ownsRow.lt h.e k hv).1;have:=Option.some.inj e;omega)
 ·cases hv:vk.ownBlock with
  | none=>exact .inl rfl
  | some k=>exact .inr (fun e=>by have:=(World.ownsRow.lt h.k k hv).1;have:=Option.some.inj e;omega)
theorem grown_tr {a b c:World}{r:Option Nat}(h:a.grownBy b r)(k:b.grownBy c r):a.grownBy c r :=
 ⟨k.os.trans h.os,k.tape.trans h.tape,k.output.trans h.output,Nat.le_trans h.size k.size,fun i hi hne=>(k.block i (Nat.lt_of_lt_of_le hi h.size) hne).trans (h.block i hi hne)⟩
theorem grown4 (w:World)(B:Nat)(a b c d:Value):w.grownBy ((((w.setCell ⟨B,0,none⟩ a).setCell ⟨B,1,none⟩ b).setCell ⟨B,2,none⟩ c).setCell ⟨B,3,none⟩ d) (some B):=
 grown_tr (grown_tr (grown_tr (grown_set w B 0 a) (grown_set _ B 1 b)) (grown_set _ B 2 c)) (grown_set _ B 3 d)
theorem own_low {w:World}{base base' e size n:Nat}{v:Value}{xs:List Value}(h:w.ownsRow base e size v n xs)(hb:base'≤base):w.ownsRow base' e size v n xs:=by
 rcases h with⟨h1,h2|⟨g,cap,cur,h3,h4,h5⟩⟩
 ·exact⟨h1,.inl h2⟩
 ·exact⟨h1,.inr ⟨g,cap,cur,h3,Nat.le_trans hb h4,h5⟩⟩
theorem own_apart {w w':World}{base e size n B:Nat}{v:Value}{xs:List Value}(h:w.ownsRow base e size v n xs)(hg:w.grownBy w' (some B))(hB:B<base):w'.ownsRow base e size v n xs:=by
 refine World.ownsRow.kept h hg ?_
 cases hv:v.ownBlock with
 | none=>exact .inl rfl
 | some k=>exact .inr (fun e=>by have:=(World.ownsRow.lt h k hv).1;have:=Option.some.inj e;omega)
theorem PaAt.done {w wr wr':World}{v:Value}{r:List UInt8}{lv:Nat}{ve vk:Value}{L:List Eq3}{ks:List Int}(h:PaAt w wr v r lv ve vk L ks)(hg:wr.grownBy wr' (some (w.heap.size+1))):
  OwnN wr' w.heap.size ve L∧OwnZ wr' w.heap.size vk ks∧(∀x∈L,EtP wr' x.1 x.2)∧Below w.heap.size w wr':=by
 have hb:Below w.heap.size w wr':=h.low.grown hg h.low.size (fun k e=>by have:=Option.some.inj e;omega)
 exact⟨own_low (own_apart h.e hg (by omega)) (by omega),own_low (own_apart h.k hg (by omega)) (by omega),fun x hx=>(h.x x hx).keep (KeepO.of_below hb),hb⟩
theorem PaAt.app {w wr wr':World}{v:Value}{r:List UInt8}{lv:Nat}{ve vk ve':Value}{L:List Eq3}{ks:List Int}{x:Eq3}(h:PaAt w wr v r lv ve vk L ks)(ho:OwnN wr' (w.heap.size+3) ve' (L++[x]))(hg:wr.grownBy wr' ve.ownBlock)(hx:EtP w x.1 x.2):
  PaAt w (wr'.setCell ⟨w.heap.size+2,2,none⟩ ve') v r lv ve' vk (L++[x]) ks∧Blk wr' (w.heap.size+2) 133 [.int .i64 0,.int .i64 (lv:Int),ve,vk]:=by
 have hk:=KeepT.grownN h.e hg
 have hlt:∀k,ve.ownBlock=some k→w.heap.size+3≤k:=fun k e=>(World.ownsRow.lt h.e k e).1
 have hp:=hk.blk h.p (by decide)
 have hg2:=grown_set wr' (w.heap.size+2) 2 ve'
 refine⟨⟨(hk.blk h.b (by decide)).other _ _ (by show w.heap.size≠w.heap.size+2;omega),h.r,(hk.blk h.res (by decide)).other _ _ (by show w.heap.size+1≠w.heap.size+2;omega),hp.set 2 ve',World.ownsRow.kept ho hg2 ?_,?_,fun y hy=>?_,?_⟩,hp⟩
 ·cases hv:ve'.ownBlock with
  | none=>exact .inl rfl
  | some k=>exact .inr (fun e=>by have:=(World.ownsRow.lt ho k hv).1;have:=Option.some.inj e;omega)
 ·have hz:OwnZ wr' (w.heap.size+3) vk ks:=own_keepO (us:=[3]) (KeepO.ofT hk (by decide)) h.k (by decide)
  refine World.ownsRow.kept hz hg2 ?_
  cases hv:vk.ownBlock with
  | none=>exact .inl rfl
  | some k=>exact .inr (fun e=>by have:=(World.ownsRow.lt hz k hv).1;have:=Option.some.inj e;omega)
 ·rcases List.mem_append.1 hy with h1|h1
  ·exact h.x y h1
  ·rw[List.mem_singleton.1 h1];exact hx
 ·exact(h.low.grown hg h.low.size (fun k e=>by have:=hlt k e;omega)).setCell (p:=⟨w.heap.size+2,2,none⟩) (by show w.heap.size≤w.heap.size+2;omega) _
theorem PaAt.appK {w wr wr':World}{v:Value}{r:List UInt8}{lv:Nat}{ve vk vk':Value}{L:List Eq3}{ks:List Int}{z:Int}(h:PaAt w wr v r lv ve vk L ks)(ho:OwnZ wr' (w.heap.size+3) vk' (ks++[z]))(hg:wr.grownBy wr' vk.ownBlock):
  PaAt w (wr'.setCell ⟨w.heap.size+2,3,none⟩ vk') v r lv ve vk' L (ks++[z])∧Blk wr' (w.heap.size+2) 133 [.int .i64 0,.int .i64 (lv:Int),ve,vk]:=by
 have hk:=KeepT.grownZ h.k hg
 have hlt:∀k,vk.ownBlock=some k→w.heap.size+3≤k:=fun k e=>(World.ownsRow.lt h.k k e).1
 have hp:=hk.blk h.p (by decide)
 have hg2:=grown_set wr' (w.heap.size+2) 3 vk'
 refine⟨⟨(hk.blk h.b (by decide)).other _ _ (by show w.heap.size≠w.heap.size+2;omega),h.r,(hk.blk h.res (by decide)).other _ _ (by show w.heap.size+1≠w.heap.size+2;omega),hp.set 3 vk',?_,own_apart ho hg2 (by omega),h.x,?_⟩,hp⟩
 ·have hz:OwnN wr' (w.heap.size+3) ve L:=own_keepO (us:=[64]) (KeepO.ofT hk (by decide)) h.e (by decide)
  exact own_apart hz hg2 (by omega)
 ·exact(h.low.grown hg h.low.size (fun k e=>by have:=hlt k e;omega)).setCell (p:=⟨w.heap.size+2,3,none⟩) (by show w.heap.size≤w.heap.size+2;omega) _
end
end Go.Proofs.YtpecobmfabmpkaaGreatDoor
