/- Tr0 Tp0 ResCell Bl0 Bl1 Bl5 Bl8 Tp1 PtA -/
import Derived.Test.YtpecobmfabmpkaaGreatDoorM10
import Derived.Laws.ResultCell
import Derived.Laws.Rows
import Derived.BigQuiet
import Derived.Deep.QuietTactic
namespace Go.Proofs.YtpecobmfabmpkaaGreatDoor
open Go.RowKit
def atE:List Et→List UInt8→Nat
 | [],_=>0
 | e::l,key=>if Op.bytesLess e.k key=true then atE l key+1 else 0
theorem atE_le (l:List Et)(key:List UInt8):atE l key≤l.length:=by
 induction l with
 | nil=>exact Nat.le_refl _
 | cons e l ih=>rw [atE];split<;>simp<;>omega
def et0:Et:=⟨[],[]⟩
theorem atE_lt {l:List Et}{key:List UInt8}:∀ i,i<atE l key→Op.bytesLess (l.getD i et0).k key=true:=by
 induction l with
 | nil=>intro i hi;exact absurd hi (Nat.not_lt_zero _)
 | cons e l ih =>
  intro i hi
  rw [atE] at hi
  split at hi
  ·rename_i h
   cases i with
   | zero=>exact h
   | succ i=>exact ih i (by omega)
  ·exact absurd hi (Nat.not_lt_zero _)
theorem atE_at {l:List Et}{key:List UInt8}(h:atE l key<l.length):Op.bytesLess (l.getD (atE l key) et0).k key=false:=by
 induction l with
 | nil=>exact absurd h (Nat.not_lt_zero _)
 | cons e l ih =>
  rw [atE] at h ⊢
  split
  ·rename_i h2
   rw [if_pos h2] at h
   exact ih (by simpa using h)
  ·rename_i h2
   exact Bool.eq_false_iff.2 h2
theorem atE_uniq {l:List Et}{key:List UInt8}{k:Nat}(hk:k≤l.length)(h1:∀ i,i<k→Op.bytesLess (l.getD i et0).k key=true)(h2:k<l.length→Op.bytesLess (l.getD k et0).k key=false):k=atE l key:=by
 rcases Nat.lt_trichotomy k (atE l key) with h|h|h
 ·have:=atE_lt k h
  rw [h2 (Nat.lt_of_lt_of_le h (atE_le _ _))] at this
  cases this
 ·exact h
 ·have:=h1 _ h
  rw [atE_at (Nat.lt_of_lt_of_le h hk)] at this
  cases this
def isE (l:List Et)(i:Nat)(key:List UInt8):Bool:=decide (i<l.length)&&((l.getD i et0).k==key)
def putE13 (l:List Et)(key value:List UInt8):List Et:=l.take (atE l key)++⟨key,value⟩::(if isE l (atE l key) key=true then l.drop (atE l key+1) else l.drop (atE l key))
def delE13 (l:List Et)(key:List UInt8):List Et:=if isE l (atE l key) key=true then l.take (atE l key)++l.drop (atE l key+1) else l
def getE13 (l:List Et)(key:List UInt8):List UInt8:=if isE l (atE l key) key=true then (l.getD (atE l key) et0).v else []
def scanE13 (l:List Et)(from_:List UInt8)(most:Int):List Et:=(l.drop (atE l from_)).take most.toNat
def keyOk (k:List UInt8):Bool:=decide (1≤k.length∧k.length≤100)
def itemOk (k v:List UInt8):Bool:=keyOk k&&decide (k.length+v.length≤240)
theorem lt_irr (x:List UInt8):Op.bytesLess x x=false:=by
 induction x with
 | nil=>rfl
 | cons a x ih=>rw [Op.bytesLess,ih];simp
theorem lt_cons (a b:UInt8)(x y:List UInt8):Op.bytesLess (a::x) (b::y)=(decide (a<b)||(a==b&&Op.bytesLess x y)):=by rw [Op.bytesLess]
theorem lt_tr (x y z:List UInt8)(h1:Op.bytesLess x y=true)(h2:Op.bytesLess y z=true):Op.bytesLess x z=true:=by
 induction x generalizing y z with
 | nil =>
  cases z with
  | nil=>cases y with
   | nil=>exact h1
   | cons b y=>cases h2
  | cons c z=>rfl
 | cons a x ih =>
  cases y with
  | nil=>cases h1
  | cons b y =>
   cases z with
   | nil=>cases h2
   | cons c z =>
    rw [lt_cons,Bool.or_eq_true,Bool.and_eq_true,decide_eq_true_eq,beq_iff_eq] at h1 h2 ⊢
    rcases h1 with h1|⟨e1,h1⟩
    ·rcases h2 with h2|⟨e2,h2⟩
     ·exact .inl (UInt8.lt_trans h1 h2)
     ·exact .inl (e2▸h1)
    ·rcases h2 with h2|⟨e2,h2⟩
     ·exact .inl (e1▸h2)
     ·exact .inr ⟨e1.trans e2,ih y z h1 h2⟩
theorem lt_no {x y:List UInt8}(h:Op.bytesLess y x=true):Op.bytesLess x y=false:=by
 cases h2:Op.bytesLess x y with
 | false=>rfl
 | true=>have:=lt_tr x y x h2 h;rw [lt_irr] at this;cases this
theorem lt_ne {x y:List UInt8}(h:Op.bytesLess y x=true):x≠y:=fun e=>by rw [e,lt_irr] at h;cases h
theorem lt_tot (x y:List UInt8):Op.bytesLess x y=true∨x=y∨Op.bytesLess y x=true:=by
 induction x generalizing y with
 | nil=>cases y with
  | nil=>exact .inr (.inl rfl)
  | cons b y=>exact .inl rfl
 | cons a x ih =>
  cases y with
  | nil=>exact .inr (.inr rfl)
  | cons b y =>
   rw [lt_cons,lt_cons]
   by_cases h:a<b
   ·exact .inl (by rw [decide_eq_true h];rfl)
   ·by_cases h2:b<a
    ·exact .inr (.inr (by rw [decide_eq_true h2];rfl))
    ·have e:a=b:=by
      have h3:¬ a.toNat<b.toNat:=fun h'=>h (UInt8.lt_iff_toNat_lt.2 h')
      have h4:¬ b.toNat<a.toNat:=fun h'=>h2 (UInt8.lt_iff_toNat_lt.2 h')
      exact UInt8.toNat_inj.1 (by omega)
     subst e
     rcases ih y with h3|h3|h3
     ·exact .inl (by rw [h3];simp)
     ·exact .inr (.inl (by rw [h3]))
     ·exact .inr (.inr (by rw [h3];simp))
def hasE13 (l:List Et)(key:List UInt8):Bool:=isE l (atE l key) key
theorem has_cons (e:Et)(l:List Et)(k:List UInt8):hasE13 (e::l) k=if Op.bytesLess e.k k=true then hasE13 l k else (e.k==k):=by
 unfold hasE13
 rw [atE]
 split
 ·unfold isE;simp
 ·unfold isE;simp
theorem put_nil (k v:List UInt8):putE13 [] k v=[⟨k,v⟩]:=rfl
theorem put_cons (e:Et)(l:List Et)(k v:List UInt8):putE13 (e::l) k v=if Op.bytesLess e.k k=true then e::putE13 l k v else if e.k=k then ⟨k,v⟩::l else ⟨k,v⟩::e::l:=by
 unfold putE13
 by_cases h:Op.bytesLess e.k k=true
 ·have h2:atE (e::l) k=atE l k+1:=by rw [atE,if_pos h]
  have h3:isE (e::l) (atE l k+1) k=isE l (atE l k) k:=by unfold isE;simp
  rw [if_pos h,h2,h3]
  simp
 ·have h2:atE (e::l) k=0:=by rw [atE,if_neg h]
  have h3:isE (e::l) 0 k=(e.k==k):=by unfold isE;simp
  rw [if_neg h,h2,h3]
  by_cases h4:e.k=k
  ·rw [if_pos h4,if_pos (by rw [h4];simp)];rfl
  ·rw [if_neg h4,if_neg (by simpa using h4)];rfl
theorem del_cons (e:Et)(l:List Et)(k:List UInt8):delE13 (e::l) k=if Op.bytesLess e.k k=true then e::delE13 l k else if e.k=k then l else e::l:=by
 unfold delE13
 by_cases h:Op.bytesLess e.k k=true
 ·have h2:atE (e::l) k=atE l k+1:=by rw [atE,if_pos h]
  have h3:isE (e::l) (atE l k+1) k=isE l (atE l k) k:=by unfold isE;simp
  rw [if_pos h,h2,h3]
  split<;>simp
 ·have h2:atE (e::l) k=0:=by rw [atE,if_neg h]
  have h3:isE (e::l) 0 k=(e.k==k):=by unfold isE;simp
  rw [if_neg h,h2,h3]
  by_cases h4:e.k=k
  ·rw [if_pos h4,if_pos (by rw [h4];simp)];rfl
  ·rw [if_neg h4,if_neg (by simpa using h4)]
theorem get_cons (e:Et)(l:List Et)(k:List UInt8):getE13 (e::l) k=if Op.bytesLess e.k k=true then getE13 l k else if e.k=k then e.v else []:=by
 unfold getE13
 by_cases h:Op.bytesLess e.k k=true
 ·have h2:atE (e::l) k=atE l k+1:=by rw [atE,if_pos h]
  have h3:isE (e::l) (atE l k+1) k=isE l (atE l k) k:=by unfold isE;simp
  rw [if_pos h,h2,h3]
  simp
 ·have h2:atE (e::l) k=0:=by rw [atE,if_neg h]
  have h3:isE (e::l) 0 k=(e.k==k):=by unfold isE;simp
  rw [if_neg h,h2,h3]
  by_cases h4:e.k=k
  ·rw [if_pos h4,if_pos (by rw [h4];simp)];rfl
  ·rw [if_neg h4,if_neg (by simpa using h4)]
def AllLt (A:List Et)(k:List UInt8):Prop:=∀ e∈A,Op.bytesLess e.k k=true
def AllGt (B:List Et)(k:List UInt8):Prop:=∀ e∈B,Op.bytesLess k e.k=true
theorem gt_head {B:List Et}{k:List UInt8}(h:AllGt B k){e:Et}{B':List Et}(hB:B=e::B'):Op.bytesLess e.k k=false∧¬ e.k=k:=by
 have:=h e (by rw [hB];exact List.mem_cons_self)
 exact ⟨lt_no this,lt_ne this⟩
theorem put_gt {B:List Et}{k:List UInt8}(h:AllGt B k)(v:List UInt8):putE13 B k v=⟨k,v⟩::B:=by
 cases B with
 | nil=>rfl
 | cons e B=>rw [put_cons,if_neg (by rw [(gt_head h rfl).1];simp),if_neg (gt_head h rfl).2]
theorem del_gt {B:List Et}{k:List UInt8}(h:AllGt B k):delE13 B k=B:=by
 cases B with
 | nil=>rfl
 | cons e B=>rw [del_cons,if_neg (by rw [(gt_head h rfl).1];simp),if_neg (gt_head h rfl).2]
theorem has_gt {B:List Et}{k:List UInt8}(h:AllGt B k):hasE13 B k=false:=by
 cases B with
 | nil=>rfl
 | cons e B=>rw [has_cons,if_neg (by rw [(gt_head h rfl).1];simp)];simpa using (gt_head h rfl).2
theorem get_gt {B:List Et}{k:List UInt8}(h:AllGt B k):getE13 B k=[]:=by
 cases B with
 | nil=>rfl
 | cons e B=>rw [get_cons,if_neg (by rw [(gt_head h rfl).1];simp),if_neg (gt_head h rfl).2]
theorem AllLt.tail {e:Et}{A:List Et}{k:List UInt8}(h:AllLt (e::A) k):AllLt A k:=fun x hx=>h x (List.mem_cons_of_mem _ hx)
theorem mid_put {A M B:List Et}{k:List UInt8}(hA:AllLt A k)(hB:AllGt B k)(v:List UInt8):putE13 (A++(M++B)) k v=A++(putE13 M k v++B):=by
 induction A with
 | nil =>
  rw [List.nil_append,List.nil_append]
  induction M with
  | nil=>rw [List.nil_append,put_gt hB];rfl
  | cons e M ih =>
   rw [List.cons_append,put_cons,put_cons,ih]
   split
   ·rfl
   ·split<;>rfl
 | cons e A ih=>rw [List.cons_append,put_cons,if_pos (hA e List.mem_cons_self),ih hA.tail];rfl
theorem mid_del {A M B:List Et}{k:List UInt8}(hA:AllLt A k)(hB:AllGt B k):delE13 (A++(M++B)) k=A++(delE13 M k++B):=by
 induction A with
 | nil =>
  rw [List.nil_append,List.nil_append]
  induction M with
  | nil=>rw [List.nil_append,del_gt hB];rfl
  | cons e M ih =>
   rw [List.cons_append,del_cons,del_cons,ih]
   split
   ·rfl
   ·split<;>rfl
 | cons e A ih=>rw [List.cons_append,del_cons,if_pos (hA e List.mem_cons_self),ih hA.tail];rfl
theorem mid_has {A M B:List Et}{k:List UInt8}(hA:AllLt A k)(hB:AllGt B k):hasE13 (A++(M++B)) k=hasE13 M k:=by
 induction A with
 | nil =>
  rw [List.nil_append]
  induction M with
  | nil=>rw [List.nil_append,has_gt hB];rfl
  | cons e M ih=>rw [List.cons_append,has_cons,has_cons,ih]
 | cons e A ih=>rw [List.cons_append,has_cons,if_pos (hA e List.mem_cons_self),ih hA.tail]
theorem mid_get {A M B:List Et}{k:List UInt8}(hA:AllLt A k)(hB:AllGt B k):getE13 (A++(M++B)) k=getE13 M k:=by
 induction A with
 | nil =>
  rw [List.nil_append]
  induction M with
  | nil=>rw [List.nil_append,get_gt hB];rfl
  | cons e M ih=>rw [List.cons_append,get_cons,get_cons,ih]
 | cons e A ih=>rw [List.cons_append,get_cons,if_pos (hA e List.mem_cons_self),ih hA.tail]
def SrtE (l:List Et):Prop:=l.Pairwise (fun a b=>Op.bytesLess a.k b.k=true)
theorem mem_put {l:List Et}{k v:List UInt8}{x:Et}(h:x∈putE13 l k v):x=⟨k,v⟩∨x∈l:=by
 induction l with
 | nil=>rw [put_nil] at h;exact .inl (List.mem_singleton.1 h)
 | cons e l ih =>
  rw [put_cons] at h
  split at h
  ·rcases List.mem_cons.1 h with h|h
   ·exact .inr (h▸List.mem_cons_self)
   ·rcases ih h with h|h
    ·exact .inl h
    ·exact .inr (List.mem_cons_of_mem _ h)
  ·split at h
   ·rcases List.mem_cons.1 h with h|h
    ·exact .inl h
    ·exact .inr (List.mem_cons_of_mem _ h)
   ·rcases List.mem_cons.1 h with h|h
    ·exact .inl h
    ·exact .inr h
theorem del_sub (l:List Et)(k:List UInt8):(delE13 l k).Sublist l:=by
 induction l with
 | nil=>exact List.Sublist.refl _
 | cons e l ih =>
  rw [del_cons]
  split
  ·exact ih.cons_cons e
  ·split
   ·exact List.sublist_cons_self e l
   ·exact List.Sublist.refl _
theorem SrtE.put {l:List Et}(h:SrtE l)(k v:List UInt8):SrtE (putE13 l k v):=by
 induction l with
 | nil=>exact List.pairwise_singleton _ _
 | cons e l ih =>
  obtain ⟨h1,h2⟩:=List.pairwise_cons.1 h
  rw [put_cons]
  split
  ·rename_i hlt
   refine List.pairwise_cons.2 ⟨fun x hx=>?_,ih h2⟩
   rcases mem_put hx with h3|h3
   ·rw [h3];exact hlt
   ·exact h1 x h3
  ·rename_i hlt
   split
   ·rename_i he
    exact List.pairwise_cons.2 ⟨fun x hx=>by show Op.bytesLess k x.k=true;rw [←he];exact h1 x hx,h2⟩
   ·rename_i he
    have hk:Op.bytesLess k e.k=true:=by
     rcases lt_tot e.k k with h3|h3|h3
     ·exact absurd h3 hlt
     ·exact absurd h3 he
     ·exact h3
    refine List.pairwise_cons.2 ⟨fun x hx=>?_,h⟩
    rcases List.mem_cons.1 hx with h3|h3
    ·rw [h3];exact hk
    ·exact lt_tr _ _ _ hk (h1 x h3)
theorem SrtE.del {l:List Et}(h:SrtE l)(k:List UInt8):SrtE (delE13 l k):=h.sublist (del_sub l k)
theorem put_ne (l:List Et)(k v:List UInt8):putE13 l k v≠[]:=by
 cases l with
 | nil=>rw [put_nil];exact List.cons_ne_nil _ _
 | cons e l=>rw [put_cons];split<;>(try split)<;>exact List.cons_ne_nil _ _
def szE (e:Et):Nat:=2+e.k.length+e.v.length
def szL:List Et→Nat
 | []=>0
 | e::l=>szE e+szL l
theorem szL_append (a b:List Et):szL (a++b)=szL a+szL b:=by
 induction a with
 | nil=>rw [List.nil_append,szL];omega
 | cons e a ih=>rw [List.cons_append,szL,szL,ih];omega
theorem szL_put (l:List Et)(k v:List UInt8):szL (putE13 l k v)≤szL l+szE ⟨k,v⟩:=by
 induction l with
 | nil=>rw [put_nil];simp [szL]
 | cons e l ih =>
  rw [put_cons]
  split
  ·rw [szL,szL];omega
  ·split
   ·rw [szL,szL];omega
   ·rw [szL,szL];omega
theorem szL_del (l:List Et)(k:List UInt8):szL (delE13 l k)≤szL l:=by
 induction l with
 | nil=>exact Nat.le_refl _
 | cons e l ih =>
  rw [del_cons]
  split
  ·rw [szL,szL];omega
  ·split
   ·rw [szL];omega
   ·exact Nat.le_refl _
theorem szL_len {l:List Et}(h:∀ e∈l,1≤e.k.length):3 * l.length≤szL l:=by
 induction l with
 | nil=>exact Nat.le_refl _
 | cons e l ih =>
  have h1:=ih (fun x hx=>h x (List.mem_cons_of_mem _ hx))
  have h2:=h e List.mem_cons_self
  rw [szL,List.length_cons]
  unfold szE
  omega
theorem del_len (l:List Et)(k:List UInt8)(h:hasE13 l k=true):(delE13 l k).length+1=l.length:=by
 induction l with
 | nil=>cases h
 | cons e l ih =>
  rw [has_cons] at h
  rw [del_cons]
  split
  ·rename_i h2
   rw [if_pos h2] at h
   rw [List.length_cons,List.length_cons,ih h]
  ·rename_i h2
   rw [if_neg h2] at h
   rw [if_pos (by simpa using h),List.length_cons]
theorem del_no (l:List Et)(k:List UInt8)(h:hasE13 l k=false):delE13 l k=l:=by
 induction l with
 | nil=>rfl
 | cons e l ih =>
  rw [has_cons] at h
  rw [del_cons]
  split
  ·rename_i h2
   rw [if_pos h2] at h
   rw [ih h]
  ·rename_i h2
   rw [if_neg h2] at h
   rw [if_neg (by simpa using h)]
theorem put_len (l:List Et)(k v:List UInt8):(putE13 l k v).length≤l.length+1:=by
 induction l with
 | nil=>exact Nat.le_refl _
 | cons e l ih =>
  rw [put_cons]
  split
  ·rw [List.length_cons,List.length_cons];omega
  ·split
   ·rw [List.length_cons,List.length_cons];omega
   ·simp only [List.length_cons];omega
theorem results_cell1 {P:Program}{fn:Func}{p:Tmp}{ty:TypeId}(h:fn.results=#[.cell p ty])(tmps:Array Value)(w:World)(g:Nat)(x:Value)
  (hp:tmps.getD p undef=.pointer (some ⟨g,0,none⟩)) (hl:(loadVar ty ⟨g,0,none⟩).run P w=.ok x w):(results fn tmps).run P w=.ok x w:=by
 have q1:tmps[p]?.getD undef=.pointer (some ⟨g,0,none⟩):=by simpa using hp
 simp only [results,h]
 simp [q1,asAddr,hl]
theorem results_cellrow {P:Program}{fn:Func}{p:Tmp}{ty:TypeId}(h:fn.results=#[.cell p ty])(tmps:Array Value)(w:World)(g:Nat)(t:TypeId)(cs:Array Value)(fr:Nat × Nat)(d:TypeDesc)
  (hp:tmps.getD p undef=.pointer (some ⟨g,0,none⟩)) (hg:w.heap[g]?=some (.cells cs t fr))
  (hu:P.underlying ty=some d) (hd:(match d with | .struct _ | .array _ _=>true|_=>false)=true) (hi:(P.info? ty).map (·.size)=some cs.size):
  (results fn tmps).run P w=.ok (.agg cs) w:=results_cell1 h tmps w g _ hp (run_loadVar_row w g t ty cs fr d hg hu hd hi)
theorem results_cellrow_tmp {P:Program}{fn:Func}{p u:Tmp}{ty:TypeId}(h:fn.results=#[.cell p ty,.tmp u])(tmps:Array Value)(w:World)(g:Nat)(t:TypeId)(cs:Array Value)(fr:Nat × Nat)(d:TypeDesc)
  (hp:tmps.getD p undef=.pointer (some ⟨g,0,none⟩)) (hg:w.heap[g]?=some (.cells cs t fr))
  (hu:P.underlying ty=some d) (hd:(match d with | .struct _ | .array _ _=>true|_=>false)=true) (hi:(P.info? ty).map (·.size)=some cs.size):
  (results fn tmps).run P w=.ok (.tuple #[.agg cs,tmps.getD u undef]) w:=by
 rw [results_cell_tmp h,hp]
 simp [asAddr,Result.andThen,run_loadVar_row w g t ty cs fr d hg hu hd hi]
structure Rf where
 len:Int
 sum:List UInt8
 secs:List Int
def needL (n:Int):Int:=if n<1 then 0 else (n-1)/512+1
def secOk (l:List Int)(k:Nat):Prop:=∀ i,i<k→(51≤l.getD i 0∧l.getD i 0<4096)∧∀ x,x<i→l.getD x 0≠l.getD i 0
instance (l:List Int) (k:Nat):Decidable (secOk l k):=by unfold secOk;exact inferInstance
def headOk (r:Rf):Prop:=0≤r.len∧r.len≤6144∧r.sum.length=32∧(r.secs.length:Int)=needL r.len
instance (r:Rf):Decidable (headOk r):=by unfold headOk;exact inferInstance
def pad512 (k:List UInt8):List UInt8:=k.take 512++List.replicate (512-k.length) 0
theorem pad512_len (k:List UInt8):(pad512 k).length=512:=by unfold pad512;rw [List.length_append,List.length_take,List.length_replicate];omega
def roomOk (t:Tl)(j:Jl)(n:Nat):Prop:=n=0∨(n≤freeL (mapL t j) (j.p.n-51)∧(n:Int)≤48-(t.l.length:Int)-1)
instance (t:Tl) (j:Jl) (n:Nat):Decidable (roomOk t j n):=by unfold roomOk;exact inferInstance
def entB (e:Et):List UInt8:=UInt8.ofNat e.k.length::UInt8.ofNat e.v.length::(e.k++e.v)
def entsB:List Et→List UInt8
 | []=>[]
 | e::l=>entB e++entsB l
theorem entB_length (e:Et):(entB e).length=szE e:=by unfold entB szE;simp;omega
theorem entsB_length (l:List Et):(entsB l).length=szL l:=by
 induction l with
 | nil=>rfl
 | cons e l ih=>rw [entsB,List.length_append,entB_length,ih,szL]
theorem entsB_append (a b:List Et):entsB (a++b)=entsB a++entsB b:=by
 induction a with
 | nil=>rfl
 | cons e a ih=>rw [List.cons_append,entsB,entsB,ih,List.append_assoc]
def kidB (i:Nat):List UInt8:=[UInt8.ofNat (i/256),UInt8.ofNat (i%256)]
def kidsB:List Nat→List UInt8
 | []=>[]
 | i::l=>kidB i++kidsB l
theorem kidsB_length (l:List Nat):(kidsB l).length=2 * l.length:=by
 induction l with
 | nil=>rfl
 | cons e l ih=>rw [kidsB,List.length_append,ih,List.length_cons];unfold kidB;simp;omega
theorem kidsB_append (a b:List Nat):kidsB (a++b)=kidsB a++kidsB b:=by
 induction a with
 | nil=>rfl
 | cons e a ih=>rw [List.cons_append,kidsB,kidsB,ih,List.append_assoc]
structure Pg where
 lv:Nat
 es:List Et
 ks:List Nat
def parsE:Nat→List UInt8→Option (List Et × List UInt8)
 | 0,b=>some ([],b)
 | n+1,b =>
  if 2≤b.length∧2+(b.getD 0 0).toNat+(b.getD 1 0).toNat≤b.length then
   (parsE n (b.drop (2+(b.getD 0 0).toNat+(b.getD 1 0).toNat))).map fun x=>(⟨(b.drop 2).take (b.getD 0 0).toNat,(b.drop (2+(b.getD 0 0).toNat)).take (b.getD 1 0).toNat⟩::x.1,x.2)
  else none
def parsK:Nat→List UInt8→Option (List Nat × List UInt8)
 | 0,b=>some ([],b)
 | n+1,b =>
  if 2≤b.length then (parsK n (b.drop 2)).map fun x=>(((b.getD 0 0).toNat * 256+(b.getD 1 0).toNat):: x.1,x.2)
  else none
def zerosL (b:List UInt8):Bool:=b.all (· == 0)
def risE:List Et→Bool
 | []=>true
 | [_]=>true
 | a::b::l=>Op.bytesLess a.k b.k&&risE (b::l)
def rightE (l:List Et):Bool:=l.all (fun e=>itemOk e.k e.v)&&risE l&&decide (0<l.length)
def pgOf (b:List UInt8):Option Pg :=
 if 3≤b.length∧b.getD 0 0=116∧(b.getD 1 0).toNat≤11 then
  if (b.getD 1 0).toNat=0 then
   match parsE (b.getD 2 0).toNat (b.drop 3) with
   | some x=>if rightE x.1=true∧zerosL x.2=true then some ⟨0,x.1,[]⟩ else none
   | none=>none
  else
   match parsK (b.getD 2 0).toNat (b.drop 3) with
   | some x=>if 1<x.1.length∧zerosL x.2=true then some ⟨(b.getD 1 0).toNat,[],x.1⟩ else none
   | none=>none
 else none
def leafB (l:List Et):List UInt8:=pad512 (116::0::UInt8.ofNat l.length::entsB l)
def nodeB (ks:List Nat):List UInt8:=pad512 (116::1::UInt8.ofNat ks.length::kidsB ks)
structure LfOk (l:List Et):Prop where
 ne:l≠[]
 ok:∀ e∈l,itemOk e.k e.v=true
 srt:SrtE l
 sz:szL l≤509
theorem item_facts {e:Et}(h:itemOk e.k e.v=true):1≤e.k.length∧e.k.length≤100∧e.k.length+e.v.length≤240:=by
 unfold itemOk keyOk at h
 simp only [Bool.and_eq_true,decide_eq_true_eq] at h
 omega
theorem szE_le {e:Et}(h:itemOk e.k e.v=true):szE e≤242:=by have:=item_facts h;unfold szE;omega
theorem ris_of {l:List Et}(h:SrtE l):risE l=true:=by
 induction l with
 | nil=>rfl
 | cons a l ih =>
  cases l with
  | nil=>rfl
  | cons b l =>
   obtain ⟨h1,h2⟩:=List.pairwise_cons.1 h
   rw [risE,h1 b List.mem_cons_self,ih h2];rfl
theorem LfOk.len {l:List Et}(h:LfOk l):l.length≤169:=by
 have:=szL_len (fun e he=>(item_facts (h.ok e he)).1)
 have:=h.sz
 omega
theorem u8_of {n:Nat}(h:n<256):(UInt8.ofNat n).toNat=n:=by simp;omega
theorem pad_eq {b:List UInt8}(h:b.length≤512):pad512 b=b++List.replicate (512-b.length) 0:=by unfold pad512;rw [List.take_of_length_le h]
theorem zeros_rep (n:Nat):zerosL (List.replicate n 0)=true:=by unfold zerosL;simp
theorem parsE_ents (l:List Et)(hl:∀ e∈l,itemOk e.k e.v=true)(r:List UInt8):parsE l.length (entsB l++r)=some (l,r):=by
 induction l with
 | nil=>rfl
 | cons e l ih =>
  have hf:=item_facts (hl e List.mem_cons_self)
  have e1:(UInt8.ofNat e.k.length).toNat=e.k.length:=u8_of (by omega)
  have e2:(UInt8.ofNat e.v.length).toNat=e.v.length:=u8_of (by omega)
  have hb:entsB (e::l)++r=UInt8.ofNat e.k.length::UInt8.ofNat e.v.length::(e.k++(e.v++(entsB l++r))):=by
   rw [entsB];unfold entB;simp
  rw [List.length_cons,parsE,hb]
  simp only [List.getD_cons_zero,List.getD_cons_succ,e1,e2]
  have hlen:(UInt8.ofNat e.k.length::UInt8.ofNat e.v.length::(e.k++(e.v++(entsB l++r)))).length=2+e.k.length+e.v.length+(entsB l++r).length:=by simp;omega
  rw [if_pos (by rw [hlen];omega)]
  have d1:(UInt8.ofNat e.k.length::UInt8.ofNat e.v.length::(e.k++(e.v++(entsB l++r)))).drop (2+e.k.length+e.v.length)=entsB l++r:=by
   rw [show 2+e.k.length+e.v.length=(e.k.length+e.v.length)+1+1 by omega,List.drop_succ_cons,List.drop_succ_cons,←List.append_assoc,List.drop_left' (by simp)]
  have d2:(UInt8.ofNat e.k.length::UInt8.ofNat e.v.length::(e.k++(e.v++(entsB l++r)))).drop 2=e.k++(e.v++(entsB l++r)):=rfl
  have d3:(UInt8.ofNat e.k.length::UInt8.ofNat e.v.length::(e.k++(e.v++(entsB l++r)))).drop (2+e.k.length)=e.v++(entsB l++r):=by
   rw [show 2+e.k.length=e.k.length+1+1 by omega,List.drop_succ_cons,List.drop_succ_cons,List.drop_left' rfl]
  rw [d1,d2,d3,ih (fun x hx=>hl x (List.mem_cons_of_mem _ hx)),List.take_left' rfl,List.take_left' rfl]
  rfl
theorem parsK_kids (l:List Nat)(hl:∀ i∈l,i<65536)(r:List UInt8):parsK l.length (kidsB l++r)=some (l,r):=by
 induction l with
 | nil=>rfl
 | cons i l ih =>
  have hi:=hl i List.mem_cons_self
  have e1:(UInt8.ofNat (i/256)).toNat=i/256:=u8_of (by omega)
  have e2:(UInt8.ofNat (i%256)).toNat=i%256:=u8_of (by omega)
  have hb:kidsB (i::l)++r=UInt8.ofNat (i/256):: UInt8.ofNat (i%256):: (kidsB l++r):=by rw [kidsB];unfold kidB;simp
  rw [List.length_cons,parsK,hb]
  simp only [List.getD_cons_zero,List.getD_cons_succ,e1,e2]
  rw [if_pos (by simp)]
  rw [show (UInt8.ofNat (i/256):: UInt8.ofNat (i%256):: (kidsB l++r)).drop 2=kidsB l++r from rfl,ih (fun x hx=>hl x (List.mem_cons_of_mem _ hx))]
  simp only [Option.map_some,Option.some.injEq,Prod.mk.injEq,List.cons.injEq,and_true]
  omega
theorem pg_leaf {l:List Et}(h:LfOk l):pgOf (leafB l)=some ⟨0,l,[]⟩:=by
 have hl:=h.len
 have hs:=h.sz
 have hn:0<l.length:=List.length_pos_iff.2 h.ne
 have e3:(UInt8.ofNat l.length).toNat=l.length:=u8_of (by omega)
 have hr:rightE l=true:=by
  unfold rightE
  rw [ris_of h.srt,List.all_eq_true.2 h.ok,decide_eq_true hn]
  rfl
 have hB:leafB l=116::0::UInt8.ofNat l.length::(entsB l++List.replicate (509-szL l) 0):=by
  unfold leafB
  rw [pad_eq (by simp only [List.length_cons];rw [entsB_length];omega)]
  simp only [List.length_cons,entsB_length,List.cons_append]
  rw [show 512-(szL l+1+1+1)=509-szL l by omega]
 unfold pgOf
 rw [hB]
 simp only [List.getD_cons_zero,List.getD_cons_succ,List.length_cons,e3]
 rw [if_pos ⟨by omega,trivial,by decide⟩,if_pos (by decide)]
 rw [show (116::0::UInt8.ofNat l.length::(entsB l++List.replicate (509-szL l) 0)).drop 3=entsB l++List.replicate (509-szL l) 0 from rfl,parsE_ents l h.ok]
 simp only
 rw [if_pos ⟨hr,zeros_rep _⟩]
theorem pg_node {ks:List Nat}(h1:1<ks.length)(h2:ks.length≤254)(h3:∀ i∈ks,i<65536):pgOf (nodeB ks)=some ⟨1,[],ks⟩:=by
 have e3:(UInt8.ofNat ks.length).toNat=ks.length:=u8_of (by omega)
 have hB:nodeB ks=116::1::UInt8.ofNat ks.length::(kidsB ks++List.replicate (509-2 * ks.length) 0):=by
  unfold nodeB
  rw [pad_eq (by simp only [List.length_cons];rw [kidsB_length];omega)]
  simp only [List.length_cons,kidsB_length,List.cons_append]
  rw [show 512-(2 * ks.length+1+1+1)=509-2 * ks.length by omega]
 unfold pgOf
 rw [hB]
 simp only [List.getD_cons_zero,List.getD_cons_succ,List.length_cons,e3]
 rw [if_pos ⟨by omega,trivial,by decide⟩,if_neg (by decide)]
 rw [show (116::1::UInt8.ofNat ks.length::(kidsB ks++List.replicate (509-2 * ks.length) 0)).drop 3=kidsB ks++List.replicate (509-2 * ks.length) 0 from rfl,parsK_kids ks h3]
 simp only
 rw [if_pos ⟨h1,zeros_rep _⟩]
 rfl
structure CutOk (l:List Et)(c:Nat):Prop where
 c0:0<c
 c1:c<l.length
 lo:szL (l.take c)≤509
 hi:szL (l.drop c)≤509
def offC (l:List Et)(c:Nat):Nat:=max (2 * szL (l.take c)-szL l) (szL l-2 * szL (l.take c))
theorem szL_cut (l:List Et)(c:Nat):szL (l.take c)+szL (l.drop c)=szL l:=by rw [←szL_append,List.take_append_drop]
theorem szL_take_succ {l:List Et}{c:Nat}(h:c<l.length):szL (l.take (c+1))=szL (l.take c)+szE (l.getD c et0):=by
 rw [List.take_succ_eq_append_getElem h,szL_append,szL,szL]
 simp [h]
theorem cut_some {l:List Et}(hl:∀ e∈l,szE e≤242)(h0:509<szL l):∃ c,0<c∧c<l.length∧offC l c≤242:=by
 have hm:∀ i,i<l.length→szE (l.getD i et0)≤242:=fun i hi=>by
  have:l.getD i et0=l[i]:=by simp [hi]
  rw [this];exact hl _ (List.getElem_mem hi)
 have hex:∃ c,szL l≤2 * szL (l.take c)∧c≤l.length∧∀ c',c'<c→2 * szL (l.take c')<szL l:=by
  have:∀ n,n≤l.length→(∀ c',c'≤n→2 * szL (l.take c')<szL l)∨∃ c,szL l≤2 * szL (l.take c)∧c≤l.length∧∀ c',c'<c→2 * szL (l.take c')<szL l:=by
   intro n
   induction n with
   | zero=>intro _;exact .inl (fun c' hc=>by rw [Nat.le_zero.1 hc];simp [szL];omega)
   | succ n ih =>
    intro hn
    rcases ih (by omega) with h|h
    ·by_cases h2:szL l≤2 * szL (l.take (n+1))
     ·exact .inr ⟨n+1,h2,hn,fun c' hc=>h c' (by omega)⟩
     ·exact .inl (fun c' hc=>by
       by_cases h3:c'=n+1
       ·rw [h3];omega
       ·exact h c' (by omega))
    ·exact .inr h
  rcases this l.length (Nat.le_refl _) with h|h
  ·have:=h l.length (Nat.le_refl _);rw [List.take_length] at this;omega
  ·exact h
 obtain ⟨c,h1,h2,h3⟩:=hex
 have hc0:0<c:=by
  rcases Nat.eq_zero_or_pos c with h|h
  ·rw [h] at h1;simp [szL] at h1;omega
  ·exact h
 obtain ⟨d,rfl⟩:∃ d,c=d+1:=⟨c-1,by omega⟩
 have hs:=szL_take_succ (l:=l) (c:=d) (by omega)
 have hd:=h3 d (by omega)
 have hz:=hm d (by omega)
 have hd0:0<d:=by
  rcases Nat.eq_zero_or_pos d with h|h
  ·rw [h] at hs hd h1 hz;simp only [List.take_zero,szL] at hs;omega
  ·exact h
 by_cases hA:2 * szL (l.take (d+1))-szL l≤242∧d+1<l.length
 ·exact ⟨d+1,hc0,hA.2,by unfold offC;omega⟩
 ·refine ⟨d,hd0,by omega,?_⟩
  unfold offC
  by_cases h4:d+1<l.length
  ·have:¬ 2 * szL (l.take (d+1))-szL l≤242:=fun h=>hA ⟨h,h4⟩
   omega
  ·have h5:d+1=l.length:=by omega
   rw [h5,List.take_length] at hs
   omega
theorem cut_ok {l:List Et}{c:Nat}(hl:∀ e∈l,szE e≤242)(h0:509<szL l)(h1:szL l≤760)(hc0:0<c)(hc1:c<l.length)(hbest:∀ c',0<c'→c'<l.length→offC l c≤offC l c'):CutOk l c:=by
 obtain ⟨d,d0,d1,d2⟩:=cut_some hl h0
 have h2:=hbest d d0 d1
 have h3:=szL_cut l c
 have h4:offC l c≤242:=Nat.le_trans h2 d2
 unfold offC at h4
 exact ⟨hc0,hc1,by omega,by omega⟩
def OwnN (w:World)(base:Nat)(v:Value)(l:List Eq3):Prop:=w.ownsRow base 64 2 v l.length (ets l)
theorem OwnN.nil (w:World)(base:Nat):OwnN w base (.slice none 0 0) []:=World.ownsRow_nil _ _ _ _
theorem OwnN.on {w w':World}{base:Nat}{v:Value}{l:List Eq3}(h:OwnN w base v l)(hb:Below w.heap.size w w'):OwnN w' base v l:=own_keepO (us:=[64]) (KeepO.of_below hb) h (by decide)
theorem OwnN.form {w:World}{base:Nat}{v:Value}{l:List Eq3}(h:OwnN w base v l):∃ a cap,v=.slice a l.length cap∧l.length≤cap∧(a=none∨∃ g,a=some ⟨g,0,none⟩) ∧
  (0<l.length→∃ g,a=some ⟨g,0,none⟩∧base≤g∧g<w.heap.size∧∀ k (hk:k<l.length),∀ j,j<2→w.cell? ⟨g,k * 2+j,none⟩=(etc2 (l[k]).1 (l[k]).2)[j]?):=by
 obtain ⟨h1,h2⟩:=h
 rcases h2 with ⟨rfl,h0⟩|⟨g,cap,cur,rfl,hb,hg,hle,hmax,hsz,htk⟩
 ·have:l=[]:=List.eq_nil_of_length_eq_zero h0
  subst this
  exact ⟨none,0,rfl,Nat.le_refl _,.inl rfl,fun h=>absurd h (Nat.lt_irrefl 0)⟩
 ·refine ⟨_,cap,rfl,hle,.inr ⟨g,rfl⟩,fun hp=>⟨g,rfl,hb,(Array.getElem?_eq_some_iff.1 hg).1,fun k hk j hj=>?_⟩⟩
  have hown:w.ownsRow base 64 2 (.slice (some ⟨g,0,none⟩) l.length cap) l.length (ets l):=⟨h1,.inr ⟨g,cap,cur,rfl,hb,hg,hle,hmax,hsz,htk⟩⟩
  rw [World.ownsRow.cellAt hown (k * 2+j) (by omega),ets_at l k j hk hj]
theorem OwnN.at_ {w:World}{base n cap:Nat}{a:Option Addr}{ls:List Eq3}(h:OwnN w base (.slice a n cap) ls)(k:Nat)(hk:k<ls.length):∃ g,a=some ⟨g,0,none⟩∧base≤g∧g<w.heap.size∧∀ j,j<2→w.cell? ⟨g,k * 2+j,none⟩=(etc2 (ls[k]).1 (ls[k]).2)[j]?:=by
 obtain ⟨a',c',e,_,_,hr⟩:=h.form
 injection e with e1 e2 e3
 obtain ⟨g,e4,h1,h2,h3⟩:=hr (by omega)
 exact ⟨g,e1.trans e4,h1,h2,fun j hj=>h3 k hk j hj⟩
theorem KeepT.grownN {w w':World}{base:Nat}{v:Value}{l:List Eq3}(ho:OwnN w base v l)(hg:w.grownBy w' v.ownBlock):KeepT [64] w w' :=
 ⟨hg.size,fun k o hk hno=>by
  refine (hg.block k (Array.getElem?_eq_some_iff.1 hk).1 (fun eb=>?_)).trans hk
  rcases ho.2 with ⟨rfl,_⟩|⟨g,cap,cur,rfl,_,hgb,_⟩
  ·simp [Value.ownBlock] at eb
  ·have hkg:k=g:=by simpa [Value.ownBlock] using eb
   subst hkg
   have:o=.cells cur 64 (0,0):=Option.some.inj (hk.symm.trans hgb)
   exact hno _ _ _ this (by decide)⟩
structure SrcN (w:World)(sa:Option Addr)(m c:Nat)(l:List Eq3):Prop where
 len:l.length=m
 nil:sa=none→m=0∧c=0
 cells:∀ ad,sa=some ad→∀ j u,(ets l)[j]?=some u→w.cell? (ad.add j)=some u
def cutN (a:Option Addr)(cap k:Nat):Option Addr:=if cap=k then a else a.map (·.add (k * 2))
theorem OwnN.src {w:World}{base:Nat}{a:Option Addr}{n cap:Nat}{ls:List Eq3}(h:OwnN w base (.slice a n cap) ls)(hn:n=ls.length)(k:Nat)(hk:k≤n):
  SrcN w a k cap (ls.take k)∧SrcN w (cutN a cap k) (n-k) (cap-k) (ls.drop k):=by
 subst hn
 rcases h.2 with ⟨h1,h2⟩|⟨g,cap',cur,h3,h4,h5,hle,h7⟩
 ·injection h1 with e1 e2 e3
  subst e1 e3
  have hk0:k=0:=by omega
  subst hk0
  have hl:ls=[]:=List.eq_nil_of_length_eq_zero e2
  subst hl
  exact ⟨⟨rfl,fun _=>⟨rfl,rfl⟩,fun ad e=>by cases e⟩,⟨rfl,fun _=>⟨rfl,rfl⟩,fun ad e=>by cases e⟩⟩
 ·injection h3 with e1 e2 e3
  subst e1 e3
  refine ⟨⟨by rw [List.length_take];omega,(fun e=>by cases e),fun ad e j u hu=>?_⟩,⟨by rw [List.length_drop],fun e=>?_,fun ad e j u hu=>?_⟩⟩
  ·obtain rfl:=Option.some.inj e
   rw [ets_take] at hu
   have hj:j<k * 2:=by
    have:=(List.getElem?_eq_some_iff.1 hu).1
    rw [List.length_take] at this;omega
   rw [List.getElem?_take_of_lt hj] at hu
   exact World.ownsRow.cells h (g:=g) rfl j u hu
  ·unfold cutN at e
   split at e
   ·cases e
   ·cases e
  ·rw [ets_drop,List.getElem?_drop] at hu
   unfold cutN at e
   split at e
   ·rename_i hc
    have:=(List.getElem?_eq_some_iff.1 hu).1
    rw [ets_length] at this
    omega
   ·have e2:=Option.some.inj e
    rw [←e2]
    show w.cell? (((⟨g,0,none⟩:Addr).add (k * 2)).add j)=some u
    rw [Addr.add_lit,Addr.add_lit]
    have:=World.ownsRow.cells h (g:=g) rfl (k * 2+j) u hu
    rw [Addr.add_lit] at this
    rw [show 0+k * 2+j=0+(k * 2+j) by omega]
    exact this
theorem infoN:(Tryz.prog.info? 64).map (fun i=>(i.zero,i.size,i.bytes))=some (some etZ,2,48):=by kernel_rfl
theorem step_appNs {ops:Array Oper}{o:Oper}{a:Act}{K:Act→World→Prop}{Q:Exit→Act→World→Prop}{E:Prop}(w:World)(hgd:o.guard=none)(s x:Operand)
  (ho:o.op=.call { callee:=.builtin .append,args:=#[s,x],argTypes:=#[50,50] }) (base:Nat)
  (v:Value) (l:List Eq3) (hs:a.eval s=v) (hown:OwnN w base v l) (sa:Option Addr) (m c:Nat) (news:List Eq3) (hx:a.eval x=.slice sa m c) (hsrc:SrcN w sa m c news)
  (hbytes:l.length+m≤8192) (hbase:base≤w.heap.size) (d:Tmp) (hd:o.dst=some d)
  (h:∀ v' w',OwnN w' base v' (l++news)→w.grownBy w' v.ownBlock→K (a.put (some d) v') w'):
  if Region.wanted o (yielded ops a.tmps)=true then Oper.wp Tryz.prog o a w K Q else E:=by
 have hw:Region.wanted o (yielded ops a.tmps)=true:=by simp [Region.wanted,hgd]
 rw [if_pos hw]
 obtain ⟨i0,hi,hz0,hz1,hz2⟩:=info_parts infoN
 cases sa with
 | none =>
  obtain ⟨hm,hc⟩:=hsrc.nil rfl
  have hn:news=[]:=List.eq_nil_of_length_eq_zero (by rw [hsrc.len,hm])
  subst hn hm hc
  have hrun:=run_append_owned_none (P:=Tryz.prog) (w:=w) base 50 o.type 64 i0 2 Tryz.underlying50 hi v l.length (ets l) hown
  rw [←hd] at h
  unfold Oper.wp
  simp [execOp,ho,resolve,invoke,builtin,hs,hx,hrun,Result.andThen]
  exact h v w (by rw [List.append_nil];exact hown) (World.grownBy.refl _ _)
 | some ad =>
  refine wp_append_own w s x 50 ho base 64 i0 etZ 2 48 Tryz.underlying50 hi hz0 hz1 hz2 rfl (by omega) v l.length (ets l) hs hown ad m c (ets news) hx (by rw [ets_length,hsrc.len]) (hsrc.cells ad rfl) (ets_one news) (by unfold maxLen;omega) (by omega) hbase ?_
  intro v' w' h1 h2 _
  rw [hd]
  exact h v' w' (by unfold OwnN;rw [ets_append,List.length_append,hsrc.len];exact h1) h2
theorem slNh (a:Option Addr)(n cap k:Nat)(hk:k≤cap)(ha:a=none∨∃ g,a=some ⟨g,0,none⟩)(w:World):(Instr.slice 50 (.slice a n cap) none (some (.int .i64 (k:Int))) none).run Tryz.prog w=.ok (.slice a k cap) w:=by
 have he:Tryz.prog.elem 50=64:=by kernel_rfl
 have hz:(sizeOf 64).run Tryz.prog w=.ok 2 w:=by
  obtain ⟨i0,hi,hz0,hz1,hz2⟩:=info_parts infoN
  simp [sizeOf,typeInfo,hi,hz1]
 rw [run_slice_h w 50 _ n cap (by rw [he];exact Tryz.underlying50) .i64 (k:Int) (by omega) (by omega),he,hz]
 simp only [Result.andThen,sliced,Int.toNat_natCast,Nat.zero_mul,Nat.sub_zero]
 rcases ha with rfl|⟨g,rfl⟩
 ·split<;>rfl
 ·split<;>simp [Addr.add_lit]
theorem slNl (a:Option Addr)(n cap k:Nat)(hk:k≤n)(w:World):(Instr.slice 50 (.slice a n cap) (some (.int .i64 (k:Int))) none none).run Tryz.prog w=.ok (.slice (cutN a cap k) (n-k) (cap-k)) w:=by
 have he:Tryz.prog.elem 50=64:=by kernel_rfl
 have hz:(sizeOf 64).run Tryz.prog w=.ok 2 w:=by
  obtain ⟨i0,hi,hz0,hz1,hz2⟩:=info_parts infoN
  simp [sizeOf,typeInfo,hi,hz1]
 rw [run_slice_l w 50 _ n cap (by rw [he];exact Tryz.underlying50) .i64 (k:Int) (by omega) (by omega),he,hz]
 simp only [Result.andThen,sliced,Int.toNat_natCast,cutN]
abbrev UB:List TypeId:=[5,152]
def EtP (w:World)(e:Et)(q:EtA):Prop:=∀ W,KeepO UB w W→IsE W e q
theorem EtP.is {w:World}{e:Et}{q:EtA}(h:EtP w e q):IsE w e q:=h w (KeepO.refl _ _)
theorem EtP.keep {w w':World}{e:Et}{q:EtA}(h:EtP w e q)(hk:KeepO UB w w'):EtP w' e q:=fun W hW=>h W (hk.trans hW)
def EtQ (fl:Nat)(w:World)(e:Et)(q:EtA):Prop:=∀ W,KeepU fl UB w W→IsE W e q
theorem EtQ.is {fl:Nat}{w:World}{e:Et}{q:EtA}(h:EtQ fl w e q):IsE w e q:=h w (KeepU.refl _ _ _)
theorem EtQ.keep {fl:Nat}{w w':World}{e:Et}{q:EtA}(h:EtQ fl w e q)(hk:KeepU fl UB w w'):EtQ fl w' e q:=fun W hW=>h W (hk.trans hW)
theorem EtQ.below {fl:Nat}{w w':World}{e:Et}{q:EtA}(h:EtQ fl w e q)(hb:Below w.heap.size w w'):EtQ fl w' e q:=h.keep (KeepU.of_below hb)
theorem EtP.q {w:World}{e:Et}{q:EtA}(h:EtP w e q)(fl:Nat):EtQ fl w e q:=fun W hW=>h W hW.o
theorem EtQ.p {w:World}{e:Et}{q:EtA}(h:EtQ 0 w e q):EtP w e q:=fun W hW=>h W (KeepU.zero hW)
structure RdN (fl:Nat)(w:World)(v:Value)(L:List Eq3):Prop where
 form:∃ a cap,v=.slice a L.length cap∧L.length≤cap∧(0<L.length→∃ g off c fz,a=some ⟨g,off,none⟩∧w.heap[g]?=some (.cells c 64 fz)∧∀ i u,(ets L)[i]?=some u→w.cell? ⟨g,off+i,none⟩=some u)
 is:∀ x∈L,EtQ fl w x.1 x.2
abbrev UE:List TypeId:=[64,5,3,152]
theorem cell_same {w w':World}{g:Nat}(h:w'.heap[g]?=w.heap[g]?)(i:Nat):w'.cell? ⟨g,i,none⟩=w.cell? ⟨g,i,none⟩:=by
 unfold World.cell?
 simp only [h]
theorem RdN.keep {fl:Nat}{w w':World}{v:Value}{L:List Eq3}(h:RdN fl w v L)(hk:KeepU fl UE w w'):RdN fl w' v L:=by
 obtain ⟨a,cap,e,hc,hr⟩:=h.form
 refine ⟨⟨a,cap,e,hc,fun hp=>?_⟩,fun x hx=>(h.is x hx).keep (hk.less (by decide))⟩
 obtain ⟨g,off,c,fz,e2,hg,hcs⟩:=hr hp
 have h2:=hk.o.same g c _ fz hg (by decide)
 exact ⟨g,off,c,fz,e2,h2,fun i u hu=>(cell_same (h2.trans hg.symm) _).trans (hcs i u hu)⟩
theorem OwnN.rdq {fl:Nat}{w:World}{base:Nat}{v:Value}{L:List Eq3}(h:OwnN w base v L)(hi:∀ x∈L,EtQ fl w x.1 x.2):RdN fl w v L:=by
 refine ⟨?_,hi⟩
 rcases h.2 with ⟨rfl,h0⟩|⟨g,cap,cur,rfl,hb,hg,hle,hmax,hsz,htk⟩
 ·rw [h0]
  exact ⟨none,0,rfl,Nat.le_refl _,fun h=>absurd h (Nat.lt_irrefl 0)⟩
 ·exact ⟨_,cap,rfl,hle,fun hp=>⟨g,0,cur,_,rfl,hg,fun i u hu=>by have:=World.ownsRow.cells h (g:=g) rfl i u hu;rw [Addr.add_lit] at this;exact this⟩⟩
theorem OwnN.rd {w:World}{base:Nat}{v:Value}{L:List Eq3}(h:OwnN w base v L)(hi:∀ x∈L,EtP w x.1 x.2):RdN 0 w v L:=h.rdq fun x hx=>(hi x hx).q 0
theorem RdN.at_ {fl:Nat}{w:World}{a:Option Addr}{n cap:Nat}{L:List Eq3}(h:RdN fl w (.slice a n cap) L)(k:Nat)(x:Eq3)(hx:L[k]?=some x):n=L.length∧k<L.length∧∃ g off,a=some ⟨g,off,none⟩∧w.cell? ⟨g,off+k * 2,none⟩=some (.slice x.2.a x.1.k.length x.2.c)∧w.cell? ⟨g,off+k * 2+1,none⟩=some (.slice x.2.b x.1.v.length x.2.d)∧IsE w x.1 x.2:=by
 obtain ⟨hk,rfl⟩:=List.getElem?_eq_some_iff.1 hx
 obtain ⟨a',cap',e,hc,hr⟩:=h.form
 injection e with e1 e2 e3
 obtain ⟨g,off,c,fz,e4,hg,hcs⟩:=hr (by omega)
 have h0:=ets_at L k 0 hk (by omega)
 have h1:=ets_at L k 1 hk (by omega)
 exact ⟨e2,hk,g,off,e1.trans e4,hcs (k * 2+0) _ h0,hcs (k * 2+1) _ h1,(h.is _ (List.getElem_mem hk)).is⟩
end Go.Proofs.YtpecobmfabmpkaaGreatDoor
