/- RefSame Jr6 Jr7 Jr8 Jr9 JrD Js0 Js1 Pd1 Pd2 Pd3 Pd4 Pd5 Pd6 -/
import Derived.Test.YtpecobmfabmpkaaGreatDoorM2
import Derived.Great.BuildSlice
set_option maxRecDepth 20000
set_option maxHeartbeats 2000000
namespace Go.Proofs.YtpecobmfabmpkaaGreatDoor
section
open Go.RowKit
def eqB (l m:List UInt8):Bool:=l==m
def sameTo (x y:List UInt8)(k:Nat):Bool:=decide (∀i,i<k→nth x i=nth y i)
theorem sameTo_zero (x y:List UInt8):sameTo x y 0=true:=by simp[sameTo]
theorem sameTo_succ (x y:List UInt8)(k:Nat):sameTo x y (k+1)=(sameTo x y k&&decide (nth x k=nth y k)):=by
 unfold sameTo
 rw[Bool.eq_iff_iff]
 simp only[decide_eq_true_eq,Bool.and_eq_true]
 constructor
 ·intro h;exact⟨fun i hi=>h i (by omega),h k (by omega)⟩
 ·rintro⟨h1,h2⟩ i hi
  by_cases e:i=k
  ·subst e;exact h2
  ·exact h1 i (by omega)
theorem sameTo_whole (x y:List UInt8)(h:x.length=y.length):sameTo x y x.length=eqB x y:=by
 unfold sameTo eqB
 rw[Bool.eq_iff_iff]
 simp only[decide_eq_true_eq,beq_iff_eq]
 constructor
 ·intro hs
  apply List.ext_getElem h
  intro i h1 h2
  have:=hs i h1
  rwa [nth_eq x i h1,nth_eq y i h2] at this
 ·rintro rfl i _;rfl
theorem sameTo_no (x y:List UInt8)(k:Nat)(hf:nth x k≠nth y k):eqB x y=false:=by
 unfold eqB
 rw[beq_eq_false_iff_ne]
 rintro rfl;exact hf rfl
theorem eqB_len (x y:List UInt8)(h:x.length≠y.length):eqB x y=false:=by
 unfold eqB
 rw[beq_eq_false_iff_ne]
 rintro rfl;exact h rfl
theorem eqB_self (x:List UInt8):eqB x x=true:=by simp[eqB]
theorem ret_bool {a b:Bool}(h:a=b):Ending.returned (.bool a)=.returned (.bool b):=by rw[h]
theorem refSame (a0:Option Addr)(len0 cap0:Nat)(l:List UInt8)(a1:Option Addr)(len1 cap1:Nat)(m:List UInt8)(w:World)(w0:IsB w a0 len0 cap0 l)(w1:IsB w a1 len1 cap1 m):
  Calls Tryz.prog 21 #[.slice a0 len0 cap0,.slice a1 len1 cap1] w fun e w'=>e=.returned (.bool (eqB l m))∧∃n,w'=w.drewN n:=by
 have hl0:=w0.le
 have hl1:=w1.le
 have hm0:=w0.max
 have hm1:=w1.max
 have e0:Hid (l.length=len0):=w0.len_eq
 have e1:Hid (m.length=len1):=w1.len_eq
 have c0:Hid (IsB w a0 len0 cap0 l):=w0
 have c1:Hid (IsB w a1 len1 cap1 m):=w1
 clear w0 w1
 unfold maxLen at hm0 hm1
 by_cases hne:len0=len1
 ·subst hne
  go_enter Tryz.func21,Tryz.ntmps21
  go_wp2
  go_loopw [5] (fun i w'=>∃k n:Nat,k≤len0∧i=.int .i64 k∧Hid (sameTo l m k=true)∧w'=w.drewN n) (fun i _=>len0-(intOf i).toNat)
  case atStart=>exact⟨0,0,Nat.zero_le _,rfl,sameTo_zero _ _,rfl⟩
  case round =>
   obtain⟨k,n,hk,rfl,hs,rfl⟩:=hrel
   by_cases hlt:k<len0
   ·obtain⟨b0,o0,rfl,hc0⟩:=c0.out.cells (by omega)
    obtain⟨b1,o1,rfl,hc1⟩:=c1.out.cells (by omega)
    have g0:=hc0 k hlt
    have g1:=hc1 k hlt
    clear hc0 hc1
    have hlt':(k:Int)<(len0:Int):=by omega
    by_cases hq:nth l k=nth m k
    ·have hq':(((nth l k).toNat:Int) != ((nth m k).toNat:Int))=false:=by rw[hq];simp
     have Hq:Hid (nth l k=nth m k):=hq
     clear hq
     go_wp2
     go_quiet (fail)
     go_wp2
     go_roundw
     case rel=>exact⟨k+1,_,by omega,by go_num,by unfold Hid;rw[sameTo_succ,hs.out,Hq.out];simp,rfl⟩
     case measure=>simp[intOf];omega
    ·have hq':(((nth l k).toNat:Int) != ((nth m k).toNat:Int))=true:=by
      rw[bne_iff_ne];intro h;exact hq ((toNat8_inj _ _).1 h)
     have Hq:Hid (nth l k≠nth m k):=hq
     clear hq
     go_wp2
     go_quiet (fail)
     go_wp2
     go_ret
     exact⟨ret_bool (sameTo_no l m k Hq.out).symm,_,World.drewN_drewN _ _ _⟩
   ·go_wp2
    go_ret
    have:k=len0:=by omega
    subst this
    refine⟨ret_bool ?_,_,rfl⟩
    rw[←sameTo_whole l m (by rw[e0.out,e1.out]),e0.out];exact hs.out.symm
 ·have hne':((len0:Int) != (len1:Int))=true:=by rw[bne_iff_ne];omega
  go_enter Tryz.func21,Tryz.ntmps21
  go_wp2
  go_ret
  exact⟨ret_bool (eqB_len l m (by rw[e0.out,e1.out];exact hne)).symm,0,rfl⟩
theorem heldGo_len (p:Pl):∀(k i:Nat) (r:List UInt8) (bad:Bool) (l:Qs) (q:Qs × Bool),heldGo p k i r bad l=some q→q.1.length=l.length+k∧((∀g∈l,49≤g.1∧g.1<p.n)→∀g∈q.1,49≤g.1∧g.1<p.n)
 | 0,i,r,bad,l,q,h=>by
  rw[heldGo] at h
  rw[←Option.some.inj h]
  exact⟨rfl,fun h=>h⟩
 | k+1,i,r,bad,l,q,h=>by
  rw[heldGo] at h
  split at h
  ·cases h
  ·rename_i hn
   obtain⟨h1,h2⟩:=heldGo_len p k _ _ _ _ q h
   refine⟨by rw[h1,List.length_append,List.length_singleton];omega,fun hl=>h2 (fun g hg=>?_)⟩
   rcases List.mem_append.1 hg with hg|hg
   ·exact hl g hg
   ·rw[List.mem_singleton.1 hg]
    constructor
    ·exact Nat.le_of_not_lt fun e=>hn (.inr (.inl e))
    ·exact Nat.lt_of_not_le fun e=>hn (.inr (.inr e))
theorem rdList_le (l:List UInt8)(br:Bool):(rdList l br 48).1≤48:=by
 unfold rdList
 split
 ·rename_i h
  unfold okL at h
  rw[Bool.and_eq_true] at h
  have:=of_decide_eq_true h.2
  show numTo l 4≤48
  omega
 ·exact Nat.zero_le _
theorem heldJ_len {p:Pl}{s:Nat}{l:Qs}(h:heldJ p=some (s,l)):l.length≤48∧∀g∈l,49≤g.1∧g.1<p.n:=by
 unfold heldJ at h
 split at h
 ·cases h
 ·unfold heldB at h
  cases hq:heldGo p (hdN (p.rdB 0)).1 0 (hdN (p.rdB 0)).2.1 (hdN (p.rdB 0)).2.2 [] with
  | none=>rw[hq] at h;cases h
  | some q =>
   obtain⟨q,bad⟩:=q
   rw[hq,heldEnd] at h
   split at h
   ·cases h
   ·have e:=(Prod.mk.inj (Option.some.inj h)).2
    have h1:=heldGo_len p _ _ _ _ _ _ hq
    rw[←e]
    refine⟨?_,h1.2 (fun g hg=>by cases hg)⟩
    rw[h1.1]
    have:=rdList_le (hdSeq (p.rdB 0)).2.1 (hdSeq (p.rdB 0)).2.2
    show 0+(hdN (p.rdB 0)).1≤48
    unfold hdN
    omega
theorem KeepT.wide {ts us:List TypeId}{w w':World}(h:KeepT ts w w')(hs:∀t∈ts,t∈us):KeepT us w w':=⟨h.size,fun k o hk ho=>h.same k o hk (fun c t fz e ht=>ho c t fz e (hs t ht))⟩
def jrE (p:Pl)(i:Int):Int:=if areaI p.n i=false then 50 else p.rdE i
def jrB (p:Pl)(i:Int):List UInt8:=if areaI p.n i=false then [] else p.rdB i
def nxt (s:Nat):Nat:=(s+1)%18446744073709551616
def slotQ (l:Qs):Qs:=(List.range l.length).map fun i=>(1+i,(l.getD i (0,[])).2)
def cmA (t:Tl)(j:Jl):Pl × Int:=(stepsP j.p (slotQ t.l),stepsE j.p (slotQ t.l))
def cmB (t:Tl)(j:Jl):Pl × Int:=if (cmA t j).2=0 then (stepsP (cmA t j).1 [(0,sealJ (nxt j.seq) t.l)],stepsE (cmA t j).1 [(0,sealJ (nxt j.seq) t.l)]) else cmA t j
def cmC (t:Tl)(j:Jl):Pl × Int:=if (cmB t j).2=0 then (stepsP (cmB t j).1 t.l,stepsE (cmB t j).1 t.l) else cmB t j
def cmE (t:Tl)(j:Jl):Int:=if t.over=true∨j.dead=true then 51 else if t.l=[] then 0 else (cmC t j).2
def cmJ (t:Tl)(j:Jl):Jl :=
 if t.over=true∨j.dead=true then j else if t.l=[] then j else if (cmC t j).2=0 then ⟨(cmC t j).1,nxt j.seq,j.dead⟩ else ⟨(cmC t j).1,j.seq,true⟩
def cmT (t:Tl)(j:Jl):Tl:=if t.over=true∨j.dead=true then t else { t with over:=true }
abbrev CT:List TypeId:=[]
structure FewM (p:Pl)(m:Nat):Prop where
 n0:64≤p.n
 n:p.n≤4096
 ca:p.ca.length≤m
 at_:∀g∈p.ca,g.1<p.n∧g.2.length=512
 st:∀i,(p.st i).length=512
 wr:p.wr≤m
 fl:p.fl≤m
theorem FewM.few {p:Pl}{m:Nat}(h:FewM p m)(hm:m≤1000000):FewP p:=⟨h.n,Nat.le_trans h.ca hm,h.at_,Nat.le_trans h.wr hm,Nat.le_trans h.fl hm⟩
theorem FewM.more {p:Pl}{m k:Nat}(h:FewM p m)(hm:m≤k):FewM p k:=⟨h.n0,h.n,Nat.le_trans h.ca hm,h.at_,h.st,Nat.le_trans h.wr hm,Nat.le_trans h.fl hm⟩
theorem put512 (l:Qs):∀(st:Nat→List UInt8),(∀i,(st i).length=512)→(∀g∈l,g.2.length=512)→∀i,(l.foldl Pl.put st i).length=512:=by
 induction l with
 | nil=>intro st h _ i;exact h i
 | cons g l ih =>
  intro st h hl i
  rw[List.foldl_cons]
  refine ih _ (fun k=>?_) (fun x hx=>hl x (by simp[hx])) i
  unfold Pl.put
  split
  ·exact hl g (by simp)
  ·exact h k
theorem few_mnew (n:Nat)(h0:64≤n)(h1:n≤4096):FewM (Pl.new n) 0:=⟨h0,h1,Nat.le_refl _,fun g hg=>(by cases hg),fun i=>by show zero512.length=512;unfold zero512;rw[List.length_replicate],Nat.le_refl _,Nat.le_refl _⟩
theorem FewM.write {p:Pl}{m:Nat}(h:FewM p m)(i:Int)(b:List UInt8):FewM (p.write i b) (m+1):=by
 unfold Pl.write
 split
 ·exact h.more (by omega)
 split
 ·exact h.more (by omega)
 rename_i hi
 split
 ·exact h.more (by omega)
 rename_i hb
 split
 ·exact⟨h.n0,h.n,Nat.le_succ_of_le h.ca,h.at_,h.st,Nat.le_succ_of_le h.wr,Nat.le_succ_of_le h.fl⟩
 ·refine⟨h.n0,h.n,?_,fun g hg=>?_,h.st,Nat.succ_le_succ h.wr,Nat.le_succ_of_le h.fl⟩
  ·show (p.ca++[(i.toNat,b)]).length≤m+1
   have:=h.ca
   simp;omega
  ·rcases List.mem_append.1 hg with hg|hg
   ·exact h.at_ g hg
   ·rw[List.mem_singleton.1 hg]
    have hi2:inR p.n i=true:=by cases hq:inR p.n i with|true=>rfl|false=>exact absurd hq hi
    unfold inR at hi2
    have:=of_decide_eq_true hi2
    exact⟨by show i.toNat<p.n;omega,by by_cases hq:b.length=512;exact hq;exact absurd hq hb⟩
theorem FewM.flush {p:Pl}{m:Nat}(h:FewM p m):FewM p.flush (m+1):=by
 unfold Pl.flush
 split
 ·exact h.more (by omega)
 ·exact⟨h.n0,h.n,Nat.zero_le _,fun g hg=>(by cases hg),put512 _ _ h.st (fun g hg=>(h.at_ g hg).2),Nat.le_succ_of_le h.wr,Nat.succ_le_succ h.fl⟩
theorem write_n (p:Pl)(i:Int)(b:List UInt8):(p.write i b).n=p.n:=by
 unfold Pl.write;repeat' split
 all_goals rfl
theorem flush_n (p:Pl):p.flush.n=p.n:=by unfold Pl.flush;split<;>rfl
theorem steps_n:∀(l:Qs) (p:Pl),(stepsP p l).n=p.n:=by
 intro l
 induction l with
 | nil=>intro p;exact flush_n p
 | cons g l ih =>
  intro p
  rw[stepsP]
  split
  ·rw[ih,write_n]
  ·exact write_n _ _ _
theorem FewM.steps:∀(l:Qs) {p:Pl}{m:Nat},FewM p m→FewM (stepsP p l) (m+l.length+1):=by
 intro l
 induction l with
 | nil=>intro p m h;exact h.flush
 | cons g l ih =>
  intro p m h
  rw[stepsP]
  split
  ·exact(ih (h.write _ _)).more (by rw[List.length_cons];omega)
  ·exact(h.write _ _).more (by rw[List.length_cons];omega)
theorem slotQ_length (l:Qs):(slotQ l).length=l.length:=by simp[slotQ]
theorem FewM.cmA {p:Pl}{m:Nat}{t:Tl}{j:Jl}(hj:j.p=p)(h:FewM p m)(hl:t.l.length≤48):FewM (Go.Proofs.YtpecobmfabmpkaaGreatDoor.cmA t j).1 (m+49):=by
 unfold Go.Proofs.YtpecobmfabmpkaaGreatDoor.cmA
 rw[hj]
 exact(FewM.steps _ h).more (by rw[slotQ_length];omega)
theorem FewM.cmB {p:Pl}{m:Nat}{t:Tl}{j:Jl}(hj:j.p=p)(h:FewM p m)(hl:t.l.length≤48):FewM (Go.Proofs.YtpecobmfabmpkaaGreatDoor.cmB t j).1 (m+51):=by
 unfold Go.Proofs.YtpecobmfabmpkaaGreatDoor.cmB
 split
 ·exact(FewM.steps _ (h.cmA hj hl)).more (by rw[List.length_singleton];omega)
 ·exact(h.cmA hj hl).more (by omega)
theorem FewM.cmC {p:Pl}{m:Nat}{t:Tl}{j:Jl}(hj:j.p=p)(h:FewM p m)(hl:t.l.length≤48):FewM (Go.Proofs.YtpecobmfabmpkaaGreatDoor.cmC t j).1 (m+100):=by
 unfold Go.Proofs.YtpecobmfabmpkaaGreatDoor.cmC
 split
 ·exact(FewM.steps _ (h.cmB hj hl)).more (by omega)
 ·exact(h.cmB hj hl).more (by omega)
theorem FewM.commit {m:Nat}{t:Tl}{j:Jl}(h:FewM j.p m)(hl:t.l.length≤48):FewM (cmJ t j).p (m+100):=by
 unfold cmJ
 split
 ·exact h.more (by omega)
 split
 ·exact h.more (by omega)
 split
 ·exact h.cmC rfl hl
 ·exact h.cmC rfl hl
theorem putQ_len (l:Qs)(i:Nat)(b:List UInt8):(putQ l i b).length≤l.length+1∧(hitQ l i=true→(putQ l i b).length=l.length):=by
 induction l with
 | nil=>exact⟨Nat.le_refl _,fun h=>by cases h⟩
 | cons g l ih =>
  rw[putQ,hitQ]
  split
  ·exact⟨by simpa using ih.1,fun h=>by simpa using ih.2 h⟩
  ·split
   ·exact⟨by simp,fun _=>by simp⟩
   ·rename_i h1 h2
    exact⟨by simp,fun h=>absurd (by simpa using h) h2⟩
theorem tlWrite_len (t:Tl)(j:Jl)(i:Int)(b:List UInt8)(h:t.l.length≤48):(t.write j i b).l.length≤48:=by
 unfold Tl.write
 split
 ·rename_i hz
  unfold Tl.wrE at hz
  split at hz
  ·cases hz
  split at hz
  ·cases hz
  split at hz
  ·cases hz
  split at hz
  ·cases hz
  ·rename_i hf
   show (putQ t.l i.toNat b).length≤48
   have:=putQ_len t.l i.toNat b
   cases hq:hitQ t.l i.toNat with
   | true=>rw[this.2 hq];exact h
   | false =>
    have hlt:¬48≤t.l.length:=fun e=>hf ⟨hq,e⟩
    have:=this.1
    omega
 ·exact h
theorem tlWrite_over (t:Tl)(j:Jl)(i:Int)(b:List UInt8):(t.write j i b).over=t.over:=by unfold Tl.write;split<;>rfl
theorem steps_ok:∀(l:Qs) (p:Pl),p.off=false→p.arm=none→(∀g∈l,g.1<p.n∧g.2.length=512) →
  stepsE p l=0∧stepsP p l=⟨p.n,(p.ca++l).foldl Pl.put p.st,[],false,none,p.wr+l.length,p.fl+1⟩:=by
 intro l
 induction l with
 | nil =>
  intro p h0 h1 _
  obtain⟨n,st,ca,off,arm,wr,fl⟩:=p
  dsimp only at h0 h1
  subst h0 h1
  refine⟨rfl,?_⟩
  rw[stepsP,Pl.flush]
  simp
 | cons g l ih =>
  intro p h0 h1 hg
  have hg0:=hg g (by simp)
  have hin:inR p.n (g.1:Int)=true:=by unfold inR;exact decide_eq_true ⟨by omega,by omega⟩
  have hw:p.wrE (g.1:Int) g.2=0:=by unfold Pl.wrE;rw[h0,hin,h1];simp[hg0.2]
  have hp:p.write (g.1:Int) g.2={ p with arm:=none,wr:=p.wr+1,ca:=p.ca++[g] }:=by
   unfold Pl.write;rw[h0,hin,h1];simp[hg0.2]
  obtain⟨h2,h3⟩:=ih { p with arm:=none,wr:=p.wr+1,ca:=p.ca++[g] } h0 rfl (fun x hx=>hg x (by simp[hx]))
  rw[stepsE,stepsP,if_pos hw,if_pos hw,hp]
  refine⟨h2,h3.trans ?_⟩
  simp[Nat.add_assoc,Nat.add_comm 1]
theorem rdUint_lt (l:List UInt8)(br:Bool):(rdUint l br).1<18446744073709551616:=by
 unfold rdUint
 split
 ·exact numTo_lt64 l 8 (Nat.le_refl _)
 ·show 0<_;omega
theorem inR_nat {n i:Nat}(h:i<n):inR n (i:Int)=true:=by unfold inR;exact decide_eq_true ⟨by omega,by omega⟩
theorem FewM.rd512 {p:Pl}{m:Nat}(h:FewM p m)(hoff:p.off=false){i:Nat}(hi:i<p.n):(p.rdB (i:Int)).length=512:=by
 unfold Pl.rdB
 rw[hoff,inR_nat hi]
 exact put512 _ _ h.st (fun g hg=>(h.at_ g hg).2) _
theorem heldGo_512 (p:Pl)(m:Nat)(hp:FewM p m)(hoff:p.off=false):∀(k i:Nat) (r:List UInt8) (bad:Bool) (l:Qs) (q:Qs × Bool),k+i≤48→heldGo p k i r bad l=some q→(∀g∈l,g.2.length=512)→∀g∈q.1,g.2.length=512
 | 0,i,r,bad,l,q,_,h,hl=>by
  rw[heldGo] at h
  rw[←Option.some.inj h]
  exact hl
 | k+1,i,r,bad,l,q,hk,h,hl=>by
  rw[heldGo] at h
  split at h
  ·cases h
  ·refine heldGo_512 p m hp hoff k (i+1) _ _ _ q (by omega) h (fun g hg=>?_)
   rcases List.mem_append.1 hg with hg|hg
   ·exact hl g hg
   ·rw[List.mem_singleton.1 hg]
    exact hp.rd512 hoff (by have:=hp.n0;omega)
theorem heldJ_512 {p:Pl}{m s:Nat}{l:Qs}(hp:FewM p m)(hoff:p.off=false)(h:heldJ p=some (s,l)):(∀g∈l,g.2.length=512)∧s<18446744073709551616:=by
 unfold heldJ at h
 split at h
 ·cases h
 ·unfold heldB at h
  cases hq:heldGo p (hdN (p.rdB 0)).1 0 (hdN (p.rdB 0)).2.1 (hdN (p.rdB 0)).2.2 [] with
  | none=>rw[hq] at h;cases h
  | some q =>
   obtain⟨q,bad⟩:=q
   rw[hq,heldEnd] at h
   split at h
   ·cases h
   ·have e:=Prod.mk.inj (Option.some.inj h)
    have hle:=rdList_le (hdSeq (p.rdB 0)).2.1 (hdSeq (p.rdB 0)).2.2
    rw[←e.1,←e.2]
    exact⟨heldGo_512 p m hp hoff _ _ _ _ _ _ (by unfold hdN;omega) hq (fun g hg=>by cases hg),rdUint_lt _ _⟩
theorem mountS_lt {p:Pl}:mountS p<18446744073709551616:=by
 unfold mountS
 split
 ·omega
 ·rename_i s l h
  unfold heldJ at h
  split at h
  ·cases h
  ·unfold heldB at h
   cases hq:heldGo p (hdN (p.rdB 0)).1 0 (hdN (p.rdB 0)).2.1 (hdN (p.rdB 0)).2.2 [] with
   | none=>rw[hq] at h;cases h
   | some q =>
    rw[hq,heldEnd] at h
    split at h
    ·cases h
    ·rw[←(Prod.mk.inj (Option.some.inj h)).1];exact rdUint_lt _ _
theorem rdE_zero {p:Pl}{m:Nat}(hp:FewM p m)(hoff:p.off=false):p.rdE 0=0:=by
 unfold Pl.rdE Pl.stE
 have:=hp.n0
 have e:inR p.n 0=true:=by unfold inR;exact decide_eq_true ⟨by omega,by omega⟩
 rw[hoff,e];rfl
structure Good (p:Pl):Prop where
 off:p.off=false
 arm:p.arm=none
theorem mount_good {p:Pl}{m:Nat}(hp:FewM p m)(hg:Good p):mountE p=0∧Good (mountP p)∧(heldJ p=none∧mountP p=p∨∃s l,heldJ p=some (s,l)∧mountP p=⟨p.n,(p.ca++l).foldl Pl.put p.st,[],false,none,p.wr+l.length,p.fl+1⟩):=by
 have h0:=rdE_zero hp hg.off
 unfold mountE mountP
 rw[if_neg (by simp[h0]),if_neg (by simp[h0])]
 cases hh:heldJ p with
 | none=>exact⟨rfl,hg,.inl ⟨rfl,rfl⟩⟩
 | some q =>
  obtain⟨s,l⟩:=q
  have h1:=heldJ_len hh
  have h2:=heldJ_512 hp hg.off hh
  obtain⟨h3,h4⟩:=steps_ok l p hg.off hg.arm (fun g hgl=>⟨(h1.2 g hgl).2,h2.1 g hgl⟩)
  refine⟨h3,?_,.inr ⟨s,l,rfl,h4⟩⟩
  show Good (stepsP p l)
  rw[h4]
  exact⟨rfl,rfl⟩
theorem good_new (n:Nat):Good (Pl.new n):=⟨rfl,rfl⟩
theorem held_new (n:Nat):heldJ (Pl.new n)=none:=by
 unfold heldJ
 split
 ·rfl
 ·rename_i h0
  have hin:inR n 0=true:=by
   cases hq:inR n 0 with
   | true=>rfl
   | false=>exact absurd (by unfold Pl.rdE Pl.stE;simp[Pl.new,hq]) h0
  have hb:(Pl.new n).rdB 0=zero512:=by unfold Pl.rdB;simp[Pl.new,hin]
  rw[hb]
  unfold heldB
  have e1:hdName zero512=([],zero512,true):=by
   unfold hdName rdSome
   have:okB zero512 false 115=false:=by
    unfold okB okH
    have hn:nth zero512 0=0:=by unfold zero512;rfl
    rw[hn];simp
   rw[this];rfl
  have e2:hdSeq zero512=(0,zero512,true):=by unfold hdSeq rdUint;rw[e1];rfl
  have e3:hdN zero512=(0,zero512,true):=by unfold hdN rdList;rw[e2];rfl
  rw[e3,heldGo,heldEnd,if_pos (.inl rfl)]
theorem codReady (P:Nat)(off:Bool)(w:World)(c3:w.cell? ⟨P,3,none⟩=some (.int .u32 (flag off))):
  Calls Tryz.prog 133 #[.pointer (some ⟨P,0,none⟩)] w fun e w'=>e=.returned (.int .i64 (if off=true then 51 else 0))∧w'=w:=by
 have H:=atLoadAt P 3 off w c3
 cases off with
 | true =>
  go_enter Tryz.func133,Tryz.ntmps133
  go_wp2_with fail
  refine H.mono ?_
  rintro e w1 ⟨rfl,rfl⟩
  go_wp2_with fail
  go_ret
  exact⟨rfl,rfl⟩
 | false =>
  go_enter Tryz.func133,Tryz.ntmps133
  go_wp2_with fail
  refine H.mono ?_
  rintro e w1 ⟨rfl,rfl⟩
  go_wp2_with fail
  go_ret
  exact⟨rfl,rfl⟩
theorem codHas (P S n:Nat)(i:Int)(w:World)(c0:w.cell? ⟨P,0,none⟩=some (.slice (some ⟨S,0,none⟩) n n)):
  Calls Tryz.prog 134 #[.pointer (some ⟨P,0,none⟩),.int .i64 i] w fun e w'=>e=.returned (.bool (inR n i))∧w'=w:=by
 by_cases h0:0≤i
 ·have d0:decide (0≤i)=true:=decide_eq_true h0
  have HV:Hid (decide (i<(n:Int))=inR n i):=by
   unfold Hid inR;congr 1;exact propext ⟨fun h=>⟨h0,h⟩,fun h=>h.2⟩
  go_enter Tryz.func134,Tryz.ntmps134
  go_wp2
  go_ret
  exact⟨ret_b (by first|rfl|exact HV.out),rfl⟩
 ·have d0:decide (0≤i)=false:=decide_eq_false h0
  have h0':i<0:=by omega
  have HV:Hid (false=inR n i):=by unfold Hid inR;exact(decide_eq_false (fun h=>h0 h.1)).symm
  go_enter Tryz.func134,Tryz.ntmps134
  go_wp2
  go_ret
  exact⟨ret_b (by first|rfl|exact HV.out),rfl⟩
theorem codReach (P S n:Nat)(off:Bool)(i:Int)(w:World)(c0:w.cell? ⟨P,0,none⟩=some (.slice (some ⟨S,0,none⟩) n n))(c3:w.cell? ⟨P,3,none⟩=some (.int .u32 (flag off))):
  Calls Tryz.prog 94 #[.pointer (some ⟨P,0,none⟩),.int .i64 i] w fun e w'=>e=.returned (.int .i64 (if off=true then 51 else if inR n i=true then 0 else 50))∧w'=w:=by
 have HR:=codReady P off w c3
 have HH:=codHas P S n i w c0
 clear c0 c3
 cases off with
 | true =>
  rw[if_pos rfl] at HR ⊢
  go_enter Tryz.func94,Tryz.ntmps94
  go_wp2_with fail
  refine HR.mono ?_
  rintro e w1 ⟨rfl,rfl⟩
  go_wp2_with fail
  go_ret
  exact⟨rfl,rfl⟩
 | false =>
  rw[if_neg (by simp)] at HR ⊢
  cases hi:inR n i with
  | true =>
   rw[hi] at HH
   go_enter Tryz.func94,Tryz.ntmps94
   go_wp2_with fail
   refine HR.mono ?_
   rintro e w1 ⟨rfl,rfl⟩
   go_wp2_with fail
   refine HH.mono ?_
   rintro e w1 ⟨rfl,rfl⟩
   go_wp2_with fail
   go_ret
   exact⟨rfl,rfl⟩
  | false =>
   rw[hi] at HH
   go_enter Tryz.func94,Tryz.ntmps94
   go_wp2_with fail
   refine HR.mono ?_
   rintro e w1 ⟨rfl,rfl⟩
   go_wp2_with fail
   refine HH.mono ?_
   rintro e w1 ⟨rfl,rfl⟩
   go_wp2_with fail
   go_ret
   exact⟨rfl,rfl⟩
theorem codSize (P S n:Nat)(w:World)(c0:w.cell? ⟨P,0,none⟩=some (.slice (some ⟨S,0,none⟩) n n)):
  Calls Tryz.prog 59 #[.pointer (some ⟨P,0,none⟩)] w fun e w'=>e=.returned (.int .i64 (n:Int))∧w'=w:=by
 go_enter Tryz.func59,Tryz.ntmps59
 go_wp2_with fail
 go_ret
 exact⟨rfl,rfl⟩
theorem infoSec:(Tryz.prog.info? 159).map (·.size)=some 512:=by kernel_rfl
theorem infoU8:(Tryz.prog.info? 5).map (·.size)=some 1:=by kernel_rfl
theorem copyB (W:World)(B T o:Nat)(cs:List Value)(hB:Blk W B T cs)(a:Option Addr)(n c:Nat)(k:List UInt8)(hk:IsB W a n c k)(hn:0<n)(hfit:o+n≤cs.length):
  ∃W',(Builtin.copy_ #[33,33] 3 #[.slice (some ⟨B,o,none⟩) n n,.slice a n c]).run Tryz.prog W=.ok (.int .i64 (n:Int)) W'∧Blk W' B T (putL cs o (bv k))∧W.grownBy W' (some B):=by
 obtain⟨b,off,rfl,hc⟩:=hk.cells hn
 have hlen:=hk.len_eq
 have hcs:∀j v,(bv k)[j]?=some v→W.cell? ((⟨b,off,none⟩:Addr).add j)=some v:=by
  intro j v hj
  have hjl:j<k.length:=by have:=(List.getElem?_eq_some_iff.1 hj).1;rwa [bv_length] at this
  rw[bv_at k j hjl] at hj
  rw[Addr.add_lit,hc j (by omega),←hj]
 have h:=run_copy_row (P:=Tryz.prog) W 33 33 3 5 B o n n ⟨b,off,none⟩ n c _ T (bv k) Tryz.underlying33 infoU8 hB (by rw[bv_length,hlen];show n=min n n;omega) hcs (by rw[bv_length,List.size_toArray];omega) (bv_one k)
 have e2:cs.take o++bv k++cs.drop (o+(bv k).length)=putL cs o (bv k):=by
  apply List.ext_getElem?
  intro j
  rw[putL_at _ _ _ _ (by rw[bv_length];omega),bv_length,hlen]
  by_cases h1:j<o
  ·rw[if_neg (by omega),List.append_assoc,List.getElem?_append_left (by rw[List.length_take];omega),List.getElem?_take_of_lt h1]
  ·by_cases h2:j<o+n
   ·have hl2:(cs.take o++bv k).length=o+n:=by rw[List.length_append,List.length_take,bv_length];omega
    rw[if_pos (by omega),List.getElem?_append_left (by omega),List.getElem?_append_right (by rw[List.length_take];omega),List.length_take,show min o cs.length=o by omega]
   ·have hl2:(cs.take o++bv k).length=o+n:=by rw[List.length_append,List.length_take,bv_length];omega
    rw[if_neg (by omega),List.getElem?_append_right (by omega),hl2,List.getElem?_drop,show o+n+(j-(o+n))=j by omega]
 refine⟨_,?_,hB.row (putL cs o (bv k)),⟨rfl,rfl,rfl,by simp[World.setRow],fun i _ hi=>setRow_other W B i _ (fun e=>hi (by rw[e]))⟩⟩
 rw[h,bv_length,hlen]
 rw[bv_length,hlen] at e2
 rw[←e2]
 rfl
theorem putL_all (k:List UInt8)(cs:List Value)(h:cs.length=k.length):putL cs 0 (bv k)=bv k:=by
 apply List.ext_getElem?
 intro j
 rw[putL_at _ _ _ _ (by rw[bv_length];omega),bv_length]
 by_cases hj:j<k.length
 ·rw[if_pos (by omega),Nat.sub_zero]
 ·rw[if_neg (by omega),List.getElem?_eq_none (by omega),List.getElem?_eq_none (by rw[bv_length];omega)]
theorem Bytes2 (w0 w1:World){H:Nat}{b z:List UInt8}(hi:IsB w0 (some ⟨H,0,none⟩) 512 512 b)(ho:OwnB w1 w0.heap.size (.slice (some ⟨w0.heap.size,0,none⟩) 512 512) z)(hg:w0.grownBy w1 none):
  ∃w2,(Builtin.copy_ #[33,33] 3 #[.slice (some ⟨w0.heap.size,0,none⟩) 512 512,.slice (some ⟨H,0,none⟩) 512 512]).run Tryz.prog w1=.ok (.int .i64 512) w2∧Blk w2 w0.heap.size 5 (bv b)∧w1.grownBy w2 (some w0.heap.size):=by
 obtain⟨_,h2⟩:=ho
 rcases h2 with⟨h,_⟩|⟨g,cap,cur,e,_,hgb,_,_,hsz,_⟩
 ·cases h
 ·injection e with e1 _ e3
  have e4:w0.heap.size=g:=by injection e1 with e1;injection e1 with e1
  subst e4
  have hcl:cur.toList.length=512:=by rw[Array.length_toList,hsz,←e3]
  have hB:Blk w1 w0.heap.size 5 cur.toList:=by unfold Blk;rw[hgb]
  have hi1:IsB w1 (some ⟨H,0,none⟩) 512 512 b:=hi.below (n:=w0.heap.size) ⟨hg.1,hg.2,hg.3,hg.4,fun k hk=>hg.5 k hk (by simp)⟩ rfl
  obtain⟨w2,h1,h2,h3⟩:=copyB w1 _ _ 0 _ hB _ 512 512 b hi1 (by omega) (by omega)
  rw[putL_all b _ (by rw[hcl,hi.len_eq])] at h2
  exact⟨w2,h1,h2,h3⟩
theorem codBytes (b:List UInt8)(w:World)(hb:b.length=512):
  Calls Tryz.prog 96 #[.agg (bv b).toArray] w fun e w'=>∃g,e=.returned (.slice (some ⟨g,0,none⟩) 512 512)∧w.heap.size≤g∧Blk w' g 5 (bv b)∧Below w.heap.size w w':=by
 have hB0:Blk (w.alloc (.cells (bv b).toArray 159)) w.heap.size 159 (bv b):=Blk.new w _ _
 have HD0:Hid (Below w.heap.size w (w.alloc (.cells (bv b).toArray 159))):=(Below.refl _ w).alloc (Nat.le_refl _) _
 have HL:Hid (b.length=512):=hb
 have HI:Hid (IsB (w.alloc (.cells (bv b).toArray 159)) (some ⟨w.heap.size,0,none⟩) 512 512 b):=⟨hb,Nat.le_refl _,by decide,fun e=>(by cases e),fun _=>⟨_,0,rfl,fun i hi=>by rw[hB0.cell,Nat.zero_add,bv_at b i (by omega)]⟩⟩
 have HX:Hid (Blk (w.alloc (.cells (bv b).toArray 159)) w.heap.size 159 (bv b)):=hB0
 clear hB0 hb
 generalize hcs:bv b=cs at *
 have HC:Hid (bv b=cs):=hcs
 clear hcs
 go_enter Tryz.func96,Tryz.ntmps96
 go_upto_region 1 with fail
 generalize hH:w.heap.size=H at *
 have HH:Hid (w.heap.size=H):=hH
 clear hH
 generalize w.alloc (.cells cs.toArray 159)=w0 at *
 go_wp2_with (at_make;refine make_full8 w0 rfl _ _ rfl w0.heap.size .i64 .i64 _ _ 512 rfl rfl rfl rfl (by omega) (Nat.le_refl _) ?_;intro w1 ho1 hg1;have HG:=mkHid (And.intro ho1 hg1);obtain⟨w2,hr,hB2,hg2⟩:=Bytes2 w0 w1 HI.out ho1 hg1;clear ho1 hg1;have HB2:=mkHid hB2;have HG2:=mkHid hg2;clear hB2 hg2;generalize hS:w0.heap.size=S0 at *;have HS:=mkHid hS;clear hS)
 go_ret
 refine⟨S0,rfl,?_,?_,?_⟩
 ·rw[←HS.out];exact HD0.out.size
 ·rw[HC.out] at HB2;exact HB2.out
 ·have h1:Below w0.heap.size w0 w1:=(Below.refl _ w0).grown HG.out.2 (Nat.le_refl _) (fun k e=>by cases e)
  have h2:Below w0.heap.size w1 w2:=(Below.refl _ w1).grown HG2.out h1.size (fun k e=>by rw[HS.out];have:=Option.some.inj e;omega)
  rw[HH.out]
  exact HD0.out.trans ((h1.trans h2).mono (by rw[←HH.out];exact HD0.out.size))
theorem fold_none (l:List (Nat × List UInt8))(st:Nat→List UInt8)(i:Nat)(h:∀m,m<l.length→(nthQ l m).1≠i):l.foldl Pl.put st i=st i:=by
 induction l generalizing st with
 | nil=>rfl
 | cons g l ih =>
  rw[List.foldl_cons,ih _ (fun m hm=>h (m+1) (by simpa using hm))]
  have h0:g.1≠i:=h 0 (by simp)
  simp[Pl.put,h0]
theorem fold_last (l:List (Nat × List UInt8))(st:Nat→List UInt8)(i j:Nat)(hj:j<l.length)(he:(nthQ l j).1=i)(h:∀m,j<m→m<l.length→(nthQ l m).1≠i):l.foldl Pl.put st i=(nthQ l j).2:=by
 induction l generalizing st j with
 | nil=>simp at hj
 | cons g l ih =>
  rw[List.foldl_cons]
  cases j with
  | zero =>
   rw[fold_none l _ i (fun m hm=>h (m+1) (by omega) (by simpa using hm))]
   have h0:g.1=i:=he
   simp[Pl.put,h0,nthQ]
  | succ j=>exact ih _ j (by simpa using hj) he (fun m h1 h2=>h (m+1) (by omega) (by simpa using h2))
theorem range_data {w:World}{g o:Nat}{q:Nat × List UInt8}(h:w.rangeAt g o (wq q)):w.cell? ⟨g,o,none⟩=some (.int .i64 (q.1:Int))∧w.rangeAt g (o+1) (bv q.2):=
 ⟨by have:=h 0 _ rfl;rwa [Nat.add_zero] at this,fun j v hv=>by have:=h (j+1) v hv;rwa [show o+(j+1)=o+1+j by omega] at this⟩
def zSec:List Value:=bv (List.replicate 512 0)
theorem zSec_length:zSec.length=512:=by unfold zSec;rw[bv_length,List.length_replicate]
theorem zeroSec:(Tryz.prog.info? 159).map (·.zero)=some (some (.agg zSec.toArray)):=by kernel_rfl
theorem zvSec (w:World):(zeroValue 159).run Tryz.prog w=.ok (.agg zSec.toArray) w:=by
 have h:=zeroSec
 cases hq:Tryz.prog.info? 159 with
 | none=>rw[hq] at h;cases h
 | some i =>
  rw[hq] at h
  have hz:i.zero=some (.agg zSec.toArray):=by simpa using h
  simp[zeroValue,typeInfo,hq,hz]
attribute [local go_sem ↓] zvSec
theorem bvAll9 (b:List UInt8):(bv b).toArray.all (·.oneCell')=true:=all_oneCell_toArray (bv_one b)
theorem infoSecOf {b:List UInt8}(h:b.length=512):(Tryz.prog.info? 159).map (·.size)=some (bv b).length:=by rw[bv_length,h];exact infoSec
theorem infoSecOf' {b:List UInt8}(h:b.length=512):(Tryz.prog.info? 159).map (·.size)=some (bv b).toArray.size:=by rw[List.size_toArray];exact infoSecOf h
theorem codLatest (X:Nat→Prop)(P base S:Nat)(vC:Value)(arm:Int)(p:Pl)(i:Nat)(w:World)(h:IsPd X w P base S vC arm p)(hf:FewP p)(hi:i<p.n):
  Calls Tryz.prog 95 #[.pointer (some ⟨P,0,none⟩),.int .i64 (i:Int)] w fun e w'=>e=.returned (.agg (bv (p.ca.foldl Pl.put p.st i)).toArray)∧Below w.heap.size w w':=by
 obtain⟨a,cap,rfl,hle,hmx,hnl,hcs⟩:=h.ca.form (fun g hg=>(hf.at_ g hg).2)
 have h1:=h.on ((Below.refl _ w).alloc (Nat.le_refl _) (.cells zSec.toArray 159))
 have HD:Hid (Below w.heap.size w (w.alloc (.cells zSec.toArray 159))):=(Below.refl _ w).alloc (Nat.le_refl _) _
 have HR:Hid (Blk (w.alloc (.cells zSec.toArray 159)) w.heap.size 159 zSec):=Blk.new w _ _
 have HCs:Hid (0<p.ca.length→∃g,a=some ⟨g,0,none⟩∧∀i,i<p.ca.length→(w.alloc (.cells zSec.toArray 159)).rangeAt g (i * 513) (wq (nthQ p.ca i))):=fun hp=>by
  obtain⟨g,e,_,_,hr⟩:=hcs hp
  exact⟨g,e,fun i hi=>World.rangeAt_alloc (hr i hi) _⟩
 have HF:=mkHid hf
 have HHs:=mkHid h1
 have c0:(w.alloc (.cells zSec.toArray 159)).cell? ⟨P,0,none⟩=some (.slice (some ⟨S,0,none⟩) p.n p.n):=h1.blk.cell 0
 have c1:(w.alloc (.cells zSec.toArray 159)).cell? ⟨P,1,none⟩=some (.slice a p.ca.length cap):=h1.blk.cell 1
 have hn4:=hf.n
 have HI:=mkHid hi
 have Hn:=mkHid hf.ca
 obtain⟨n,hn⟩:∃n,n=p.ca.length:=⟨_,rfl⟩
 have HN:Hid (n=p.ca.length):=hn
 rw[←hn] at c1 HCs Hn
 have hn6:n≤1000000:=Hn.out
 obtain⟨N,hN⟩:∃N,N=p.n:=⟨_,rfl⟩
 have HNN:Hid (N=p.n):=hN
 rw[←hN] at c0 hi hn4
 have hiN:(i:Int)<(N:Int):=by omega
 have hi0:(0:Int)≤(i:Int):=by omega
 clear h h1 hf hcs hn hN hi hle hmx hnl Hn
 go_enter Tryz.func95,Tryz.ntmps95
 go_upto_region 1 with fail
 generalize hH:w.heap.size=R at *
 generalize w.alloc (.cells zSec.toArray 159)=w0 at *
 have HW:=mkHid hH
 clear hH
 go_wp2_with fail
 go_loopw [5] (fun kv wr=>∃k:Nat,k≤n∧kv=.int .i64 ((k:Int)-1)∧Hid (∀m,k≤m→m<n→(nthQ p.ca m).1≠i)∧wr=w0) (fun kv _=>(intOf kv+1).toNat)
 case atStart=>exact⟨n,Nat.le_refl _,by go_num,fun m h1 h2=>by omega,rfl⟩
 case round =>
  obtain⟨k,hk,rfl,HM,hwr⟩:=hrel
  subst hwr
  by_cases h0:0<k
  ·obtain⟨j,rfl⟩:∃j,k=j+1:=⟨k-1,by omega⟩
   obtain⟨g,rfl,hr⟩:=HCs.out (by omega)
   obtain⟨d0,d1⟩:=range_data (hr j (by omega))
   have e1:((j+1:Nat):Int)-1=(j:Int):=by omega
   rw[e1]
   have hj0:(0:Int)≤(j:Int):=by omega
   have hjn:(j:Int)<(n:Int):=by omega
   have HjL:Hid (j<p.ca.length):=by unfold Hid;rw[←HN.out];omega
   have HB5:=mkHid (HF.out.at_ _ (nthQ_mem p.ca j HjL.out)).2
   have HD1:=mkHid d1
   clear d1 hr
   by_cases ha:(nthQ p.ca j).1=i
   ·have HV:Hid (p.ca.foldl Pl.put p.st i=(nthQ p.ca j).2):=fold_last p.ca p.st i j HjL.out ha (fun m h1 h2=>HM.out m (by omega) (by rw[HN.out];exact h2))
    have hai:((nthQ p.ca j).1:Int)=(i:Int):=by omega
    rw[hai] at d0
    clear ha hai
    generalize (nthQ p.ca j).2=bb at *
    have HS5:Hid ((Tryz.prog.info? 159).map (·.size)=some (bv bb).length):=infoSecOf HB5.out
    have HS6:Hid ((Tryz.prog.info? 159).map (·.size)=some (bv bb).toArray.size):=infoSecOf' HB5.out
    have HS7:Hid (zSec.toArray.size=(bv bb).toArray.size):=by unfold Hid;rw[List.size_toArray,List.size_toArray,zSec_length,bv_length,HB5.out]
    go_wp2_with (first|(refine wpList_load_mid rfl 159 _ rfl g (j * 513+1) rfl (bv bb) _ HD1.out Tryz.underlying159 rfl HS5.out ?_)|(refine wpList_store_row rfl 159 _ _ rfl R (bv bb).toArray rfl rfl _ _ HR.out HS6.out HS7.out (bvAll9 bb) ?_))
    refine bodyPost_ret (v:=.agg (bv bb).toArray) ?_ rfl ⟨by rw[HV.out],by rw[HW.out];exact bel_row HD.out (Nat.le_refl _) _⟩
    exact results_cell_row Tryz.results95 _ _ _ _ _ _ _ rfl (HR.out.row (bv bb)) Tryz.underlying159 rfl HS6.out
   ·have hai':¬((nthQ p.ca j).1:Int)=(i:Int):=by omega
    have HM2:Hid (∀m,j≤m→m<n→(nthQ p.ca m).1≠i):=fun m h1 h2=>by
     by_cases e:m=j
     ·subst e;exact ha
     ·exact HM.out m (by omega) h2
    clear ha HM HD1
    generalize (nthQ p.ca j).1=at2 at *
    go_wp2
    go_roundw
    case rel=>exact⟨j,by omega,by go_num,HM2,by first|rfl|trivial⟩
    case measure=>first|(simp[intOf];done)|(simp[intOf];omega)
  ·have hk0:k=0:=by omega
   subst hk0
   have HV:Hid (p.ca.foldl Pl.put p.st i=p.st i):=fold_none p.ca p.st i (fun m hm=>HM.out m (Nat.zero_le _) (by rw[HN.out];exact hm))
   have hneg:((0:Nat):Int)-1 = -1:=by omega
   rw[hneg]
   have HB5:=mkHid (HHs.out.len i HI.out)
   have HD1:=mkHid (HHs.out.st.sector i HI.out HB5.out)
   generalize p.st i=bb at *
   have HS5:Hid ((Tryz.prog.info? 159).map (·.size)=some (bv bb).length):=infoSecOf HB5.out
   have HS6:Hid ((Tryz.prog.info? 159).map (·.size)=some (bv bb).toArray.size):=infoSecOf' HB5.out
   have HS7:Hid (zSec.toArray.size=(bv bb).toArray.size):=by unfold Hid;rw[List.size_toArray,List.size_toArray,zSec_length,bv_length,HB5.out]
   clear HM
   go_wp2_with (first|(refine wpList_load_mid rfl 159 _ rfl S (i * 512) rfl (bv bb) _ HD1.out Tryz.underlying159 rfl HS5.out ?_)|(refine wpList_store_row rfl 159 _ _ rfl R (bv bb).toArray rfl rfl _ _ HR.out HS6.out HS7.out (bvAll9 bb) ?_))
   refine bodyPost_ret (v:=.agg (bv bb).toArray) ?_ rfl ⟨by rw[HV.out],by rw[HW.out];exact bel_row HD.out (Nat.le_refl _) _⟩
   exact results_cell_row Tryz.results95 _ _ _ _ _ _ _ rfl (HR.out.row (bv bb)) Tryz.underlying159 rfl HS6.out
end
section
open Go.RowKit
theorem isB_new {w:World}{g:Nat}{b:List UInt8}(h:Blk w g 5 (bv b))(hb:b.length=512):IsB w (some ⟨g,0,none⟩) 512 512 b :=
 ⟨hb,Nat.le_refl _,by decide,fun e=>(by cases e),fun _=>⟨g,0,rfl,fun i hi=>by rw[h.cell,Nat.zero_add,bv_at b i (by omega)]⟩⟩
theorem fold_len512 (l:List (Nat × List UInt8))(st:Nat→List UInt8)(n i:Nat)(hi:i<n)(hl:∀g∈l,g.2.length=512)(hs:∀i,i<n→(st i).length=512):(l.foldl Pl.put st i).length=512:=by
 induction l generalizing st with
 | nil=>exact hs i hi
 | cons g l ih =>
  rw[List.foldl_cons]
  refine ih _ (fun g hg=>hl g (by simp[hg])) (fun j hj=>?_)
  unfold Pl.put
  split
  ·exact hl g (by simp)
  ·exact hs j hj
theorem ret_v4 {a:Option Addr}{n m c:Nat}{e e':Int}(h:n=m)(h2:e=e'):Ending.returned (.tuple #[.slice a n c,.int .i64 e])=.returned (.tuple #[.slice a m c,.int .i64 e']):=by rw[h,h2]
theorem codRead (X:Nat→Prop)(P base:Nat)(p:Pl)(i:Int)(w:World)(h:IsD X w P base p)(hf:FewP p):
  Calls Tryz.prog 62 #[.pointer (some ⟨P,0,none⟩),.int .i64 i] w fun e w'=>(∃a c,e=.returned (.tuple #[.slice a (p.rdB i).length c,.int .i64 (p.rdE i)])∧IsB w' a (p.rdB i).length c (p.rdB i)∧∀A,a=some A→w.heap.size≤A.block∧A.block<w'.heap.size)∧Below w.heap.size w w':=by
 obtain⟨S,vC,arm,h⟩:=h
 have HR:=codReach P S p.n p.off i w (h.blk.cell 0) (h.blk.cell 3)
 have HH:=mkHid h
 have HF:=mkHid hf
 clear h hf
 cases hoff:p.off with
 | true =>
  have HE:Hid (p.rdE i=51∧p.rdB i=[]):=by unfold Hid Pl.rdE Pl.rdB;simp[hoff]
  rw[hoff,if_pos rfl] at HR
  clear hoff
  go_enter Tryz.func62,Tryz.ntmps62
  go_wp2_with fail
  refine HR.mono ?_
  rintro e w1 ⟨rfl,rfl⟩
  go_wp2_with fail
  go_ret2
  refine⟨⟨none,0,ret_v4 (by rw[HE.out.2];rfl) HE.out.1.symm,?_,fun A e=>by cases e⟩,Below.refl _ _⟩
  rw[HE.out.2];exact isB_none _
 | false =>
  rw[hoff,if_neg (by simp)] at HR
  cases hin:inR p.n i with
  | false =>
   have HE:Hid (p.rdE i=50∧p.rdB i=[]):=by unfold Hid Pl.rdE Pl.rdB Pl.stE;simp[hoff,hin]
   rw[hin,if_neg (by simp)] at HR
   clear hoff hin
   go_enter Tryz.func62,Tryz.ntmps62
   go_wp2_with fail
   refine HR.mono ?_
   rintro e w1 ⟨rfl,rfl⟩
   go_wp2_with fail
   go_ret2
   refine⟨⟨none,0,ret_v4 (by rw[HE.out.2];rfl) HE.out.1.symm,?_,fun A e=>by cases e⟩,Below.refl _ _⟩
   rw[HE.out.2];exact isB_none _
  | true =>
   rw[hin,if_pos rfl] at HR
   have hir:0≤i∧i<p.n:=by simpa [inR] using hin
   obtain⟨k,rfl⟩:∃k:Nat,i=(k:Int):=⟨i.toNat,by omega⟩
   have hk:k<p.n:=by omega
   have HE:Hid (p.rdE (k:Int)=0∧p.rdB (k:Int)=p.ca.foldl Pl.put p.st k):=by unfold Hid Pl.rdE Pl.rdB Pl.stE;simp[hoff,hin]
   have HL:Hid ((p.ca.foldl Pl.put p.st k).length=512):=fold_len512 _ _ p.n k hk (fun g hg=>(HF.out.at_ g hg).2) HH.out.len
   have HLa:=codLatest X P base S vC arm p k w HH.out HF.out hk
   generalize p.ca.foldl Pl.put p.st k=bb at *
   clear hoff hin hir hk
   go_enter Tryz.func62,Tryz.ntmps62
   go_wp2_with fail
   refine HR.mono ?_
   rintro e w1 ⟨rfl,hw1⟩
   obtain rfl:=hw1.symm
   go_wp2_with fail
   refine HLa.mono ?_
   rintro e w2 ⟨rfl,hb2⟩
   have HB2:=mkHid hb2
   clear hb2
   go_wp2_with fail
   refine(codBytes bb w2 HL.out).mono ?_
   rintro e w3 ⟨g,rfl,hg3,hB3,hb3⟩
   have HB3:=mkHid (And.intro hg3 (And.intro hB3 hb3))
   clear hg3 hB3 hb3
   go_wp2_with fail
   go_ret2
   refine⟨⟨some ⟨g,0,none⟩,512,ret_v4 (by rw[HE.out.2,HL.out]) HE.out.1.symm,?_,fun A e=>?_⟩,HB2.out.trans (HB3.out.2.2.mono HB2.out.size)⟩
   ·rw[HE.out.2,HL.out];exact isB_new HB3.out.2.1 HL.out
   ·obtain rfl:=Option.some.inj e
    exact⟨Nat.le_trans HB2.out.size HB3.out.1,HB3.out.2.1.lt⟩
theorem infoSec3:(Tryz.prog.info? 159).map (fun i=>(i.zero,i.size,i.bytes))=some (some (.agg zSec.toArray),512,512):=by kernel_rfl
theorem zSec_at (k:Nat)(h:k<512):zSec[k]?=some (.int .u8 0):=by
  unfold zSec
  rw[bv_at _ k (by rw[List.length_replicate];exact h)]
  have:nth (List.replicate 512 0) k=0:=by rw[nth_eq _ k (by rw[List.length_replicate];exact h),List.getElem_replicate]
  rw[this];rfl
theorem nth_zero512 (k:Nat)(h:k<512):nth zero512 k=0:=by
  unfold zero512
  rw[nth_eq _ k (by rw[List.length_replicate];exact h),List.getElem_replicate]
theorem made_sectors (n:Nat):(madeCells (Value.agg zSec.toArray).cells (n * 512)).toList=stc n (fun _=>zero512):=by
  apply List.ext_getElem?
  intro k
  have hz:zSec.toArray.size=512:=by rw[List.size_toArray,zSec_length]
  by_cases hk:k<n * 512
  · rw[stc_at _ _ k hk,nth_zero512 _ (Nat.mod_lt _ (by omega))]
    have h1:=zSec_at (k%512) (Nat.mod_lt _ (by omega))
    simp[madeCells,Value.cells,hk,hz,h1]
  · have h3:(stc n (fun _=>zero512))[k]?=none:=List.getElem?_eq_none (by rw[stc_length];exact Nat.le_of_not_lt hk)
    rw[h3,List.getElem?_eq_none]
    rw[Array.length_toList,size_madeCells];exact Nat.le_of_not_lt hk
theorem make_sectors {ops:Array Oper}{rest:List Oper}{o:Oper}{a:Act}{Q:Exit→Act→World→Prop}(w:World)
    (hg:o.guard=none) (l c:Operand) (hop:o.op=Op.makeSlice 97 l c)
    (n:Nat) (hl:a.eval l=.int .i64 (n:Int)) (hc:a.eval c=.int .i64 (n:Int)) (hn:n≤4096)
    (hK:∀w',Blk w' w.heap.size 159 (stc n (fun _=>zero512))→w.grownBy w' none→wpList Tryz.prog ops Q rest (a.put o.dst (.slice (some ⟨w.heap.size,0,none⟩) n n)) w'):
    wpList Tryz.prog ops Q (o::rest) a w:=by
  obtain⟨i0,hi,hz0,hz1,hz2⟩:=info_parts infoSec3
  refine wpList_make_full w hg l c 97 hop w.heap.size 159 i0 (.agg zSec.toArray) 512 Tryz.underlying97 hi hz0 hz1 .i64 .i64 n n n hl hc rfl rfl (by rw[hz2];omega) (by unfold maxLen;omega) (Nat.le_refl _) (fun w' h g=>hK w' ?_ g)
  rw[made_sectors] at h
  rcases h.2 with⟨h,_⟩|⟨g,cap,cur,e,_,hgb,_,_,hsz,ht⟩
  · cases h
  · injection e with e1 _ e3
    have e4:w.heap.size=g:=by injection e1 with e1;injection e1 with e1
    subst e4
    unfold Blk
    rw[hgb,←ht,List.take_of_length_le (by rw[Array.length_toList,hsz,←e3];exact Nat.le_refl _)]
theorem codNew (X:Nat→Prop)(z:Int)(w:World)(base:Nat)(hb:base≤w.heap.size)(hX:∀k,X k→k<w.heap.size):
    Calls Tryz.prog 34 #[.int .i64 z] w fun e w'=>(if 64≤z∧z≤4096 then ∃P,e=.returned (.tuple #[.pointer (some ⟨P,0,none⟩),.int .i64 0])∧IsD X w' P base (Pl.new z.toNat) else e=.returned (.tuple #[.pointer none,.int .i64 1]))∧Below w.heap.size w w':=by
  by_cases h1:z<64
  · have d1:decide (z<64)=true:=decide_eq_true h1
    have HN:Hid (¬(64≤z∧z≤4096)):=fun h=>by omega
    clear hX hb
    go_enter Tryz.func34,Tryz.ntmps34
    go_wp2
    go_ret2
    exact⟨by first|rfl|(rw[if_neg HN.out];rfl),Below.refl _ _⟩
  · have d1:decide (z<64)=false:=decide_eq_false h1
    by_cases h2:4096<z
    · have d2:decide (4096<z)=true:=decide_eq_true h2
      have HN:Hid (¬(64≤z∧z≤4096)):=fun h=>by omega
      clear hX hb
      go_enter Tryz.func34,Tryz.ntmps34
      go_wp2
      go_ret2
      exact⟨by first|rfl|(rw[if_neg HN.out];rfl),Below.refl _ _⟩
    · have d2:decide (4096<z)=false:=decide_eq_false h2
      have HN:Hid (64≤z∧z≤4096):=⟨by omega,by omega⟩
      obtain⟨n,rfl⟩:∃n:Nat,z=(n:Int):=⟨z.toNat,by omega⟩
      have HX:=mkHid (And.intro hb hX)
      have HM:Hid (n≤4096):=by unfold Hid;omega
      clear hX hb
      go_enter Tryz.func34,Tryz.ntmps34
      go_wp2_with (at_make;refine make_sectors w rfl _ _ rfl n rfl rfl HM.out ?_;intro w1 hB1 hg1;have HB1:=mkHid hB1;have HG1:=mkHid hg1;clear hB1 hg1)
      go_ret2
      have hbel:Below w.heap.size w w1:=(Below.refl _ w).grown HG1.out (Nat.le_refl _) (fun k e=>by cases e)
      refine⟨?_,hbel.alloc hbel.size _⟩
      (try rw[if_pos HN.out])
      refine⟨_,rfl,w.heap.size,.slice none 0 0,-1,?_⟩
      have hlt:=HB1.out.lt
      exact { blk:=Blk.newAt w1 _ _ _ _ rfl rfl,low:=Nat.le_trans HX.out.1 hbel.size,st:=HB1.out.alloc _,lowS:=HX.out.1,len:=fun i _=>by show zero512.length=512;unfold zero512;rw[List.length_replicate]
              ca:=OwnC.nil _ _,armd:=rfl,lo:=by omega,hi:=by omega,pos:=by show 0<n;have:=HN.out.1;omega
              xP:=fun hx=>by have:=HX.out.2 _ hx;omega,xS:=fun hx=>by have:=HX.out.2 _ hx;omega,xC:=fun k e=>by cases e
              xlt:=fun k hx=>Nat.lt_of_lt_of_le (HX.out.2 _ hx) (Nat.le_trans hbel.size (World.grownBy_alloc w1 _ none).size) }
def zWr:List Value:=.int .i64 0::zSec
theorem zWr_length:zWr.length=513:=by unfold zWr;rw[List.length_cons,zSec_length]
theorem infoWr3:(Tryz.prog.info? 200).map (fun i=>(i.zero,i.size,i.bytes))=some (some (.agg zWr.toArray),513,520):=by kernel_rfl
theorem infoWr:(Tryz.prog.info? 200).map (·.size)=some 513:=by kernel_rfl
theorem zvWr (w:World):(zeroValue 200).run Tryz.prog w=.ok (.agg zWr.toArray) w:=by
  obtain⟨i0,hi,hz0,hz1,hz2⟩:=info_parts infoWr3
  simp[zeroValue,typeInfo,hi,hz0]
theorem builtWr (i:Int):Tryz.prog.built 200 [(0,.int .i64 i)]=some (.int .i64 i::zSec).toArray:=by kernel_rfl
theorem list_buildWr {ops:Array Oper}{rest:List Oper}{o:Oper}{a:Act}{w:World}{Q:Exit→Act→World→Prop}(hgd:o.guard=none)(x:Operand)(ho:o.op=.build 200 #[(0,x)])
    (i:Int) (hv:a.eval x=.int .i64 i)
    (h:wpList Tryz.prog ops Q rest (a.put o.dst (.agg (.int .i64 i::zSec).toArray)) w):wpList Tryz.prog ops Q (o::rest) a w:=by
  have hq:((#[(0,x)]:Array (Nat × Operand)).map fun (i,x)=>(i,a.eval x)).toList=[(0,.int .i64 i)]:=by
    simp only[List.map_toArray,List.map_cons,List.map_nil,hv]
  exact wpList_plain hgd fun _ hK=>wp_build 200 _ ho (by rw[hq,builtWr];rfl) (by rw[hq,builtWr];exact hK _ _ h)
theorem wz_all (i:Int):(Value.int .i64 i::zSec).toArray.all (·.oneCell')=true:=all_oneCell_toArray (fun v hv=>by
  rcases List.mem_cons.1 hv with rfl|hv
  · rfl
  · exact bv_one _ v hv)
theorem wz_size (i:Int):(Value.int .i64 i::zSec).toArray.size=513:=by rw[List.size_toArray,List.length_cons,zSec_length]
theorem putL_wr (i:Nat)(b:List UInt8)(h:b.length=512):putL (.int .i64 (i:Int):: zSec) 1 (bv b)=wq (i,b):=by
  apply List.ext_getElem?
  intro k
  have hzl:=zSec_length
  rw[putL_at _ _ _ _ (by rw[bv_length,List.length_cons];omega),bv_length,h]
  cases k with
  | zero=>rw[if_neg (by omega)];rfl
  | succ k =>
    by_cases hk:k<512
    · rw[if_pos (by omega),Nat.add_sub_cancel];rfl
    · have e1:(Value.int .i64 (i:Int):: zSec)[k+1]?=none:=List.getElem?_eq_none (by rw[List.length_cons];omega)
      have e2:(wq (i,b))[k+1]?=none:=List.getElem?_eq_none (by rw[wq_length h];omega)
      rw[if_neg (by omega),e1,e2]
theorem fillWr (z cs:Array Value)(hz:z.size=513)(hc:cs.size=513):Instr.fill (fun i=>some (i * 513,513)) z [(0,.agg cs)]=some cs:=by
  have h:=Great.fill_whole (s:=513) (by omega) [.agg cs] z (fun v hv=>by rw[List.mem_singleton.1 hv];exact hc) (by rw[hz,List.length_singleton,Nat.one_mul])
  have e:([Value.agg cs].flatMap fun v=>v.cells.toList).toArray=cs:=by simp[Value.cells]
  rw[e] at h
  exact h
theorem step_buildWr {ops:Array Oper}{o:Oper}{a:Act}{K:Act→World→Prop}{Q:Exit→Act→World→Prop}{E:Prop}(w:World)(hgd:o.guard=none)(x:Operand)(ho:o.op=.buildSlice 98 1 #[(0,x)])
    (cs:List Value) (hc:cs.length=513) (hx:a.eval x=.agg cs.toArray) (d:Tmp) (hd:o.dst=some d)
    (h:K (a.put (some d) (.slice (some ⟨w.heap.size,0,none⟩) 1 1)) (w.alloc (.cells cs.toArray 200))):
    if Region.wanted o (yielded ops a.tmps)=true then Oper.wp Tryz.prog o a w K Q else E:=by
  have hw:Region.wanted o (yielded ops a.tmps)=true:=by simp[Region.wanted,hgd]
  rw[if_pos hw]
  obtain⟨i0,hi,hz0,hz1,hz2⟩:=info_parts infoWr3
  have hq:((#[(0,x)]:Array (Nat × Operand)).map fun (i,x)=>(i,a.eval x)).toList=[(0,.agg cs.toArray)]:=by
    simp only[List.map_toArray,List.map_cons,List.map_nil,hx]
  refine wp_buildSlice 98 200 1 _ ho cs.toArray i0 (.agg zWr.toArray) Tryz.underlying98 hi hz0 (by rw[hz1];decide) (by rw[hz1];decide) ?_ (by rw[hd];exact h)
  rw[hq,hz1]
  exact fillWr _ _ (by simp) (by rw[List.size_toArray,hc])
theorem step_appC {ops:Array Oper}{o:Oper}{a:Act}{K:Act→World→Prop}{Q:Exit→Act→World→Prop}{E:Prop}(w:World)(hgd:o.guard=none)(s x:Operand)
    (ho:o.op=.call { callee:=.builtin .append,args:=#[s,x],argTypes:=#[98,98] }) (base:Nat)
    (v:Value) (l:List (Nat × List UInt8)) (hs:a.eval s=v) (hown:OwnC w base v l) (B:Nat) (g:Nat × List UInt8) (h5:g.2.length=512) (hx:a.eval x=.slice (some ⟨B,0,none⟩) 1 1)
    (hb:Blk w B 200 (wq g)) (hn:l.length≤1000000) (hbase:base≤w.heap.size) (d:Tmp) (hd:o.dst=some d)
    (h:∀k cap w',OwnC w' base (.slice (some ⟨k,0,none⟩) (l.length+1) cap) (l++[g])→w.grownBy w' v.ownBlock→(v.ownBlock=some k∨k=w.heap.size)→K (a.put (some d) (.slice (some ⟨k,0,none⟩) (l.length+1) cap)) w'):
    if Region.wanted o (yielded ops a.tmps)=true then Oper.wp Tryz.prog o a w K Q else E:=by
  obtain⟨i0,hi,hz0,hz1,hz2⟩:=info_parts infoWr3
  refine step_append_lies w hgd s x 98 ho base 200 i0 (.agg zWr.toArray) 513 520 Tryz.underlying98 hi hz0 hz1 hz2 (by show zWr.toArray.size=513;rw[List.size_toArray,zWr_length]) (by omega) v l.length (wqs l) hs hown ⟨B,0,none⟩ 1 1 (wq g) hx (by rw[wq_length h5])
    (fun j u hu=>World.news_of_block hb j u (by simpa using hu)) (wq_one g) (by omega) (by unfold maxLen;omega) (by omega) hbase w.heap.size rfl ?_
  intro k cap w' h1 h2 h3 _
  rw[hd]
  refine h k cap w' ?_ h2 h3
  unfold OwnC
  have e:wqs (l++[g])=wqs l++wq g:=by rw[wqs_append];simp[wqs]
  rw[e,List.length_append];exact h1
theorem gr_cell (w:World)(P j:Nat)(u:Value):w.grownBy (w.setCell ⟨P,j,none⟩ u) (some P):=⟨rfl,rfl,rfl,by simp[World.setCell],fun k _ hk=>Below.heap_setCell _ _ _ _ (fun e=>hk (by rw[e]))⟩
theorem gr_drewCell (w:World)(P j:Nat)(u:Value):w.grownBy (w.drew.setCell ⟨P,j,none⟩ u) (some P):=⟨rfl,rfl,rfl,by simp[World.setCell],fun k _ hk=>(Below.heap_setCell _ _ _ _ (fun e=>hk (by rw[e]))).trans rfl⟩
theorem KeepB.row {X:Nat→Prop}{V w':World}{base:Nat}{v:Value}{l:List (Nat × List UInt8)}(ho:OwnC V base v l)(hg:V.grownBy w' v.ownBlock)(hx:∀k,v.ownBlock=some k→¬X k):KeepB X V w':=by
  rcases ho.2 with⟨rfl,_⟩|⟨q,cap,cur,rfl,_⟩
  · exact KeepB.none hg
  · exact KeepB.one hg (hx q rfl)
theorem IsPd.push {X:Nat→Prop}{V w':World}{P base S:Nat}{vC:Value}{arm:Int}{p:Pl}(h:IsPd X V P base S vC arm p)(hg:V.grownBy w' vC.ownBlock){v:Value}{g:Nat × List UInt8}(ho:OwnC w' base v (p.ca++[g]))(hat:v.ownBlock=vC.ownBlock∨v.ownBlock=some V.heap.size):
    IsPd X (w'.setCell ⟨P,1,none⟩ v) P base S v arm { p with ca:=p.ca++[g] }∧KeepB X V (w'.setCell ⟨P,1,none⟩ v)∧Below base V (w'.setCell ⟨P,1,none⟩ v)∧w'.cell? ⟨P,1,none⟩=some vC∧w'.frozen? ⟨P,1,none⟩=false:=by
  have k1:KeepB X V w':=KeepB.row h.ca hg h.xC
  have b1:Below base V w':=(Below.refl _ V).grown hg (by have:=h.low;have:=h.blk.lt;omega) (fun k hk=>(World.ownsRow.lt h.ca k hk).1)
  have hP:Blk w' P 109 (pdc S vC arm p):=(hg.block P h.blk.lt (fun e=>by
    rcases own_ne h.blk h.ca (by decide) with h2|h2
    · rw[h2] at e;cases e
    · exact h2 e.symm)).trans h.blk
  have hS:Blk w' S 159 (stc p.n p.st):=(hg.block S h.st.lt (fun e=>by
    rcases own_ne h.st h.ca (by decide) with h2|h2
    · rw[h2] at e;cases e
    · exact h2 e.symm)).trans h.st
  have hg2:=gr_cell w' P 1 v
  refine⟨?_,k1.trans (KeepB.one hg2 h.xP),b1.trans (bel_one hg2 h.low hP.lt),hP.cell 1,hP.frozen 1⟩
  exact { h with
    blk:=hP.set 1 v
    st:=(hg2.block S hS.lt (fun e=>blk_ne hP hS (by decide) (Option.some.inj e).symm)).trans hS
    ca:=World.ownsRow.kept ho hg2 (own_ne hP ho (by decide))
    xC:=fun k hk hx=>by
      rcases hat with e|e
      · exact h.xC k (by rw[←e];exact hk) hx
      · have:=h.xlt k hx
        rw[e] at hk
        have:=Option.some.inj hk
        omega
    xlt:=fun k hx=>Nat.lt_of_lt_of_le (h.xlt k hx) (Nat.le_trans hg.size hg2.size) }
theorem armOf_less {arm:Int}{a:Option Nat}(h:a=armOf arm)(h0:0<arm):a.map (· - 1)=armOf (arm-1):=by
  subst h
  unfold armOf
  rw[if_pos (by omega),if_pos (by omega)]
  simp only[Option.map_some]
  congr 1
  omega
theorem armOf_neg {arm:Int}{a:Option Nat}(h:a=armOf arm)(h0:arm<0):a.map (· - 1)=armOf arm:=by
  subst h
  unfold armOf
  rw[if_neg (by omega)]
  rfl
end
end Go.Proofs.YtpecobmfabmpkaaGreatDoor
