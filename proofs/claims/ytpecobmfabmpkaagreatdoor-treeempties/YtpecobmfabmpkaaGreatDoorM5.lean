/- Jr6 Jr7 Jr8 Jr9 JrD Js0 Js1 Pd1 Pd2 -/
import Derived.Test.YtpecobmfabmpkaaGreatDoorM4
set_option maxRecDepth 20000
set_option maxHeartbeats 1000000
namespace Go.Proofs.YtpecobmfabmpkaaGreatDoor
open Go.RowKit
theorem heldGo_len (p:Pl):∀(k i:Nat) (r:List UInt8) (bad:Bool) (l:Qs) (q:Qs × Bool),heldGo p k i r bad l=some q→q.1.length=l.length+k∧((∀g∈l,49≤g.1∧g.1<p.n)→∀g∈q.1,49≤g.1∧g.1<p.n)
 | 0,i,r,bad,l,q,h=>by
  rw[heldGo] at h
  rw[←Option.some.inj h]
  exact⟨rfl,fun h=>h⟩
 | k+1,i,r,bad,l,q,h=>by
  rw[heldGo] at h
  split at h
  ·cases h
  ·rename_i hn
   obtain⟨h1,h2⟩:=heldGo_len p k _ _ _ _ q h
   refine⟨by rw[h1,List.length_append,List.length_singleton];omega,fun hl=>h2 (fun g hg=>?_)⟩
   rcases List.mem_append.1 hg with hg|hg
   ·exact hl g hg
   ·rw[List.mem_singleton.1 hg]
    constructor
    ·exact Nat.le_of_not_lt fun e=>hn (.inr (.inl e))
    ·exact Nat.lt_of_not_le fun e=>hn (.inr (.inr e))
theorem rdList_le (l:List UInt8)(br:Bool):(rdList l br 48).1≤48:=by
 unfold rdList
 split
 ·rename_i h
  unfold okL at h
  rw[Bool.and_eq_true] at h
  have:=of_decide_eq_true h.2
  show numTo l 4≤48
  omega
 ·exact Nat.zero_le _
theorem heldJ_len {p:Pl}{s:Nat}{l:Qs}(h:heldJ p=some (s,l)):l.length≤48∧∀g∈l,49≤g.1∧g.1<p.n:=by
 unfold heldJ at h
 split at h
 ·cases h
 ·unfold heldB at h
  cases hq:heldGo p (hdN (p.rdB 0)).1 0 (hdN (p.rdB 0)).2.1 (hdN (p.rdB 0)).2.2 [] with
  | none=>rw[hq] at h;cases h
  | some q =>
   obtain⟨q,bad⟩:=q
   rw[hq,heldEnd] at h
   split at h
   ·cases h
   ·have e:=(Prod.mk.inj (Option.some.inj h)).2
    have h1:=heldGo_len p _ _ _ _ _ _ hq
    rw[←e]
    refine⟨?_,h1.2 (fun g hg=>by cases hg)⟩
    rw[h1.1]
    have:=rdList_le (hdSeq (p.rdB 0)).2.1 (hdSeq (p.rdB 0)).2.2
    show 0+(hdN (p.rdB 0)).1≤48
    unfold hdN
    omega
theorem KeepT.wide {ts us:List TypeId}{w w':World}(h:KeepT ts w w')(hs:∀t∈ts,t∈us):KeepT us w w':=⟨h.size,fun k o hk ho=>h.same k o hk (fun c t fz e ht=>ho c t fz e (hs t ht))⟩
def jrE (p:Pl)(i:Int):Int:=if areaI p.n i=false then 50 else p.rdE i
def jrB (p:Pl)(i:Int):List UInt8:=if areaI p.n i=false then [] else p.rdB i
def nxt (s:Nat):Nat:=(s+1)%18446744073709551616
def slotQ (l:Qs):Qs:=(List.range l.length).map fun i=>(1+i,(l.getD i (0,[])).2)
def cmA (t:Tl)(j:Jl):Pl × Int:=(stepsP j.p (slotQ t.l),stepsE j.p (slotQ t.l))
def cmB (t:Tl)(j:Jl):Pl × Int:=if (cmA t j).2=0 then (stepsP (cmA t j).1 [(0,sealJ (nxt j.seq) t.l)],stepsE (cmA t j).1 [(0,sealJ (nxt j.seq) t.l)]) else cmA t j
def cmC (t:Tl)(j:Jl):Pl × Int:=if (cmB t j).2=0 then (stepsP (cmB t j).1 t.l,stepsE (cmB t j).1 t.l) else cmB t j
def cmE (t:Tl)(j:Jl):Int:=if t.over=true∨j.dead=true then 51 else if t.l=[] then 0 else (cmC t j).2
def cmJ (t:Tl)(j:Jl):Jl :=
 if t.over=true∨j.dead=true then j else if t.l=[] then j else if (cmC t j).2=0 then ⟨(cmC t j).1,nxt j.seq,j.dead⟩ else ⟨(cmC t j).1,j.seq,true⟩
def cmT (t:Tl)(j:Jl):Tl:=if t.over=true∨j.dead=true then t else { t with over:=true }
abbrev CT:List TypeId:=[]
structure FewM (p:Pl)(m:Nat):Prop where
 n0:64≤p.n
 n:p.n≤4096
 ca:p.ca.length≤m
 at_:∀g∈p.ca,g.1<p.n∧g.2.length=512
 st:∀i,(p.st i).length=512
 wr:p.wr≤m
 fl:p.fl≤m
theorem FewM.few {p:Pl}{m:Nat}(h:FewM p m)(hm:m≤1000000):FewP p:=⟨h.n,Nat.le_trans h.ca hm,h.at_,Nat.le_trans h.wr hm,Nat.le_trans h.fl hm⟩
theorem FewM.more {p:Pl}{m k:Nat}(h:FewM p m)(hm:m≤k):FewM p k:=⟨h.n0,h.n,Nat.le_trans h.ca hm,h.at_,h.st,Nat.le_trans h.wr hm,Nat.le_trans h.fl hm⟩
theorem put512 (l:Qs):∀(st:Nat→List UInt8),(∀i,(st i).length=512)→(∀g∈l,g.2.length=512)→∀i,(l.foldl Pl.put st i).length=512:=by
 induction l with
 | nil=>intro st h _ i;exact h i
 | cons g l ih =>
  intro st h hl i
  rw[List.foldl_cons]
  refine ih _ (fun k=>?_) (fun x hx=>hl x (by simp[hx])) i
  unfold Pl.put
  split
  ·exact hl g (by simp)
  ·exact h k
theorem few_mnew (n:Nat)(h0:64≤n)(h1:n≤4096):FewM (Pl.new n) 0:=⟨h0,h1,Nat.le_refl _,fun g hg=>(by cases hg),fun i=>by show zero512.length=512;unfold zero512;rw[List.length_replicate],Nat.le_refl _,Nat.le_refl _⟩
theorem FewM.write {p:Pl}{m:Nat}(h:FewM p m)(i:Int)(b:List UInt8):FewM (p.write i b) (m+1):=by
 unfold Pl.write
 split
 ·exact h.more (by omega)
 split
 ·exact h.more (by omega)
 rename_i hi
 split
 ·exact h.more (by omega)
 rename_i hb
 split
 ·exact⟨h.n0,h.n,Nat.le_succ_of_le h.ca,h.at_,h.st,Nat.le_succ_of_le h.wr,Nat.le_succ_of_le h.fl⟩
 ·refine⟨h.n0,h.n,?_,fun g hg=>?_,h.st,Nat.succ_le_succ h.wr,Nat.le_succ_of_le h.fl⟩
  ·show (p.ca++[(i.toNat,b)]).length≤m+1
   have:=h.ca
   simp;omega
  ·rcases List.mem_append.1 hg with hg|hg
   ·exact h.at_ g hg
   ·rw[List.mem_singleton.1 hg]
    have hi2:inR p.n i=true:=by cases hq:inR p.n i with|true=>rfl|false=>exact absurd hq hi
    unfold inR at hi2
    have:=of_decide_eq_true hi2
    exact⟨by show i.toNat<p.n;omega,by by_cases hq:b.length=512;exact hq;exact absurd hq hb⟩
theorem FewM.flush {p:Pl}{m:Nat}(h:FewM p m):FewM p.flush (m+1):=by
 unfold Pl.flush
 split
 ·exact h.more (by omega)
 ·exact⟨h.n0,h.n,Nat.zero_le _,fun g hg=>(by cases hg),put512 _ _ h.st (fun g hg=>(h.at_ g hg).2),Nat.le_succ_of_le h.wr,Nat.succ_le_succ h.fl⟩
theorem write_n (p:Pl)(i:Int)(b:List UInt8):(p.write i b).n=p.n:=by
 unfold Pl.write;repeat' split
 all_goals rfl
theorem flush_n (p:Pl):p.flush.n=p.n:=by unfold Pl.flush;split<;>rfl
theorem steps_n:∀(l:Qs) (p:Pl),(stepsP p l).n=p.n:=by
 intro l
 induction l with
 | nil=>intro p;exact flush_n p
 | cons g l ih =>
  intro p
  rw[stepsP]
  split
  ·rw[ih,write_n]
  ·exact write_n _ _ _
theorem FewM.steps:∀(l:Qs) {p:Pl}{m:Nat},FewM p m→FewM (stepsP p l) (m+l.length+1):=by
 intro l
 induction l with
 | nil=>intro p m h;exact h.flush
 | cons g l ih =>
  intro p m h
  rw[stepsP]
  split
  ·exact(ih (h.write _ _)).more (by rw[List.length_cons];omega)
  ·exact(h.write _ _).more (by rw[List.length_cons];omega)
theorem slotQ_length (l:Qs):(slotQ l).length=l.length:=by simp[slotQ]
theorem FewM.cmA {p:Pl}{m:Nat}{t:Tl}{j:Jl}(hj:j.p=p)(h:FewM p m)(hl:t.l.length≤48):FewM (Go.Proofs.YtpecobmfabmpkaaGreatDoor.cmA t j).1 (m+49):=by
 unfold Go.Proofs.YtpecobmfabmpkaaGreatDoor.cmA
 rw[hj]
 exact(FewM.steps _ h).more (by rw[slotQ_length];omega)
theorem FewM.cmB {p:Pl}{m:Nat}{t:Tl}{j:Jl}(hj:j.p=p)(h:FewM p m)(hl:t.l.length≤48):FewM (Go.Proofs.YtpecobmfabmpkaaGreatDoor.cmB t j).1 (m+51):=by
 unfold Go.Proofs.YtpecobmfabmpkaaGreatDoor.cmB
 split
 ·exact(FewM.steps _ (h.cmA hj hl)).more (by rw[List.length_singleton];omega)
 ·exact(h.cmA hj hl).more (by omega)
theorem FewM.cmC {p:Pl}{m:Nat}{t:Tl}{j:Jl}(hj:j.p=p)(h:FewM p m)(hl:t.l.length≤48):FewM (Go.Proofs.YtpecobmfabmpkaaGreatDoor.cmC t j).1 (m+100):=by
 unfold Go.Proofs.YtpecobmfabmpkaaGreatDoor.cmC
 split
 ·exact(FewM.steps _ (h.cmB hj hl)).more (by omega)
 ·exact(h.cmB hj hl).more (by omega)
theorem FewM.commit {m:Nat}{t:Tl}{j:Jl}(h:FewM j.p m)(hl:t.l.length≤48):FewM (cmJ t j).p (m+100):=by
 unfold cmJ
 split
 ·exact h.more (by omega)
 split
 ·exact h.more (by omega)
 split
 ·exact h.cmC rfl hl
 ·exact h.cmC rfl hl
theorem putQ_len (l:Qs)(i:Nat)(b:List UInt8):(putQ l i b).length≤l.length+1∧(hitQ l i=true→(putQ l i b).length=l.length):=by
 induction l with
 | nil=>exact⟨Nat.le_refl _,fun h=>by cases h⟩
 | cons g l ih =>
  rw[putQ,hitQ]
  split
  ·exact⟨by simpa using ih.1,fun h=>by simpa using ih.2 h⟩
  ·split
   ·exact⟨by simp,fun _=>by simp⟩
   ·rename_i h1 h2
    exact⟨by simp,fun h=>absurd (by simpa using h) h2⟩
theorem tlWrite_len (t:Tl)(j:Jl)(i:Int)(b:List UInt8)(h:t.l.length≤48):(t.write j i b).l.length≤48:=by
 unfold Tl.write
 split
 ·rename_i hz
  unfold Tl.wrE at hz
  split at hz
  ·cases hz
  split at hz
  ·cases hz
  split at hz
  ·cases hz
  split at hz
  ·cases hz
  ·rename_i hf
   show (putQ t.l i.toNat b).length≤48
   have:=putQ_len t.l i.toNat b
   cases hq:hitQ t.l i.toNat with
   | true=>rw[this.2 hq];exact h
   | false =>
    have hlt:¬48≤t.l.length:=fun e=>hf ⟨hq,e⟩
    have:=this.1
    omega
 ·exact h
theorem tlWrite_over (t:Tl)(j:Jl)(i:Int)(b:List UInt8):(t.write j i b).over=t.over:=by unfold Tl.write;split<;>rfl
theorem steps_ok:∀(l:Qs) (p:Pl),p.off=false→p.arm=none→(∀g∈l,g.1<p.n∧g.2.length=512) →
  stepsE p l=0∧stepsP p l=⟨p.n,(p.ca++l).foldl Pl.put p.st,[],false,none,p.wr+l.length,p.fl+1⟩:=by
 intro l
 induction l with
 | nil =>
  intro p h0 h1 _
  obtain⟨n,st,ca,off,arm,wr,fl⟩:=p
  dsimp only at h0 h1
  subst h0 h1
  refine⟨rfl,?_⟩
  rw[stepsP,Pl.flush]
  simp
 | cons g l ih =>
  intro p h0 h1 hg
  have hg0:=hg g (by simp)
  have hin:inR p.n (g.1:Int)=true:=by unfold inR;exact decide_eq_true ⟨by omega,by omega⟩
  have hw:p.wrE (g.1:Int) g.2=0:=by unfold Pl.wrE;rw[h0,hin,h1];simp[hg0.2]
  have hp:p.write (g.1:Int) g.2={ p with arm:=none,wr:=p.wr+1,ca:=p.ca++[g] }:=by
   unfold Pl.write;rw[h0,hin,h1];simp[hg0.2]
  obtain⟨h2,h3⟩:=ih { p with arm:=none,wr:=p.wr+1,ca:=p.ca++[g] } h0 rfl (fun x hx=>hg x (by simp[hx]))
  rw[stepsE,stepsP,if_pos hw,if_pos hw,hp]
  refine⟨h2,h3.trans ?_⟩
  simp[Nat.add_assoc,Nat.add_comm 1]
theorem rdUint_lt (l:List UInt8)(br:Bool):(rdUint l br).1<18446744073709551616:=by
 unfold rdUint
 split
 ·exact numTo_lt64 l 8 (Nat.le_refl _)
 ·show 0<_;omega
theorem inR_nat {n i:Nat}(h:i<n):inR n (i:Int)=true:=by unfold inR;exact decide_eq_true ⟨by omega,by omega⟩
theorem FewM.rd512 {p:Pl}{m:Nat}(h:FewM p m)(hoff:p.off=false){i:Nat}(hi:i<p.n):(p.rdB (i:Int)).length=512:=by
 unfold Pl.rdB
 rw[hoff,inR_nat hi]
 exact put512 _ _ h.st (fun g hg=>(h.at_ g hg).2) _
theorem heldGo_512 (p:Pl)(m:Nat)(hp:FewM p m)(hoff:p.off=false):∀(k i:Nat) (r:List UInt8) (bad:Bool) (l:Qs) (q:Qs × Bool),k+i≤48→heldGo p k i r bad l=some q→(∀g∈l,g.2.length=512)→∀g∈q.1,g.2.length=512
 | 0,i,r,bad,l,q,_,h,hl=>by
  rw[heldGo] at h
  rw[←Option.some.inj h]
  exact hl
 | k+1,i,r,bad,l,q,hk,h,hl=>by
  rw[heldGo] at h
  split at h
  ·cases h
  ·refine heldGo_512 p m hp hoff k (i+1) _ _ _ q (by omega) h (fun g hg=>?_)
   rcases List.mem_append.1 hg with hg|hg
   ·exact hl g hg
   ·rw[List.mem_singleton.1 hg]
    exact hp.rd512 hoff (by have:=hp.n0;omega)
theorem heldJ_512 {p:Pl}{m s:Nat}{l:Qs}(hp:FewM p m)(hoff:p.off=false)(h:heldJ p=some (s,l)):(∀g∈l,g.2.length=512)∧s<18446744073709551616:=by
 unfold heldJ at h
 split at h
 ·cases h
 ·unfold heldB at h
  cases hq:heldGo p (hdN (p.rdB 0)).1 0 (hdN (p.rdB 0)).2.1 (hdN (p.rdB 0)).2.2 [] with
  | none=>rw[hq] at h;cases h
  | some q =>
   obtain⟨q,bad⟩:=q
   rw[hq,heldEnd] at h
   split at h
   ·cases h
   ·have e:=Prod.mk.inj (Option.some.inj h)
    have hle:=rdList_le (hdSeq (p.rdB 0)).2.1 (hdSeq (p.rdB 0)).2.2
    rw[←e.1,←e.2]
    exact⟨heldGo_512 p m hp hoff _ _ _ _ _ _ (by unfold hdN;omega) hq (fun g hg=>by cases hg),rdUint_lt _ _⟩
theorem mountS_lt {p:Pl}:mountS p<18446744073709551616:=by
 unfold mountS
 split
 ·omega
 ·rename_i s l h
  unfold heldJ at h
  split at h
  ·cases h
  ·unfold heldB at h
   cases hq:heldGo p (hdN (p.rdB 0)).1 0 (hdN (p.rdB 0)).2.1 (hdN (p.rdB 0)).2.2 [] with
   | none=>rw[hq] at h;cases h
   | some q =>
    rw[hq,heldEnd] at h
    split at h
    ·cases h
    ·rw[←(Prod.mk.inj (Option.some.inj h)).1];exact rdUint_lt _ _
theorem rdE_zero {p:Pl}{m:Nat}(hp:FewM p m)(hoff:p.off=false):p.rdE 0=0:=by
 unfold Pl.rdE Pl.stE
 have:=hp.n0
 have e:inR p.n 0=true:=by unfold inR;exact decide_eq_true ⟨by omega,by omega⟩
 rw[hoff,e];rfl
structure Good (p:Pl):Prop where
 off:p.off=false
 arm:p.arm=none
theorem mount_good {p:Pl}{m:Nat}(hp:FewM p m)(hg:Good p):mountE p=0∧Good (mountP p)∧(heldJ p=none∧mountP p=p∨∃s l,heldJ p=some (s,l)∧mountP p=⟨p.n,(p.ca++l).foldl Pl.put p.st,[],false,none,p.wr+l.length,p.fl+1⟩):=by
 have h0:=rdE_zero hp hg.off
 unfold mountE mountP
 rw[if_neg (by simp[h0]),if_neg (by simp[h0])]
 cases hh:heldJ p with
 | none=>exact⟨rfl,hg,.inl ⟨rfl,rfl⟩⟩
 | some q =>
  obtain⟨s,l⟩:=q
  have h1:=heldJ_len hh
  have h2:=heldJ_512 hp hg.off hh
  obtain⟨h3,h4⟩:=steps_ok l p hg.off hg.arm (fun g hgl=>⟨(h1.2 g hgl).2,h2.1 g hgl⟩)
  refine⟨h3,?_,.inr ⟨s,l,rfl,h4⟩⟩
  show Good (stepsP p l)
  rw[h4]
  exact⟨rfl,rfl⟩
theorem good_new (n:Nat):Good (Pl.new n):=⟨rfl,rfl⟩
theorem held_new (n:Nat):heldJ (Pl.new n)=none:=by
 unfold heldJ
 split
 ·rfl
 ·rename_i h0
  have hin:inR n 0=true:=by
   cases hq:inR n 0 with
   | true=>rfl
   | false=>exact absurd (by unfold Pl.rdE Pl.stE;simp[Pl.new,hq]) h0
  have hb:(Pl.new n).rdB 0=zero512:=by unfold Pl.rdB;simp[Pl.new,hin]
  rw[hb]
  unfold heldB
  have e1:hdName zero512=([],zero512,true):=by
   unfold hdName rdSome
   have:okB zero512 false 115=false:=by
    unfold okB okH
    have hn:nth zero512 0=0:=by unfold zero512;rfl
    rw[hn];simp
   rw[this];rfl
  have e2:hdSeq zero512=(0,zero512,true):=by unfold hdSeq rdUint;rw[e1];rfl
  have e3:hdN zero512=(0,zero512,true):=by unfold hdN rdList;rw[e2];rfl
  rw[e3,heldGo,heldEnd,if_pos (.inl rfl)]
theorem codReady (P:Nat)(off:Bool)(w:World)(c3:w.cell? ⟨P,3,none⟩=some (.int .u32 (flag off))):
  Calls Tryz.prog 133 #[.pointer (some ⟨P,0,none⟩)] w fun e w'=>e=.returned (.int .i64 (if off=true then 51 else 0))∧w'=w:=by
 have H:=atLoadAt P 3 off w c3
 cases off with
 | true =>
  go_enter Tryz.func133,Tryz.ntmps133
  go_wp2_with fail
  refine H.mono ?_
  rintro e w1 ⟨rfl,rfl⟩
  go_wp2_with fail
  go_ret
  exact⟨rfl,rfl⟩
 | false =>
  go_enter Tryz.func133,Tryz.ntmps133
  go_wp2_with fail
  refine H.mono ?_
  rintro e w1 ⟨rfl,rfl⟩
  go_wp2_with fail
  go_ret
  exact⟨rfl,rfl⟩
theorem codHas (P S n:Nat)(i:Int)(w:World)(c0:w.cell? ⟨P,0,none⟩=some (.slice (some ⟨S,0,none⟩) n n)):
  Calls Tryz.prog 134 #[.pointer (some ⟨P,0,none⟩),.int .i64 i] w fun e w'=>e=.returned (.bool (inR n i))∧w'=w:=by
 by_cases h0:0≤i
 ·have d0:decide (0≤i)=true:=decide_eq_true h0
  have HV:Hid (decide (i<(n:Int))=inR n i):=by
   unfold Hid inR;congr 1;exact propext ⟨fun h=>⟨h0,h⟩,fun h=>h.2⟩
  go_enter Tryz.func134,Tryz.ntmps134
  go_wp2
  go_ret
  exact⟨ret_b (by first|rfl|exact HV.out),rfl⟩
 ·have d0:decide (0≤i)=false:=decide_eq_false h0
  have h0':i<0:=by omega
  have HV:Hid (false=inR n i):=by unfold Hid inR;exact(decide_eq_false (fun h=>h0 h.1)).symm
  go_enter Tryz.func134,Tryz.ntmps134
  go_wp2
  go_ret
  exact⟨ret_b (by first|rfl|exact HV.out),rfl⟩
theorem codReach (P S n:Nat)(off:Bool)(i:Int)(w:World)(c0:w.cell? ⟨P,0,none⟩=some (.slice (some ⟨S,0,none⟩) n n))(c3:w.cell? ⟨P,3,none⟩=some (.int .u32 (flag off))):
  Calls Tryz.prog 94 #[.pointer (some ⟨P,0,none⟩),.int .i64 i] w fun e w'=>e=.returned (.int .i64 (if off=true then 51 else if inR n i=true then 0 else 50))∧w'=w:=by
 have HR:=codReady P off w c3
 have HH:=codHas P S n i w c0
 clear c0 c3
 cases off with
 | true =>
  rw[if_pos rfl] at HR ⊢
  go_enter Tryz.func94,Tryz.ntmps94
  go_wp2_with fail
  refine HR.mono ?_
  rintro e w1 ⟨rfl,rfl⟩
  go_wp2_with fail
  go_ret
  exact⟨rfl,rfl⟩
 | false =>
  rw[if_neg (by simp)] at HR ⊢
  cases hi:inR n i with
  | true =>
   rw[hi] at HH
   go_enter Tryz.func94,Tryz.ntmps94
   go_wp2_with fail
   refine HR.mono ?_
   rintro e w1 ⟨rfl,rfl⟩
   go_wp2_with fail
   refine HH.mono ?_
   rintro e w1 ⟨rfl,rfl⟩
   go_wp2_with fail
   go_ret
   exact⟨rfl,rfl⟩
  | false =>
   rw[hi] at HH
   go_enter Tryz.func94,Tryz.ntmps94
   go_wp2_with fail
   refine HR.mono ?_
   rintro e w1 ⟨rfl,rfl⟩
   go_wp2_with fail
   refine HH.mono ?_
   rintro e w1 ⟨rfl,rfl⟩
   go_wp2_with fail
   go_ret
   exact⟨rfl,rfl⟩
theorem codSize (P S n:Nat)(w:World)(c0:w.cell? ⟨P,0,none⟩=some (.slice (some ⟨S,0,none⟩) n n)):
  Calls Tryz.prog 59 #[.pointer (some ⟨P,0,none⟩)] w fun e w'=>e=.returned (.int .i64 (n:Int))∧w'=w:=by
 go_enter Tryz.func59,Tryz.ntmps59
 go_wp2_with fail
 go_ret
 exact⟨rfl,rfl⟩
theorem infoSec:(Tryz.prog.info? 159).map (·.size)=some 512:=by kernel_rfl
theorem infoU8:(Tryz.prog.info? 5).map (·.size)=some 1:=by kernel_rfl
theorem copyB (W:World)(B T o:Nat)(cs:List Value)(hB:Blk W B T cs)(a:Option Addr)(n c:Nat)(k:List UInt8)(hk:IsB W a n c k)(hn:0<n)(hfit:o+n≤cs.length):
  ∃W',(Builtin.copy_ #[33,33] 3 #[.slice (some ⟨B,o,none⟩) n n,.slice a n c]).run Tryz.prog W=.ok (.int .i64 (n:Int)) W'∧Blk W' B T (putL cs o (bv k))∧W.grownBy W' (some B):=by
 obtain⟨b,off,rfl,hc⟩:=hk.cells hn
 have hlen:=hk.len_eq
 have hcs:∀j v,(bv k)[j]?=some v→W.cell? ((⟨b,off,none⟩:Addr).add j)=some v:=by
  intro j v hj
  have hjl:j<k.length:=by have:=(List.getElem?_eq_some_iff.1 hj).1;rwa [bv_length] at this
  rw[bv_at k j hjl] at hj
  rw[Addr.add_lit,hc j (by omega),←hj]
 have h:=run_copy_row (P:=Tryz.prog) W 33 33 3 5 B o n n ⟨b,off,none⟩ n c _ T (bv k) Tryz.underlying33 infoU8 hB (by rw[bv_length,hlen];show n=min n n;omega) hcs (by rw[bv_length,List.size_toArray];omega) (bv_one k)
 have e2:cs.take o++bv k++cs.drop (o+(bv k).length)=putL cs o (bv k):=by
  apply List.ext_getElem?
  intro j
  rw[putL_at _ _ _ _ (by rw[bv_length];omega),bv_length,hlen]
  by_cases h1:j<o
  ·rw[if_neg (by omega),List.append_assoc,List.getElem?_append_left (by rw[List.length_take];omega),List.getElem?_take_of_lt h1]
  ·by_cases h2:j<o+n
   ·have hl2:(cs.take o++bv k).length=o+n:=by rw[List.length_append,List.length_take,bv_length];omega
    rw[if_pos (by omega),List.getElem?_append_left (by omega),List.getElem?_append_right (by rw[List.length_take];omega),List.length_take,show min o cs.length=o by omega]
   ·have hl2:(cs.take o++bv k).length=o+n:=by rw[List.length_append,List.length_take,bv_length];omega
    rw[if_neg (by omega),List.getElem?_append_right (by omega),hl2,List.getElem?_drop,show o+n+(j-(o+n))=j by omega]
 refine⟨_,?_,hB.row (putL cs o (bv k)),⟨rfl,rfl,rfl,by simp[World.setRow],fun i _ hi=>setRow_other W B i _ (fun e=>hi (by rw[e]))⟩⟩
 rw[h,bv_length,hlen]
 rw[bv_length,hlen] at e2
 rw[←e2]
 rfl
theorem putL_all (k:List UInt8)(cs:List Value)(h:cs.length=k.length):putL cs 0 (bv k)=bv k:=by
 apply List.ext_getElem?
 intro j
 rw[putL_at _ _ _ _ (by rw[bv_length];omega),bv_length]
 by_cases hj:j<k.length
 ·rw[if_pos (by omega),Nat.sub_zero]
 ·rw[if_neg (by omega),List.getElem?_eq_none (by omega),List.getElem?_eq_none (by rw[bv_length];omega)]
theorem Bytes2 (w0 w1:World){H:Nat}{b z:List UInt8}(hi:IsB w0 (some ⟨H,0,none⟩) 512 512 b)(ho:OwnB w1 w0.heap.size (.slice (some ⟨w0.heap.size,0,none⟩) 512 512) z)(hg:w0.grownBy w1 none):
  ∃w2,(Builtin.copy_ #[33,33] 3 #[.slice (some ⟨w0.heap.size,0,none⟩) 512 512,.slice (some ⟨H,0,none⟩) 512 512]).run Tryz.prog w1=.ok (.int .i64 512) w2∧Blk w2 w0.heap.size 5 (bv b)∧w1.grownBy w2 (some w0.heap.size):=by
 obtain⟨_,h2⟩:=ho
 rcases h2 with⟨h,_⟩|⟨g,cap,cur,e,_,hgb,_,_,hsz,_⟩
 ·cases h
 ·injection e with e1 _ e3
  have e4:w0.heap.size=g:=by injection e1 with e1;injection e1 with e1
  subst e4
  have hcl:cur.toList.length=512:=by rw[Array.length_toList,hsz,←e3]
  have hB:Blk w1 w0.heap.size 5 cur.toList:=by unfold Blk;rw[hgb]
  have hi1:IsB w1 (some ⟨H,0,none⟩) 512 512 b:=hi.below (n:=w0.heap.size) ⟨hg.1,hg.2,hg.3,hg.4,fun k hk=>hg.5 k hk (by simp)⟩ rfl
  obtain⟨w2,h1,h2,h3⟩:=copyB w1 _ _ 0 _ hB _ 512 512 b hi1 (by omega) (by omega)
  rw[putL_all b _ (by rw[hcl,hi.len_eq])] at h2
  exact⟨w2,h1,h2,h3⟩
theorem codBytes (b:List UInt8)(w:World)(hb:b.length=512):
  Calls Tryz.prog 96 #[.agg (bv b).toArray] w fun e w'=>∃g,e=.returned (.slice (some ⟨g,0,none⟩) 512 512)∧w.heap.size≤g∧Blk w' g 5 (bv b)∧Below w.heap.size w w':=by
 have hB0:Blk (w.alloc (.cells (bv b).toArray 159)) w.heap.size 159 (bv b):=Blk.new w _ _
 have HD0:Hid (Below w.heap.size w (w.alloc (.cells (bv b).toArray 159))):=(Below.refl _ w).alloc (Nat.le_refl _) _
 have HL:Hid (b.length=512):=hb
 have HI:Hid (IsB (w.alloc (.cells (bv b).toArray 159)) (some ⟨w.heap.size,0,none⟩) 512 512 b):=⟨hb,Nat.le_refl _,by decide,fun e=>(by cases e),fun _=>⟨_,0,rfl,fun i hi=>by rw[hB0.cell,Nat.zero_add,bv_at b i (by omega)]⟩⟩
 have HX:Hid (Blk (w.alloc (.cells (bv b).toArray 159)) w.heap.size 159 (bv b)):=hB0
 clear hB0 hb
 generalize hcs:bv b=cs at *
 have HC:Hid (bv b=cs):=hcs
 clear hcs
 go_enter Tryz.func96,Tryz.ntmps96
 go_upto_region 1 with fail
 generalize hH:w.heap.size=H at *
 have HH:Hid (w.heap.size=H):=hH
 clear hH
 generalize w.alloc (.cells cs.toArray 159)=w0 at *
 go_wp2_with (at_make;refine make_full8 w0 rfl _ _ rfl w0.heap.size .i64 .i64 _ _ 512 rfl rfl rfl rfl (by omega) (Nat.le_refl _) ?_;intro w1 ho1 hg1;have HG:=mkHid (And.intro ho1 hg1);obtain⟨w2,hr,hB2,hg2⟩:=Bytes2 w0 w1 HI.out ho1 hg1;clear ho1 hg1;have HB2:=mkHid hB2;have HG2:=mkHid hg2;clear hB2 hg2;generalize hS:w0.heap.size=S0 at *;have HS:=mkHid hS;clear hS)
 go_ret
 refine⟨S0,rfl,?_,?_,?_⟩
 ·rw[←HS.out];exact HD0.out.size
 ·rw[HC.out] at HB2;exact HB2.out
 ·have h1:Below w0.heap.size w0 w1:=(Below.refl _ w0).grown HG.out.2 (Nat.le_refl _) (fun k e=>by cases e)
  have h2:Below w0.heap.size w1 w2:=(Below.refl _ w1).grown HG2.out h1.size (fun k e=>by rw[HS.out];have:=Option.some.inj e;omega)
  rw[HH.out]
  exact HD0.out.trans ((h1.trans h2).mono (by rw[←HH.out];exact HD0.out.size))
end Go.Proofs.YtpecobmfabmpkaaGreatDoor
