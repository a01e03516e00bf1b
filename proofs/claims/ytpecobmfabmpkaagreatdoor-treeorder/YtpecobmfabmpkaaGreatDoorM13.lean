/- SpB PsE BlP Tr2 SpD SpE SpF SpG SpI SpH SpJ Tk Tp2 Tp3 PtM -/
import Derived.Test.YtpecobmfabmpkaaGreatDoorM12
set_option maxRecDepth 20000
set_option maxHeartbeats 2000000
namespace Go.Proofs.YtpecobmfabmpkaaGreatDoor
section
open Go.RowKit
theorem spcOK:SpcOK JAt SpAx where
 toJ:=fun ⟨_,_,_,h⟩=>jrnOK.toJ h.ta
 lo:=fun ⟨_,_,_,h⟩=>h.ta.lo
 keep:=fun h hk=>h.keep hk
 open_:=codOpen
 take:=codTake
 give:=codGive
 read:=codSRead
 write:=codSWrite
 free:=codFree
 commit:=codSCommit
 taken:=fun w a len cap l i h _ h0 h1=>(codTaken a len cap l i w h h0 h1).mono fun _ _ ⟨he,m,hm⟩=>⟨he,by rw[hm];exact bel_drewN (Below.refl _ _) m⟩
 count:=fun w a len cap l n h hl h0 h1=>(codSCount a len cap l n w h hl h0 h1).mono fun _ _ ⟨he,hm⟩=>⟨he,by rw[hm];exact Below.refl _ _⟩
theorem fold_find:∀(l:Qs) (st:Nat→List UInt8)(i:Nat),SortQ l→l.foldl Pl.put st i=(Tl.find l (i:Int)).getD (st i):=by
 intro l
 induction l with
 | nil=>intro st i _;rfl
 | cons g l ih =>
  intro st i hs
  have hs2:=List.pairwise_cons.1 hs
  rw[List.foldl_cons,ih _ _ hs2.2]
  by_cases h:g.1=i
  ·have hn:Tl.find l (i:Int)=none:=by
    unfold Tl.find
    rw[Option.map_eq_none_iff,List.find?_eq_none]
    intro x hx he
    have:=hs2.1 x hx
    have:(x.1:Int)=(i:Int):=by simpa using he
    omega
   have hf:Tl.find (g::l) (i:Int)=some g.2:=by unfold Tl.find;simp[h]
   rw[hn,hf]
   simp[Pl.put,h]
  ·have hf:Tl.find (g::l) (i:Int)=Tl.find l (i:Int):=by
    unfold Tl.find
    rw[List.find?_cons_of_neg (by simpa using (fun e:(g.1:Int)=(i:Int)=>h (by omega)))]
   rw[hf]
   have:Pl.put st g i=st i:=by unfold Pl.put;rw[if_neg h]
   rw[this]
theorem fold_other:∀(l:Qs) (st:Nat→List UInt8)(i:Nat),(∀g∈l,g.1≠i)→l.foldl Pl.put st i=st i:=by
 intro l
 induction l with
 | nil=>intro st i _;rfl
 | cons g l ih =>
  intro st i h
  rw[List.foldl_cons,ih _ _ (fun x hx=>h x (List.mem_cons_of_mem _ hx))]
  unfold Pl.put
  rw[if_neg (h g (List.mem_cons_self ..))]
theorem slot_low (l:Qs)(hl:l.length≤48):∀g∈slotQ l,g.1<49:=fun g hg=>by
 unfold slotQ at hg
 obtain⟨i,hi,rfl⟩:=List.mem_map.1 hg
 have:=List.mem_range.1 hi
 show 1+i<49
 omega
theorem cm_read {t:Tl}{j:Jl}{m:Nat}(h:Fit t j m)(hs:SortQ t.l)(i:Nat)(h0:49≤i)(h1:i<j.p.n):Tl.rdB ⟨[],false⟩ (cmJ t j) (i:Int)=t.rdB j (i:Int):=by
 have hnot:¬(t.over=true∨j.dead=true):=by rw[h.over,h.dead];simp
 have ha:areaI j.p.n (i:Int)=true:=by unfold areaI;exact decide_eq_true (by omega)
 have hin:inR j.p.n (i:Int)=true:=by unfold inR;exact decide_eq_true (by omega)
 by_cases hne:t.l=[]
 ·have e2:cmJ t j=j:=by unfold cmJ;rw[if_neg hnot,if_pos hne]
  rw[e2]
  unfold Tl.rdB
  rw[hne]
 ·obtain⟨_,q,e2,h3,h4,h5,h6⟩:=commit_ok h.few h.good h.over h.dead hne h.len (fun g hg=>⟨h.at_ g hg,h.lens g hg⟩)
  rw[e2]
  have eL:Tl.rdB ⟨[],false⟩ ⟨q,nxt j.seq,false⟩ (i:Int)=q.st i:=by
   show (if areaI q.n (i:Int)=false then [] else q.rdB (i:Int))=_
   rw[h4,ha,if_neg (by simp)]
   unfold Pl.rdB
   rw[h3.off,h4,hin,h5]
   rfl
  rw[eL,h6,fold_find _ _ _ hs,fold_other [(0,sealJ (nxt j.seq) t.l)] _ i (fun g hg=>by rw[List.mem_singleton.1 hg];show 0≠i;omega),List.foldl_append,fold_other (slotQ t.l) _ i (fun g hg=>by have:=slot_low t.l h.len g hg;omega)]
  unfold Tl.rdB
  cases Tl.find t.l (i:Int) with
  | some b=>rfl
  | none =>
   simp only[Option.getD_none]
   rw[ha,if_neg (by simp)]
   unfold Pl.rdB
   rw[h.good.off,hin]
   rfl
theorem cm_map {t:Tl}{j:Jl}{m:Nat}(h:Fit t j m)(hs:SortQ t.l):mapL ⟨[],false⟩ (cmJ t j)=mapL t j:=cm_read h hs 49 (Nat.le_refl _) (by have:=h.few.n0;omega)
theorem cm_spRd {t:Tl}{j:Jl}{m:Nat}(h:Fit t j m)(hs:SortQ t.l)(i:Nat)(h0:50≤i)(h1:i<j.p.n):spRdB ⟨[],false⟩ (cmJ t j) (i:Int)=spRdB t j (i:Int):=by
 unfold spRdB
 rw[if_neg (by omega),if_neg (by omega)]
 exact cm_read h hs i (by omega) h1
theorem mountN (n:Nat)(h0:64≤n)(h1:n≤4096):mountE (Pl.new n)=0∧mountP (Pl.new n)=Pl.new n∧mountS (Pl.new n)=0:=by
 obtain⟨h1,_,h2⟩:=mount_good (few_mnew n h0 h1) (good_new n)
 refine⟨h1,?_,by unfold mountS;rw[held_new]⟩
 rcases h2 with h2|⟨s,l,h2,_⟩
 ·exact h2.2
 ·rw[held_new] at h2;cases h2
theorem newFit (n:Nat)(h0:64≤n)(h1:n≤4096):Fit ⟨[],false⟩ ⟨Pl.new n,0,false⟩ 50 :=
 ⟨(few_mnew n h0 h1).more (by omega),by omega,good_new n,Nat.zero_le _,fun g hg=>(by cases hg),fun g hg=>(by cases hg),rfl,rfl,by show (0:Nat)<18446744073709551616;omega⟩
theorem wr_okT {t:Tl}{j:Jl}{i:Int}{b:List UInt8}(ho:t.over=false)(hd:j.dead=false)(hl:t.l.length<48)(h0:49≤i)(h1:i<(j.p.n:Int))(hb:b.length=512):t.wrE j i b=0:=by
 have h1:¬(t.over=true∨j.dead=true):=by rw[ho,hd];simp
 have h2:¬areaI j.p.n i=false:=by unfold areaI;rw[decide_eq_true (by omega)];simp
 unfold Tl.wrE
 rw[if_neg h1,if_neg h2,if_neg (fun h=>h hb),if_neg (fun h=>by omega)]
theorem putQ_len1 (l:Qs)(i:Nat)(b:List UInt8):(putQ l i b).length≤l.length+1:=by
 induction l with
 | nil=>rw[putQ];exact Nat.le_refl _
 | cons g l ih =>
  rw[putQ]
  split
  ·rw[List.length_cons,List.length_cons];omega
  ·split<;>rw[List.length_cons]<;>(try rw[List.length_cons])<;>omega
structure Tk (t:Tl)(j:Jl)(m:Nat)(L:List Int):Prop where
 fit:Fit t j m
 sort:SortQ t.l
 mem:∀x:Nat,51≤x→x<j.p.n→(bitN (mapL t j) x=true↔(x:Int)∈L)
 nodup:L.Nodup
 rng:∀z∈L,51≤z∧z<(j.p.n:Int)
theorem Tk.map_len {t:Tl}{j:Jl}{m:Nat}{L:List Int}(h:Tk t j m L):(mapL t j).length=512:=(map_ok h.fit.few h.fit.good.off h.fit.lens).2
theorem write_sort {t:Tl}{j:Jl}{i:Nat}{b:List UInt8}(hz:t.wrE j (i:Int) b=0)(hs:SortQ t.l):SortQ (t.write j (i:Int) b).l:=by
 rw[write_l hz]
 exact putQ_sort _ _ _ hs
theorem write_len1 {t:Tl}{j:Jl}{i:Nat}{b:List UInt8}(hz:t.wrE j (i:Int) b=0):(t.write j (i:Int) b).l.length≤t.l.length+1:=by
 rw[write_l hz]
 exact putQ_len1 _ _ _
theorem Tk.write {t:Tl}{j:Jl}{m:Nat}{L:List Int}(h:Tk t j m L)(hr:t.l.length<48){k:Nat}(h0:51≤k)(h1:k<j.p.n){b:List UInt8}(hb:b.length=512):
  spWrE t j (k:Int) b=0∧Tk (spWr t j (k:Int) b) j m L∧(spWr t j (k:Int) b).l.length≤t.l.length+1∧∀z:Int,Tl.find (spWr t j (k:Int) b).l z=if z=(k:Int) then some b else Tl.find t.l z:=by
 have e1:t.wrE j (k:Int) b=0:=wr_okT h.fit.over h.fit.dead hr (by omega) (by omega) hb
 have e2:spWrE t j (k:Int) b=0:=by unfold spWrE;rw[if_neg (by omega),e1]
 have e3:spWr t j (k:Int) b=t.write j (k:Int) b:=by unfold spWr;rw[if_neg (by omega)]
 refine⟨e2,?_,by rw[e3];exact write_len1 e1,fun z=>?_⟩
 ·rw[e3]
  refine⟨h.fit.write _ _,write_sort e1 h.sort,fun x hx hy=>?_,h.nodup,h.rng⟩
  rw[map_other (by omega)]
  exact h.mem x hx hy
 ·rw[e3,write_l e1,find_put]
theorem Tk.take {t:Tl}{j:Jl}{m:Nat}{L:List Int}(h:Tk t j m L)(hr:t.l.length+2≤48):
  (tkE t j=44∧tkT t j=t∧∀x:Nat,51≤x→x<j.p.n→(x:Int)∈L) ∨
  (tkE t j=0∧51≤tkV t j∧tkV t j<j.p.n∧(tkV t j:Int)∉L∧Tk (tkT t j) j m (L++[(tkV t j:Int)])∧(tkT t j).l.length≤t.l.length+2∧∀z:Int,Tl.find (tkT t j).l z=if z=49 then some (flipL (mapL t j) (tkV t j)) else if z=(tkV t j:Int) then some zero512 else Tl.find t.l z):=by
 have hn0:=h.fit.few.n0
 have hn1:=h.fit.few.n
 rcases tkGo_spec (mapL t j) (j.p.n-51) 51 with⟨h1,h2⟩|⟨k1,k2,k3⟩
 ·have hk:tkK t j=j.p.n:=by unfold tkK tkI;rw[h1];omega
  obtain⟨a,_,c⟩:=tk_full hk
  exact .inl ⟨a,c,fun x hx hy=>(h.mem x hx hy).1 (h2 x hx (by omega))⟩
 ·refine .inr ?_
  obtain⟨k,hke⟩:∃k,tkK t j=k:=⟨_,rfl⟩
  have hke2:tkGo (mapL t j) (j.p.n-51) 51=k:=hke
  rw[hke2] at k1 k2 k3
  have k2:k<j.p.n:=by omega
  have e1:tkE1 t j k=0:=wr_okT h.fit.over h.fit.dead (by omega) (by omega) (by omega) zero_len
  have s1:SortQ (tkT1 t j k).l:=write_sort (b:=zero512) e1 h.sort
  have l1:(tkT1 t j k).l.length≤t.l.length+1:=write_len1 (b:=zero512) e1
  have f1:Fit (tkT1 t j k) j m:=h.fit.write _ _
  have m1:mapL (tkT1 t j k) j=mapL t j:=map_other (by omega)
  have hfl:(flipL (mapL t j) k).length=512:=by rw[flipL_length];exact h.map_len
  have e2:tkE2 t j k=0:=by
   unfold tkE2
   rw[m1]
   exact wr_okT f1.over f1.dead (by omega) (by omega) (by omega) hfl
  obtain⟨a1,a2,a3⟩:=tk_yes hke k2 e1 e2
  have hnot:(k:Int)∉L:=fun hm=>by rw[(h.mem k k1 k2).2 hm] at k3;cases k3
  have e2':(tkT1 t j k).wrE j ((49:Nat):Int) (flipL (mapL t j) k)=0:=by
   have:=e2
   unfold tkE2 at this
   rw[m1] at this
   exact this
  have hT2:tkT2 t j k=(tkT1 t j k).write j ((49:Nat):Int) (flipL (mapL t j) k):=by unfold tkT2;rw[m1];rfl
  have m2:mapL (tkT2 t j k) j=flipL (mapL t j) k:=by rw[hT2];exact map_write e2'
  rw[a2,a3]
  refine⟨a1,k1,k2,hnot,?_,?_,fun z=>?_⟩
  ·refine⟨?_,?_,?_,?_,?_⟩
   ·rw[hT2];exact f1.write _ _
   ·rw[hT2];exact write_sort e2' s1
   ·intro x hx hy
    rw[m2,flip_bit _ _ _ (by rw[h.map_len];omega),List.mem_append,List.mem_singleton]
    by_cases e:x=k
    ·subst e
     rw[if_pos rfl,k3]
     exact⟨fun _=>.inr rfl,fun _=>rfl⟩
    ·rw[if_neg e,h.mem x hx hy]
     exact⟨fun h=>.inl h,fun h=>by rcases h with h|h;exact h;omega⟩
   ·exact List.nodup_append.2 ⟨h.nodup,List.nodup_cons.2 ⟨List.not_mem_nil,List.nodup_nil⟩,fun x hx y hy e=>by rw[List.mem_singleton.1 hy] at e;rw[e] at hx;exact hnot hx⟩
   ·intro z hz
    rcases List.mem_append.1 hz with h1|h1
    ·exact h.rng z h1
    ·rw[List.mem_singleton.1 h1];omega
  ·rw[hT2]
   have:=write_len1 e2'
   omega
  ·rw[hT2,write_l e2',find_put]
   by_cases e:z=49
   ·rw[if_pos (show z=((49:Nat):Int) from e),if_pos e]
   ·rw[if_neg (show ¬z=((49:Nat):Int) from e),if_neg e]
    unfold tkT1
    rw[write_l e1,find_put]
theorem Tk.commit {t:Tl}{j:Jl}{m:Nat}{L:List Int}(h:Tk t j m L)(hm:m+150≤80000):cmE t j=0∧Tk ⟨[],false⟩ (cmJ t j) (m+150) L∧(cmJ t j).p.n=j.p.n:=by
 obtain⟨e,hf,hn⟩:=h.fit.commit hm
 refine⟨e,⟨hf,List.Pairwise.nil,fun x hx hy=>?_,h.nodup,fun z hz=>?_⟩,hn⟩
 ·rw[cm_map h.fit h.sort]
  exact h.mem x hx (by rw[hn] at hy;exact hy)
 ·rw[hn];exact h.rng z hz
theorem free_lowT (b:List UInt8)(n:Nat)(L:List Int)(hn:L.Nodup)(hr:∀z∈L,51≤z∧z<(n:Int))(hm:∀x:Nat,51≤x→x<n→(bitN b x=true↔(x:Int)∈L)):∀d,51+d≤n→freeL b d+lowN L ((51+d:Nat):Int)=d:=by
 intro d
 induction d with
 | zero =>
  intro _
  unfold lowN
  rw[List.filter_eq_nil_iff.2 (fun z hz=>by have:=hr z hz;simp;omega)]
  rfl
 | succ d ih =>
  intro hd
  have h1:=ih (by omega)
  have h2:=low_step L ((51+d:Nat):Int) hn
  have h3:(((51+d:Nat):Int)+1)=((51+(d+1):Nat):Int):=by omega
  rw[h3] at h2
  rw[h2,freeL]
  have h4:=hm (51+d) (by omega) (by omega)
  by_cases e:bitN b (51+d)=true
  ·rw[if_pos e,if_pos (h4.1 e)];omega
  ·rw[if_neg e,if_neg (fun h=>e (h4.2 h))];omega
theorem Tk.all {t:Tl}{j:Jl}{m:Nat}{L:List Int}(h:Tk t j m L):freeL (mapL t j) (j.p.n-51)+L.length=j.p.n-51:=by
 have hn0:=h.fit.few.n0
 have h1:=free_lowT (mapL t j) j.p.n L h.nodup h.rng h.mem (j.p.n-51) (by omega)
 have e:lowN L ((51+(j.p.n-51):Nat):Int)=L.length:=by
  unfold lowN
  rw[List.filter_eq_self.2 (fun z hz=>by have:=h.rng z hz;simp;omega)]
 rw[e] at h1
 exact h1
theorem Tk.read {t:Tl}{j:Jl}{m:Nat}{L:List Int}(h:Tk t j m L){k:Nat}(h0:51≤k)(h1:k<j.p.n):spRdE t j (k:Int)=0∧(spRdB t j (k:Int)).length=512∧spRdB t j (k:Int)=(Tl.find t.l (k:Int)).getD (j.p.rdB (k:Int)):=by
 have ha:areaI j.p.n (k:Int)=true:=by unfold areaI;exact decide_eq_true (by omega)
 have hi:inR j.p.n (k:Int)=true:=by unfold inR;exact decide_eq_true (by omega)
 have hE:spRdE t j (k:Int)=t.rdE j (k:Int):=by unfold spRdE;rw[if_neg (by omega)]
 have hB:spRdB t j (k:Int)=t.rdB j (k:Int):=by unfold spRdB;rw[if_neg (by omega)]
 rw[hE,hB]
 unfold Tl.rdE Tl.rdB
 cases hq:Tl.find t.l (k:Int) with
 | some b=>exact⟨rfl,find_512 h.fit.lens hq,rfl⟩
 | none =>
  simp only[ha]
  refine⟨?_,?_,rfl⟩
  ·unfold Pl.rdE Pl.stE;rw[h.fit.good.off,hi];rfl
  ·unfold Pl.rdB;rw[h.fit.good.off,hi];exact put512 _ _ h.fit.few.st (fun g hg=>(h.fit.few.at_ g hg).2) _
theorem tk_new (n:Nat)(h0:64≤n)(h1:n≤4096):Tk ⟨[],false⟩ ⟨Pl.new n,0,false⟩ 50 []:=by
 have hf:=newFit n h0 h1
 refine⟨hf,List.Pairwise.nil,fun x _ _=>?_,List.nodup_nil,fun z hz=>(by cases hz)⟩
 have hm:mapL ⟨[],false⟩ ⟨Pl.new n,0,false⟩=zero512:=by
  have ha:areaI (Pl.new n).n 49=true:=by unfold areaI;exact decide_eq_true (show _∧_ by have:(Pl.new n).n=n:=rfl;omega)
  have hi:inR (Pl.new n).n 49=true:=by unfold inR;exact decide_eq_true (by have:(Pl.new n).n=n:=rfl;omega)
  show (if areaI (Pl.new n).n 49=false then [] else (Pl.new n).rdB 49)=_
  rw[ha,if_neg (by simp)]
  unfold Pl.rdB
  rw[hi]
  rfl
 have e:nth zero512 (x/8)=0:=by
  unfold nth zero512
  rw[List.getD_eq_getElem?_getD,List.getElem?_replicate]
  split<;>rfl
 have e2:bitN (mapL ⟨[],false⟩ ⟨Pl.new n,0,false⟩) x=false:=by rw[hm];unfold bitN;rw[e];simp
 rw[e2]
 exact⟨fun h=>(by cases h),fun h=>(by cases h)⟩
theorem Tk.read_eq {t t':Tl}{j:Jl}{m m':Nat}{L L':List Int}(h:Tk t j m L)(h':Tk t' j m' L'){k:Nat}(h0:51≤k)(h1:k<j.p.n)(hf:Tl.find t'.l (k:Int)=Tl.find t.l (k:Int)):spRdB t' j (k:Int)=spRdB t j (k:Int):=by
 rw[(h'.read h0 h1).2.2,(h.read h0 h1).2.2,hf]
def Same3 (t t':Tl)(j:Jl)(s:Nat):Prop:=∀k:Nat,51≤k→k<j.p.n→k≠s→spRdB t' j (k:Int)=spRdB t j (k:Int)
theorem Tk.perm {t:Tl}{j:Jl}{m:Nat}{L L':List Int}(h:Tk t j m L)(hp:L.Perm L'):Tk t j m L' :=
 ⟨h.fit,h.sort,fun x h0 h1=>(h.mem x h0 h1).trans hp.mem_iff,hp.nodup_iff.1 h.nodup,fun z hz=>h.rng z (hp.mem_iff.2 hz)⟩
theorem Tk.wr {t:Tl}{j:Jl}{m:Nat}{L:List Int}(h:Tk t j m L)(hr:t.l.length<48){k:Nat}(hk:(k:Int)∈L){b:List UInt8}(hb:b.length=512):
  spWrE t j (k:Int) b=0∧Tk (spWr t j (k:Int) b) j m L∧(spWr t j (k:Int) b).l.length≤t.l.length+1∧spRdB (spWr t j (k:Int) b) j (k:Int)=b∧Same3 t (spWr t j (k:Int) b) j k:=by
 have hz:=h.rng _ hk
 obtain⟨h1,h2,h3,h4⟩:=h.write hr (k:=k) (by omega) (by omega) hb
 refine⟨h1,h2,h3,?_,fun i h0 h5 h6=>?_⟩
 ·rw[(h2.read (by omega) (by omega)).2.2,h4,if_pos rfl];rfl
 ·exact h.read_eq h2 h0 h5 (by rw[h4,if_neg (by omega)])
def addT (t:Tl)(j:Jl)(b:List UInt8):Tl:=spWr (tkT t j) j (tkV t j:Int) b
theorem Tk.add {t:Tl}{j:Jl}{m:Nat}{L:List Int}(h:Tk t j m L)(hr:t.l.length+3≤48)(hL:L.length<j.p.n-51){b:List UInt8}(hb:b.length=512):
  tkE t j=0∧51≤tkV t j∧tkV t j<j.p.n∧(tkV t j:Int)∉L∧Fit (tkT t j) j m∧spWrE (tkT t j) j (tkV t j:Int) b=0∧Tk (addT t j b) j m ((tkV t j:Int):: L)∧(addT t j b).l.length≤t.l.length+3∧spRdB (addT t j b) j (tkV t j:Int)=b∧Same3 t (addT t j b) j (tkV t j):=by
 rcases h.take (by omega) with⟨_,_,h3⟩|⟨h1,h2,h3,h4,h5,h6,h7⟩
 ·exfalso
  have hall:=h.all
  have hf:freeL (mapL t j) (j.p.n-51)=0:=by
   have:∀d,51+d≤j.p.n→freeL (mapL t j) d=0:=by
    intro d
    induction d with
    | zero=>intro _;rfl
    | succ d ih =>
     intro hd
     rw[freeL,ih (by omega),if_pos ((h.mem (51+d) (by omega) (by omega)).2 (h3 _ (by omega) (by omega)))]
   have hn0:=h.fit.few.n0
   exact this _ (by omega)
  omega
 ·obtain⟨g1,g2,g3,g4,g5⟩:=h5.wr (k:=tkV t j) (by omega) (List.mem_append_right _ List.mem_cons_self) hb
  refine⟨h1,h2,h3,h4,h5.fit,g1,?_,by unfold addT;omega,g4,fun i i0 i1 i2=>?_⟩
  ·exact g2.perm (List.perm_append_singleton _ _)
  ·exact(g5 i i0 i1 i2).trans (h.read_eq h5 i0 i1 (by rw[h7,if_neg (by omega),if_neg (by omega)]))
structure LfAt (t:Tl)(j:Jl)(s:Nat)(l:List Et):Prop where
 ok:LfOk l
 rd:spRdB t j (s:Int)=leafB l
theorem LfAt.same {t t':Tl}{j:Jl}{s:Nat}{l:List Et}(h:LfAt t j s l)(he:spRdB t' j (s:Int)=spRdB t j (s:Int)):LfAt t' j s l:=⟨h.ok,he.trans h.rd⟩
abbrev Ps:=List (Nat × List Et)
def entsP:Ps→List Et
 | []=>[]
 | p::ps=>p.2++entsP ps
def secsP (ps:Ps):List Int:=ps.map fun p=>(p.1:Int)
theorem entsP_append (a b:Ps):entsP (a++b)=entsP a++entsP b:=by
 induction a with
 | nil=>rfl
 | cons p a ih=>rw[List.cons_append,entsP,entsP,ih,List.append_assoc]
theorem mem_entsP {ps:Ps}{e:Et}:e∈entsP ps↔∃p∈ps,e∈p.2:=by
 induction ps with
 | nil=>exact⟨fun h=>(by cases h),fun ⟨_,h,_⟩=>(by cases h)⟩
 | cons p ps ih =>
  rw[entsP,List.mem_append,ih]
  constructor
  ·rintro(h|⟨q,h1,h2⟩)
   ·exact⟨p,List.mem_cons_self,h⟩
   ·exact⟨q,List.mem_cons_of_mem _ h1,h2⟩
  ·rintro⟨q,h1,h2⟩
   rcases List.mem_cons.1 h1 with h|h
   ·exact .inl (h▸h2)
   ·exact .inr ⟨q,h,h2⟩
structure NdAt (t:Tl)(j:Jl)(s:Nat)(ps:Ps):Prop where
 n:2≤ps.length
 n2:ps.length≤254
 rd:spRdB t j (s:Int)=nodeB (ps.map (·.1))
 lf:∀p∈ps,LfAt t j p.1 p.2
def TR (t:Tl)(j:Jl)(root:Nat)(l:List Et)(S:List Int):Prop :=
 SrtE l∧((root=0∧l=[]∧S=[])∨(S=[(root:Int)]∧LfAt t j root l)∨∃ps,NdAt t j root ps∧l=entsP ps∧S=(root:Int):: secsP ps)
theorem entsP_len {ps:Ps}(h:∀p∈ps,p.2≠[]):ps.length≤(entsP ps).length:=by
 induction ps with
 | nil=>exact Nat.le_refl _
 | cons p ps ih =>
  have h1:=ih (fun q hq=>h q (List.mem_cons_of_mem _ hq))
  have h2:=List.length_pos_iff.2 (h p List.mem_cons_self)
  rw[entsP,List.length_append,List.length_cons]
  omega
theorem TR.pages {t:Tl}{j:Jl}{root:Nat}{l:List Et}{S:List Int}(h:TR t j root l S):(S.length=0↔l.length=0)∧S.length≤2 * l.length-1∧S.length≤l.length+1:=by
 rcases h.2 with⟨_,h1,h2⟩|⟨h1,h2⟩|⟨ps,h1,h2,h3⟩
 ·rw[h1,h2];simp
 ·have:=List.length_pos_iff.2 h2.ok.ne
  rw[h1,List.length_cons,List.length_nil]
  omega
 ·have h4:=entsP_len (fun p hp=>(h1.lf p hp).ok.ne)
  rw[←h2] at h4
  have h5:=h1.n
  rw[h3,List.length_cons]
  unfold secsP
  rw[List.length_map]
  omega
theorem TR.same {t t':Tl}{j j':Jl}{root:Nat}{l:List Et}{S:List Int}(h:TR t j root l S)(he:∀k:Nat,(k:Int)∈S→spRdB t' j' (k:Int)=spRdB t j (k:Int)):TR t' j' root l S:=by
 refine⟨h.1,?_⟩
 rcases h.2 with h1|⟨h1,h2⟩|⟨ps,h1,h2,h3⟩
 ·exact .inl h1
 ·exact .inr (.inl ⟨h1,h2.ok,(he _ (by rw[h1];exact List.mem_cons_self)).trans h2.rd⟩)
 ·refine .inr (.inr ⟨ps,⟨h1.n,h1.n2,(he _ (by rw[h3];exact List.mem_cons_self)).trans h1.rd,fun p hp=>⟨(h1.lf p hp).ok,(he _ ?_).trans (h1.lf p hp).rd⟩⟩,h2,h3⟩)
  rw[h3]
  exact List.mem_cons_of_mem _ (List.mem_map.2 ⟨p,hp,rfl⟩)
structure FR (t:Tl)(j:Jl)(m:Nat)(P:Ps)(X:List Int):Prop where
 tk:Tk t j m (X++secsP P)
 lf:∀p∈P,LfAt t j p.1 p.2
theorem secsP_append (a b:Ps):secsP (a++b)=secsP a++secsP b:=List.map_append
theorem secsP_cons (p:Nat × List Et)(a:Ps):secsP (p::a)=(p.1:Int):: secsP a:=rfl
theorem FR.rng {t:Tl}{j:Jl}{m:Nat}{P:Ps}{X:List Int}(h:FR t j m P X){p:Nat × List Et}(hp:p∈P):51≤p.1∧p.1<j.p.n:=by
 have:=h.tk.rng (p.1:Int) (List.mem_append_right _ (List.mem_map.2 ⟨p,hp,rfl⟩))
 omega
theorem leafB_len (l:List Et):(leafB l).length=512:=pad512_len _
theorem nodeB_len (l:List Nat):(nodeB l).length=512:=pad512_len _
theorem FR.apart {t:Tl}{j:Jl}{m:Nat}{A B:Ps}{p:Nat × List Et}{X:List Int}(h:FR t j m (A++p::B) X){q:Nat × List Et}(hq:q∈A++B):q.1≠p.1:=fun e=>by
 have hn:=h.tk.nodup
 rw[secsP_append,secsP_cons] at hn
 have h2:=(List.nodup_append.1 hn).2.1
 have h3:=List.perm_middle.nodup_iff.1 h2
 have h4:=(List.nodup_cons.1 h3).1
 rw[←secsP_append] at h4
 exact h4 (by rw[←e];exact List.mem_map.2 ⟨q,hq,rfl⟩)
theorem mem_mid {α:Type}{A B:List α}{p q:α}(h:q∈A++p::B):q=p∨q∈A++B:=by
 rcases List.mem_append.1 h with h|h
 ·exact .inr (List.mem_append_left _ h)
 ·rcases List.mem_cons.1 h with h|h
  ·exact .inl h
  ·exact .inr (List.mem_append_right _ h)
theorem mid_mem {α:Type}{A B:List α}{p q:α}(h:q∈A++B):q∈A++p::B:=by
 rcases List.mem_append.1 h with h|h
 ·exact List.mem_append_left _ h
 ·exact List.mem_append_right _ (List.mem_cons_of_mem _ h)
theorem FR.set {t:Tl}{j:Jl}{m:Nat}{A B:Ps}{p:Nat × List Et}{X:List Int}(h:FR t j m (A++p::B) X)(hr:t.l.length<48){l':List Et}(hl:LfOk l'):
  spWrE t j (p.1:Int) (leafB l')=0∧FR (spWr t j (p.1:Int) (leafB l')) j m (A++(p.1,l'):: B) X∧(spWr t j (p.1:Int) (leafB l')).l.length≤t.l.length+1:=by
 obtain⟨h1,h2,h3,h4,h5⟩:=h.tk.wr hr (k:=p.1) (List.mem_append_right _ (List.mem_map.2 ⟨p,List.mem_append_right _ List.mem_cons_self,rfl⟩)) (leafB_len l')
 refine⟨h1,⟨?_,fun q hq=>?_⟩,h3⟩
 ·rw[secsP_append,secsP_cons] at h2 ⊢
  exact h2
 ·rcases mem_mid hq with e|hq
  ·rw[e];exact⟨hl,h4⟩
  ·have hg:=h.rng (mid_mem (p:=p) hq)
   exact(h.lf q (mid_mem hq)).same (h5 q.1 hg.1 hg.2 (h.apart hq))
theorem FR.add {t:Tl}{j:Jl}{m:Nat}{A B:Ps}{X:List Int}(h:FR t j m (A++B) X)(hr:t.l.length+3≤48)(hL:X.length+(A++B).length<j.p.n-51){l':List Et}(hl:LfOk l'):
  tkE t j=0∧Fit (tkT t j) j m∧51≤tkV t j∧tkV t j<j.p.n∧spWrE (tkT t j) j (tkV t j:Int) (leafB l')=0∧FR (addT t j (leafB l')) j m (A++(tkV t j,l'):: B) X∧(addT t j (leafB l')).l.length≤t.l.length+3:=by
 obtain⟨h1,h2,h3,h4,hf,h5,h6,h7,h8,h9⟩:=h.tk.add hr (by rw[List.length_append];unfold secsP;rw[List.length_map];exact hL) (leafB_len l')
 refine⟨h1,hf,h2,h3,h5,⟨h6.perm ?_,fun q hq=>?_⟩,h7⟩
 ·rw[secsP_append,secsP_append,secsP_cons,←List.append_assoc,←List.append_assoc]
  exact List.perm_middle.symm
 ·rcases mem_mid hq with e|hq
  ·rw[e];exact⟨hl,h8⟩
  ·have hg:=h.rng hq
   refine(h.lf q hq).same (h9 q.1 hg.1 hg.2 (fun e=>h4 ?_))
   rw[←e]
   exact List.mem_append_right _ (List.mem_map.2 ⟨q,hq,rfl⟩)
theorem FR.top {t:Tl}{j:Jl}{m:Nat}{P:Ps}{s:Nat}(h:FR t j m P [(s:Int)])(hr:t.l.length<48)(ks:List Nat):
  spWrE t j (s:Int) (nodeB ks)=0∧FR (spWr t j (s:Int) (nodeB ks)) j m P [(s:Int)]∧(spWr t j (s:Int) (nodeB ks)).l.length≤t.l.length+1∧spRdB (spWr t j (s:Int) (nodeB ks)) j (s:Int)=nodeB ks:=by
 obtain⟨h1,h2,h3,h4,h5⟩:=h.tk.wr hr (k:=s) List.mem_cons_self (nodeB_len ks)
 refine⟨h1,⟨h2,fun q hq=>?_⟩,h3,h4⟩
 have hg:=h.rng hq
 refine(h.lf q hq).same (h5 q.1 hg.1 hg.2 (fun e=>?_))
 have hn:=(List.nodup_cons.1 h.tk.nodup).1
 exact hn (by rw[←e];exact List.mem_map.2 ⟨q,hq,rfl⟩)
theorem FR.newtop {t:Tl}{j:Jl}{m:Nat}{P:Ps}(h:FR t j m P [])(hr:t.l.length+3≤48)(hL:P.length<j.p.n-51)(ks:List Nat):
  tkE t j=0∧Fit (tkT t j) j m∧51≤tkV t j∧tkV t j<j.p.n∧spWrE (tkT t j) j (tkV t j:Int) (nodeB ks)=0∧FR (addT t j (nodeB ks)) j m P [(tkV t j:Int)]∧(addT t j (nodeB ks)).l.length≤t.l.length+3∧spRdB (addT t j (nodeB ks)) j (tkV t j:Int)=nodeB ks:=by
 obtain⟨h1,h2,h3,h4,hf,h5,h6,h7,h8,h9⟩:=h.tk.add hr (by rw[List.nil_append];unfold secsP;rw[List.length_map];exact hL) (nodeB_len ks)
 refine⟨h1,hf,h2,h3,h5,⟨h6,fun q hq=>?_⟩,h7,h8⟩
 have hg:=h.rng hq
 refine(h.lf q hq).same (h9 q.1 hg.1 hg.2 (fun e=>h4 ?_))
 rw[←e]
 exact List.mem_append_right _ (List.mem_map.2 ⟨q,hq,rfl⟩)
theorem FR.leaf {t:Tl}{j:Jl}{m:Nat}{s:Nat}{l:List Et}(h:FR t j m [(s,l)] []):TR t j s l [(s:Int)]∧Tk t j m [(s:Int)] :=
 ⟨⟨(h.lf (s,l) List.mem_cons_self).ok.srt,.inr (.inl ⟨rfl,h.lf (s,l) List.mem_cons_self⟩)⟩,h.tk⟩
theorem FR.node {t:Tl}{j:Jl}{m:Nat}{s:Nat}{P:Ps}(h:FR t j m P [(s:Int)])(hs:SrtE (entsP P))(h2:2≤P.length)(h3:P.length≤254)(hr:spRdB t j (s:Int)=nodeB (P.map (·.1))):TR t j s (entsP P) ((s:Int):: secsP P)∧Tk t j m ((s:Int):: secsP P):=
 ⟨⟨hs,.inr (.inr ⟨P,⟨h2,h3,hr,h.lf⟩,rfl,rfl⟩)⟩,h.tk⟩
theorem FR.ofLeaf {t:Tl}{j:Jl}{m:Nat}{s:Nat}{l:List Et}(h:LfAt t j s l)(hk:Tk t j m [(s:Int)]):FR t j m [(s,l)] [] :=
 ⟨hk,fun p hp=>by rw[List.mem_singleton.1 hp];exact h⟩
theorem FR.ofNode {t:Tl}{j:Jl}{m:Nat}{s:Nat}{P:Ps}(h:NdAt t j s P)(hk:Tk t j m ((s:Int):: secsP P)):FR t j m P [(s:Int)]:=⟨hk,h.lf⟩
def fstK (l:List Et):List UInt8:=(l.getD 0 et0).k
theorem fst_le {l:List Et}(h:SrtE l){e:Et}(he:e∈l):e.k=fstK l∨Op.bytesLess (fstK l) e.k=true:=by
 cases l with
 | nil=>cases he
 | cons a l =>
  rcases List.mem_cons.1 he with h1|h1
  ·rw[h1];exact .inl rfl
  ·exact .inr ((List.pairwise_cons.1 h).1 e h1)
theorem kid_cut {A B:Ps}{p:Nat × List Et}{k:List UInt8}(hs:SrtE (entsP (A++p::B)))(hne:p.2≠[])(h1:A≠[]→Op.bytesLess k (fstK p.2)=false)(h2:∀q B',B=q::B'→q.2≠[]∧Op.bytesLess k (fstK q.2)=true):
  AllLt (entsP A) k∧AllGt (entsP B) k:=by
 rw[entsP_append,entsP] at hs
 obtain⟨s1,s2,s3⟩:=List.pairwise_append.1 hs
 obtain⟨s4,s5,s6⟩:=List.pairwise_append.1 s2
 constructor
 ·intro e he
  have hA:A≠[]:=fun e2=>by rw[e2] at he;cases he
  have h3:=h1 hA
  obtain⟨a,l,hl⟩:∃a l,p.2=a::l:=by cases hp:p.2 with|nil=>exact absurd hp hne|cons a l=>exact⟨a,l,rfl⟩
  have h4:=s3 e he a (List.mem_append_left _ (by rw[hl];exact List.mem_cons_self))
  have h5:fstK p.2=a.k:=by rw[hl];rfl
  rw[h5] at h3
  rcases lt_tot k a.k with h6|h6|h6
  ·rw[h6] at h3;cases h3
  ·rw[h6];exact h4
  ·exact lt_tr _ _ _ h4 h6
 ·intro e he
  cases B with
  | nil=>cases he
  | cons q B' =>
   obtain⟨h3,h4⟩:=h2 q B' rfl
   rw[entsP] at s5 he
   obtain⟨u1,u2,u3⟩:=List.pairwise_append.1 s5
   have h6:e.k=fstK q.2∨Op.bytesLess (fstK q.2) e.k=true:=by
    rcases List.mem_append.1 he with h5|h5
    ·exact fst_le u1 h5
    ·obtain⟨a,l,hl⟩:∃a l,q.2=a::l:=by cases hp:q.2 with|nil=>exact absurd hp h3|cons a l=>exact⟨a,l,rfl⟩
     have:fstK q.2=a.k:=by rw[hl];rfl
     rw[this]
     exact .inr (u3 a (by rw[hl];exact List.mem_cons_self) e h5)
   rcases h6 with h6|h6
   ·rw[h6];exact h4
   ·exact lt_tr _ _ _ h4 h6
theorem codJReadV (w:World)(J P base:Nat)(j:Jl)(k:Nat)(h:JAt w J P base j)(hf:FewP j.p)(ho:j.p.off=false)(hk:49≤k)(hn:k<j.p.n):
  Calls Tryz.prog 36 #[.pointer (some ⟨J,0,none⟩),.int .i64 (k:Int)] w fun e w'=>(∃g,e=.returned (.tuple #[.slice (some ⟨g,0,none⟩) 512 512,.int .i64 0])∧w.heap.size≤g∧Blk w' g 5 (bv (j.p.rdB (k:Int))))∧(j.p.rdB (k:Int)).length=512∧Below w.heap.size w w':=by
 have HZ:=codJSize w J P base j h
 have HA:=codInArea (k:Int) j.p.n w
 have c0:w.cell? ⟨J,0,none⟩=some (.pointer (some ⟨P,0,none⟩)):=h.blk.cell 0
 have HR:=codReadU P base j.p k w h.d hf ho hn
 have HJ:=mkHid h
 clear h
 have ha:areaI j.p.n (k:Int)=true:=by unfold areaI;exact decide_eq_true (by omega)
 rw[ha] at HA
 have HH:=codHeed0 J
 clear ha
 generalize j.p.n=n at *
 generalize j.p.rdB (k:Int)=bb at *
 go_enter Tryz.func36,Tryz.ntmps36
 go_wp2_with fail
 refine HZ.mono ?_
 rintro e w1 ⟨rfl,rfl⟩
 go_wp2_with fail
 refine HA.mono ?_
 rintro e w2 ⟨rfl,hw2⟩
 obtain rfl:=hw2.symm
 go_wp2_with fail
 refine HR.mono ?_
 rintro e w3 ⟨⟨g,rfl,hg,hB⟩,hl,hb3⟩
 have HB:=mkHid hB
 clear hB
 go_wp2_with fail
 refine(HH w3).mono ?_
 rintro e w4 ⟨⟨y,rfl⟩,rfl⟩
 go_wp2_with fail
 go_ret2
 exact⟨⟨g,rfl,hg,HB.out⟩,hl,hb3⟩
def SecAt (w:World)(v:Value)(b:List UInt8):Prop:=∃g ty,v=.slice (some ⟨g,0,none⟩) 512 512∧ty∈UB∧Blk w g ty (bv b)∧b.length=512
theorem SecAt.sb {w:World}{v:Value}{b:List UInt8}(h:SecAt w v b):SB w v b:=by
 obtain⟨g,ty,rfl,ht,hB,hl⟩:=h
 refine⟨g,0,512,by rw[hl],fun W hW=>?_⟩
 have hB2:Blk W g ty (bv b):=hW.same g _ ty _ hB ht
 rw[hl]
 exact⟨hl,Nat.le_refl _,by decide,(fun e=>by cases e),fun _=>⟨g,0,rfl,fun i hi=>by rw[hB2.cell,Nat.zero_add,bv_at b i (by omega)]⟩⟩
attribute [local go_sem ↓] zvJ slJ
theorem codTReadV (w:World)(T J P base:Nat)(t:Tl)(j:Jl)(M:Nat)(tr:Bool)(k:Nat)(h:TAt w T J P base t j M tr)(hf:FewP j.p)(ho:j.p.off=false)(hk:49≤k)(hn:k<j.p.n)(hb:j.p.n≤4096):
  Calls Tryz.prog 140 #[.pointer (some ⟨T,0,none⟩),.int .i64 (k:Int)] w fun e w'=>(∃v,e=.returned (.tuple #[v,.int .i64 0])∧SecAt w' v (t.rdB j (k:Int)))∧Below w.heap.size w w':=by
 have c0:w.cell? ⟨T,0,none⟩=some (.pointer (some ⟨J,0,none⟩)):=h.blk.cell 0
 have c1:w.cell? ⟨T,1,none⟩=some (.map (some M)):=h.blk.cell 1
 have hlk:=lookOk (i:=(k:Int)) h.own (by omega) (by omega)
 have HT:=mkHid h
 clear h
 have HD0:Hid (Below w.heap.size w (w.alloc (.cells zSec.toArray 152))):=(Below.refl _ w).alloc (Nat.le_refl _) _
 have HR:Hid (Blk (w.alloc (.cells zSec.toArray 152)) w.heap.size 152 zSec):=Blk.new w _ _
 have ha:areaI j.p.n (k:Int)=true:=by unfold areaI;exact decide_eq_true (by omega)
 cases hfd:Tl.find t.l (k:Int) with
 | none =>
  have HE:Hid (t.rdB j (k:Int)=j.p.rdB (k:Int)):=by unfold Hid Tl.rdB;rw[hfd];simp[ha]
  rw[hfd] at hlk
  have HDW:Hid (Below w.heap.size w ((w.alloc (.cells zSec.toArray 152)).setRow w.heap.size zSec.toArray)):=bel_row HD0.out (Nat.le_refl _) _
  have d0:((w.alloc (.cells zSec.toArray 152)).setRow w.heap.size zSec.toArray).cell? ⟨T,0,none⟩=some (.pointer (some ⟨J,0,none⟩)):=(HDW.out.cell (p:=⟨T,0,none⟩) (cell_lt c0)).trans c0
  have HJR:=codJReadV _ J P base j k (HT.out.ja.on HDW.out) hf ho hk hn
  clear hfd ha
  go_enter Tryz.func140,Tryz.ntmps140
  go_wp2_with (refine wpList_store_row rfl 152 _ _ rfl w.heap.size zSec.toArray rfl rfl _ _ HR.out zInfo rfl zAll ?_)
  refine HJR.mono ?_
  rintro e w2 ⟨⟨g,rfl,hg,hv⟩,hl,hb2⟩
  have HV:=mkHid hv
  clear hv
  go_wp2_with fail
  go_ret2
  exact⟨⟨_,rfl,g,5,rfl,by decide,by rw[HE.out];exact HV.out,by rw[HE.out];exact hl⟩,HDW.out.trans (hb2.mono HDW.out.size)⟩
 | some b =>
  have HE:Hid (t.rdB j (k:Int)=b):=by unfold Hid Tl.rdB;rw[hfd]
  have HL:Hid (b.length=512):=find_len hfd HT.out.ok
  rw[hfd] at hlk
  have hlk2:(Instr.lookup 120 (.map (some M)) (.int .i64 (k:Int)) true).run Tryz.prog w=.ok (.tuple #[.agg (bv b).toArray,.bool true]) w:=hlk
  clear hlk hfd ha
  have HS6:Hid ((Tryz.prog.info? 152).map (·.size)=some (bv b).toArray.size):=infoJOf' HL.out
  have HS7:Hid (zSec.toArray.size=(bv b).toArray.size):=by unfold Hid;rw[List.size_toArray,List.size_toArray,zSec_length,bv_length,HL.out]
  have HDW:Hid (Below w.heap.size w ((w.alloc (.cells zSec.toArray 152)).setRow w.heap.size (bv b).toArray)):=bel_row HD0.out (Nat.le_refl _) _
  have HBW:Hid (Blk ((w.alloc (.cells zSec.toArray 152)).setRow w.heap.size (bv b).toArray) w.heap.size 152 (bv b)):=HR.out.row _
  go_enter Tryz.func140,Tryz.ntmps140
  go_wp2_with (refine wpList_store_row rfl 152 _ _ rfl w.heap.size (bv b).toArray rfl rfl _ _ HR.out HS6.out HS7.out (bvAll9 b) ?_)
  go_ret2
  refine⟨⟨.slice (some ⟨w.heap.size,0,none⟩) 512 512,rfl,w.heap.size,152,rfl,by decide,by rw[HE.out];exact HBW.out,by rw[HE.out];exact HL.out⟩,HDW.out⟩
theorem codSReadV (w:World)(S J P base m:Nat)(t:Tl)(j:Jl)(k:Nat)(h:SpAx w S J P base t j)(hf:Fit t j m)(hk:51≤k)(hn:k<j.p.n):
  Calls Tryz.prog 101 #[.pointer (some ⟨S,0,none⟩),.int .i64 (k:Int)] w fun e w'=>(∃v,e=.returned (.tuple #[v,.int .i64 0])∧SecAt w' v (spRdB t j (k:Int)))∧Below w.heap.size w w':=by
 obtain⟨T,g,c,h⟩:=h
 have c0:w.cell? ⟨S,0,none⟩=some (.pointer (some ⟨T,0,none⟩)):=h.blk.cell 0
 obtain⟨M,tr,hT⟩:=h.ta
 have hb:=hf.few.n
 have HR:=codTReadV w T J P base t j M tr k hT (hf.few.few (by have:=hf.m;omega)) hf.good.off (by omega) hn (by omega)
 clear h hT
 have hi:¬(k:Int)<50:=by omega
 have HE:Hid (t.rdB j (k:Int)=spRdB t j (k:Int)):=by unfold Hid spRdB;rw[if_neg hi]
 go_enter Tryz.func101,Tryz.ntmps101
 go_wp2_with fail
 refine HR.mono ?_
 rintro e w1 ⟨⟨v,rfl,hv⟩,hk⟩
 go_wp2_with fail
 go_ret2
 exact⟨⟨v,rfl,by rw[←HE.out];exact hv⟩,hk⟩
structure PgO (w:World)(base:Nat)(at_:Int)(p:Pg)(v:Value)(ve vk:Value)(L:List Eq3):Prop where
 v:v=.agg (pgc at_ p.lv ve vk).toArray
 e:OwnN w base ve L
 k:OwnZ w base vk (p.ks.map Int.ofNat)
 es:L.map Prod.fst=p.es
 x:∀x∈L,EtP w x.1 x.2
theorem PgO.r {w:World}{base:Nat}{at_:Int}{p:Pg}{v ve vk:Value}{L:List Eq3}(h:PgO w base at_ p v ve vk L):PgR 0 w p ve vk L:=⟨h.e.rd h.x,h.k.rd,h.es⟩
theorem PgO.keep {w w':World}{base:Nat}{at_:Int}{p:Pg}{v ve vk:Value}{L:List Eq3}(h:PgO w base at_ p v ve vk L)(hk:KeepO UE w w'):PgO w' base at_ p v ve vk L :=
 ⟨h.v,own_keepO hk h.e (by decide),own_keepO hk h.k (by decide),h.es,fun x hx=>(h.x x hx).keep (hk.less (by decide))⟩
theorem PgO.below {w w':World}{base:Nat}{at_:Int}{p:Pg}{v ve vk:Value}{L:List Eq3}(h:PgO w base at_ p v ve vk L)(hb:Below w.heap.size w w'):PgO w' base at_ p v ve vk L:=h.keep (KeepO.of_below hb)
def gT (S:Nat):Value:=.agg #[.pointer (some ⟨S,0,none⟩)]
theorem pgRead (w:World)(S J P base m:Nat)(t:Tl)(j:Jl)(k:Nat)(p:Pg)(h:SpAx w S J P base t j)(hf:Fit t j m)(hk:51≤k)(hn:k<j.p.n)(hp:pgOf (spRdB t j (k:Int))=some p):
  Calls Tryz.prog 67 #[gT S,.int .i64 (k:Int)] w fun e w'=>(∃v ve vk L,e=.returned v∧PgO w' w.heap.size (k:Int) p v ve vk L)∧Below w.heap.size w w':=by
 unfold gT
 have hn2:=hf.few.n
 have kb:=(Blk.newAt w w.heap.size 87 #[.pointer (some ⟨S,0,none⟩)] [.pointer (some ⟨S,0,none⟩)] rfl rfl).alloc (.cells #[.int .i64 0,.int .i64 0,.slice none 0 0,.slice none 0 0] 133)
 have kr:Blk ((w.alloc (.cells #[.pointer (some ⟨S,0,none⟩)] 87)).alloc (.cells #[.int .i64 0,.int .i64 0,.slice none 0 0,.slice none 0 0] 133)) (w.heap.size+1) 133 [.int .i64 0,.int .i64 0,.slice none 0 0,.slice none 0 0]:=Blk.newAt _ (w.heap.size+1) 133 _ _ (by simp) rfl
 have hW1:Below w.heap.size w ((w.alloc (.cells #[.pointer (some ⟨S,0,none⟩)] 87)).alloc (.cells #[.int .i64 0,.int .i64 0,.slice none 0 0,.slice none 0 0] 133)):=((Below.refl _ w).alloc (Nat.le_refl _) _).alloc (by simp) _
 have HRd:=codSReadV _ S J P base m t j k (SpAx.keep h (KeepT.of_below hW1)) hf hk hn
 have HNy:=needYes13
 have c0:=kb.cell 0
 simp only[List.getElem?_cons_zero] at c0
 have HW1:=mkHid hW1
 have HKr:=mkHid kr
 have hk':(51:Int)≤(k:Int):=by omega
 have HP:=mkHid hp
 clear h hf kb kr hW1 hp
 generalize spRdB t j (k:Int)=bb at *
 generalize hY0:(w.alloc (.cells #[.pointer (some ⟨S,0,none⟩)] 87)).alloc (.cells #[.int .i64 0,.int .i64 0,.slice none 0 0,.slice none 0 0] 133)=Y0 at *
 go_enter Tryz.func67,Tryz.ntmps67
 go_wp2_with (go_at_call 99;refine(HNy 4 _).mono ?_;rintro x w2 ⟨rfl,hww⟩;rw[hww];clear hww w2)
 refine HRd.mono ?_
 rintro e y1 ⟨⟨v1,rfl,hs1⟩,hb1⟩
 have hlen:bb.length=512:=by obtain⟨_,_,_,_,_,h⟩:=hs1;exact h
 have HPO:=codPageOf v1 bb y1 hs1.sb hlen
 have HB1:=mkHid (HW1.out.trans (hb1.mono HW1.out.size))
 have HK1:=mkHid (HKr.out.on hb1)
 have hsz:w.heap.size+2≤y1.heap.size:=HK1.out.lt
 clear HRd hs1 hb1 HW1 HKr c0
 go_wp2_with (go_at_call 99;refine(HNy 0 _).mono ?_;rintro x w2 ⟨rfl,hww⟩;rw[hww];clear hww w2)
 refine HPO.mono ?_
 intro e y2 hpo
 unfold PgPost at hpo
 rw[HP.out] at hpo
 obtain⟨⟨ve,vk,L,rfl,ho,hz,hes,hx⟩,hb2⟩:=hpo
 obtain⟨ea,ec,rfl,_⟩:=ho.form
 obtain⟨ka,kc,rfl,_⟩:=hz.isZ
 rw[List.length_map] at *
 have HO:=mkHid ho
 have HZ:=mkHid hz
 have HX:=mkHid hx
 have HES:=mkHid hes
 have HB2:=mkHid (HB1.out.trans (hb2.mono HB1.out.size))
 have HK2:=mkHid (HK1.out.on hb2)
 have hsz2:w.heap.size+2≤y2.heap.size:=Nat.le_trans hsz hb2.size
 have HK3:=mkHid (HK2.out.alloc (.cells #[.int .i64 (k:Int),.int .i64 (p.lv:Int),.slice ea L.length ec,.slice ka p.ks.length kc] 133))
 have hAl:=(Below.refl _ y2).alloc (Nat.le_refl _) (.cells #[.int .i64 (k:Int),.int .i64 (p.lv:Int),.slice ea L.length ec,.slice ka p.ks.length kc] 133)
 have HY3:Hid (OwnN (y2.alloc (.cells #[.int .i64 (k:Int),.int .i64 (p.lv:Int),.slice ea L.length ec,.slice ka p.ks.length kc] 133)) (w.heap.size+2) (.slice ea L.length ec) L∧OwnZ (y2.alloc (.cells #[.int .i64 (k:Int),.int .i64 (p.lv:Int),.slice ea L.length ec,.slice ka p.ks.length kc] 133)) (w.heap.size+2) (.slice ka p.ks.length kc) (p.ks.map Int.ofNat)∧(∀x∈L,EtP (y2.alloc (.cells #[.int .i64 (k:Int),.int .i64 (p.lv:Int),.slice ea L.length ec,.slice ka p.ks.length kc] 133)) x.1 x.2)∧Below w.heap.size w (y2.alloc (.cells #[.int .i64 (k:Int),.int .i64 (p.lv:Int),.slice ea L.length ec,.slice ka p.ks.length kc] 133))):=
  ⟨own_low (HO.out.on hAl) hsz,own_low (own_keepO (us:=[3]) (KeepO.of_below hAl) HZ.out (by decide)) hsz,fun x hx=>(HX.out x hx).keep (KeepO.of_below hAl),HB2.out.trans (hAl.mono HB2.out.size)⟩
 have r0:=HK3.out.cell 0
 have r1:=HK3.out.cell 1
 have r2:=HK3.out.cell 2
 have r3:=HK3.out.cell 3
 simp only[gZ0,gZ1] at r0 r1 r2 r3
 have g0:=HK3.out.frozen 0
 have g1:=HK3.out.frozen 1
 have g2:=HK3.out.frozen 2
 have g3:=HK3.out.frozen 3
 clear HPO ho hz hx hes hb2 hAl HO HZ HX HK1 HK2 HB1
 go_wp2_with fail
 refine bodyPost_ret (retPg rfl _ _ (w.heap.size+1) _ _ _ _ rfl ((((HK3.out.set 0 _).set 1 _).set 2 _).set 3 _)) rfl ?_
 have hg:=grown4 (y2.alloc (.cells #[.int .i64 (k:Int),.int .i64 (p.lv:Int),.slice ea L.length ec,.slice ka p.ks.length kc] 133)) (w.heap.size+1) (.int .i64 (k:Int)) (.int .i64 (p.lv:Int)) (.slice ea L.length ec) (.slice ka p.ks.length kc)
 obtain⟨u1,u2,u3,u4⟩:=HY3.out
 have hb9:Below w.heap.size w _:=u4.grown hg u4.size (fun k e=>by have:=Option.some.inj e;omega)
 refine⟨⟨_,_,_,L,rfl,rfl,own_low (own_apart u1 hg (by omega)) (by omega),own_low (own_apart u2 hg (by omega)) (by omega),HES.out,fun x hx=>?_⟩,hb9⟩
 refine(u3 x hx).keep ?_
 exact⟨hg.size,fun i c ty fz hi ht=>(hg.block i (Array.getElem?_eq_some_iff.1 hi).1 (fun e=>by
  have e2:=Option.some.inj e
  subst e2
  have h3:=HK3.out
  unfold Blk at h3
  rw[hi] at h3
  injection h3 with h4
  injection h4 with _ h5 _
  subst h5
  exact absurd ht (by decide))).trans hi,fun i o hi ho=>(hg.block i (Array.getElem?_eq_some_iff.1 hi).1 (fun e=>by
  have e2:=Option.some.inj e
  subst e2
  have h3:=HK3.out
  unfold Blk at h3
  rw[hi] at h3
  injection h3 with h4
  subst h4
  cases ho)).trans hi⟩
end
end Go.Proofs.YtpecobmfabmpkaaGreatDoor
