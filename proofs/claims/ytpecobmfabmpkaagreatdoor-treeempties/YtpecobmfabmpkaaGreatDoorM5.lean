/- Js3 Js4 Js5 JrA JrB TakeL JrC JrE Js6 Js7 JsC Sp0 Sp1 Sp2 Sp3 Sp4 Sp5 Sp6 Sp7 Sp8 Sp9 SpC Pj0 SpM SpN Pj5 Pj1 Pj2 Pj6 SpO Tr1 -/
import Derived.Test.YtpecobmfabmpkaaGreatDoorM4
import Derived.KernelRfl
import Derived.Maps.OwnSet
import Derived.Lib.SlKeysI
set_option maxRecDepth 20000
set_option maxHeartbeats 4000000
namespace Go.Proofs.YtpecobmfabmpkaaGreatDoor
section
open Go.RowKit
theorem commit_ok {t:Tl}{j:Jl}{m:Nat}(hp:FewM j.p m)(hg:Good j.p)(ho:t.over=false)(hd:j.dead=false)(hne:t.l≠[])(hl:t.l.length≤48)(ha:∀g∈t.l,g.1<j.p.n∧g.2.length=512):
  cmE t j=0∧∃q,cmJ t j=⟨q,nxt j.seq,false⟩∧Good q∧q.n=j.p.n∧q.ca=[]∧q.st=t.l.foldl Pl.put ([(0,sealJ (nxt j.seq) t.l)].foldl Pl.put ((j.p.ca++slotQ t.l).foldl Pl.put j.p.st)):=by
 have hnot:¬(t.over=true∨j.dead=true):=by rw[ho,hd];simp
 have hn:=hp.n0
 obtain⟨a1,a2⟩:=steps_ok (slotQ t.l) j.p hg.off hg.arm (fun g hgl=>by
  unfold slotQ at hgl
  obtain⟨i,hi,rfl⟩:=List.mem_map.1 hgl
  have hi:=List.mem_range.1 hi
  refine⟨by show 1+i<_;omega,?_⟩
  show (t.l.getD i (0,[])).2.length=512
  rw[List.getD_eq_getElem?_getD,List.getElem?_eq_getElem hi]
  exact(ha _ (List.getElem_mem hi)).2)
 obtain⟨b1,b2⟩:=steps_ok [(0,sealJ (nxt j.seq) t.l)] (stepsP j.p (slotQ t.l)) (by rw[a2]) (by rw[a2]) (fun g hgl=>by
  rw[List.mem_singleton.1 hgl,a2]
  exact⟨by show 0<j.p.n;omega,sealJ_length _ _ (by rw[preJ_length];omega)⟩)
 obtain⟨c1,c2⟩:=steps_ok t.l (stepsP (stepsP j.p (slotQ t.l)) [(0,sealJ (nxt j.seq) t.l)]) (by rw[b2]) (by rw[b2]) (fun g hgl=>by
  have e:(stepsP (stepsP j.p (slotQ t.l)) [(0,sealJ (nxt j.seq) t.l)]).n=j.p.n:=by rw[steps_n,steps_n]
  rw[e];exact ha g hgl)
 have eA:cmA t j=(stepsP j.p (slotQ t.l),0):=by unfold cmA;rw[a1]
 have eB:cmB t j=(stepsP (stepsP j.p (slotQ t.l)) [(0,sealJ (nxt j.seq) t.l)],0):=by unfold cmB;rw[eA,if_pos rfl,b1]
 have eC:cmC t j=(stepsP (stepsP (stepsP j.p (slotQ t.l)) [(0,sealJ (nxt j.seq) t.l)]) t.l,0):=by unfold cmC;rw[eB,if_pos rfl,c1]
 refine⟨by unfold cmE;rw[if_neg hnot,if_neg hne,eC],_,by unfold cmJ;rw[if_neg hnot,if_neg hne,eC,if_pos rfl,hd],?_,by rw[steps_n,steps_n,steps_n],by rw[c2],?_⟩
 ·rw[c2];exact⟨rfl,rfl⟩
 ·rw[c2,b2,a2];rfl
def at2:Tl:=⟨[(50,secL 1 2),(60,secL 3 4)],false⟩
theorem jMountT {JA:World→Nat→Nat→Nat→Jl→Prop}{TA:World→Nat→Nat→Nat→Nat→Tl→Jl→Prop}(ok:JrnOK JA TA){w:World}{P base m:Nat}{p:Pl}(h:IsD0 w P base p)(hf:FewM p m)(hm:m≤80000)(he:mountE p=0):
  Calls Tryz.prog 35 #[.pointer (some ⟨P,0,none⟩)] w fun e w'=>(∃J,e=.returned (.tuple #[.pointer (some ⟨J,0,none⟩),.int .i64 0])∧JA w' J P base ⟨mountP p,mountS p,false⟩)∧KeepT PD w w'∧Below base w w':=by
 refine(ok.mount w P base m p h hf hm).mono ?_
 rintro e w' ⟨h1,h2⟩
 rw[if_pos he] at h1
 exact⟨h1,h2⟩
theorem jMount {JA:World→Nat→Nat→Nat→Jl→Prop}{TA:World→Nat→Nat→Nat→Nat→Tl→Jl→Prop}(ok:JrnOK JA TA){w:World}{P base m:Nat}{p:Pl}(h:IsD0 w P base p)(hf:FewM p m)(hm:m≤80000)(he:mountE p=0):
  Calls Tryz.prog 35 #[.pointer (some ⟨P,0,none⟩)] w fun e w'=>(∃J,e=.returned (.tuple #[.pointer (some ⟨J,0,none⟩),.int .i64 0])∧JA w' J P base ⟨mountP p,mountS p,false⟩)∧KP base w w' :=
 (jMountT ok h hf hm he).mono fun _ _ ⟨h1,h2,h3⟩=>⟨h1,KP.ofPD h2 h3⟩
end
section
open Go Go.RowKit
variable {P:Program} {ops:Array Oper} {Q:Exit→Act→World→Prop} {S:World→Prop} {z:Nat}
def LastOk (P:Program)(ops:Array Oper)(Q:Exit→Act→World→Prop)(S:World→Prop)(z:Nat):Nat→Array Bool→Act→World→Prop
 | 0,l,a,w=>Region.ready .any ops l=[]∧Q .normal a w
 | f+1,l,a,w=>(Region.ready .any ops l=[]→Q .normal a w)∧∀i∈Region.ready .any ops l,wpOp P ops Q i (fun a' w'=>(i≠z→S w')∧LastOk P ops Q S z f (l.setIfInBounds i true) a' w') a w
theorem LastOk.any:∀(f:Nat) (l:Array Bool)(a:Act)(w:World),LastOk P ops Q S z f l a w→wpAny P .any ops Q f l a w
 | 0,_,_,_,h=>h
 | f+1,_,_,_,h=>⟨h.1,fun i hi=>wpOp_mono (fun a' w' k=>LastOk.any f _ a' w' k.2) (h.2 i hi)⟩
def waitsB (ops:Array Oper)(z i:Nat):Bool:=(ops[z]?).any fun o=>o.after.any fun e=>Region.binds .any e&&e.on==i
theorem waits_not {i:Nat}{l:Array Bool}(h:waitsB ops z i=true)(hi:l.getD i false=false):z∉Region.ready .any ops l:=fun hz=>by
 obtain⟨_,o,ho,hall⟩:=mem_ready.1 hz
 unfold waitsB at h
 rw[ho] at h
 simp only[Option.any_some,Array.any_eq_true,Bool.and_eq_true,beq_iff_eq] at h
 obtain⟨x,hx,hb,he⟩:=h
 have:=hall _ (Array.getElem_mem hx) hb
 rw[he,hi] at this
 cases this
theorem unlisted {i:Nat}{l:Array Bool}(h:l.getD i true=false):l.getD i false=false:=by
 rcases Nat.lt_or_ge i l.size with k|k
 ·simp[k] at h ⊢;exact h
 ·simp[Array.getElem?_eq_none k] at h
theorem LastOk.first {i:Nat}{o:Oper}{v:Value}(hi:ops[i]?=some o)(hs:Region.noSelect ops=true)(hw:waitsB ops z i=true)
  (hQ:∀c a w,Q (.panic c) (a.put o.dst v) w→Q (.panic c) a w):∀(f:Nat) (l:Array Bool) (a:Act) (w:World),
   (∀j oj,ops[j]?=some oj→j≠i→l.getD j true=false→(∀e∈oj.after,Region.binds .any e=true→e.on≠i)→o.apart ops oj=true) →
   i∈Region.ready .any ops l→YieldsIf P ops S o v a→S w→LastOk P ops Q S z f (l.setIfInBounds i true) (a.put o.dst v) w→LastOk P ops Q S z (f+1) l a w:=by
 have hsel:=Region.noSelect_spec hs
 intro f
 induction f with
 | zero =>
  intro l a w _ hr hy hS H
  refine⟨fun h=>(by rw[h] at hr;cases hr),fun j hj=>?_⟩
  by_cases e:j=i
  ·subst e;exact hy.wpOp hi hS ⟨fun _=>hS,H⟩
  ·have:=ready_mono hj e
   rw[H.1] at this
   cases this
 | succ f ih =>
  intro l a w hf hr hy hS H
  refine⟨fun h=>(by rw[h] at hr;cases hr),fun j hj=>?_⟩
  by_cases e:j=i
  ·subst e;exact hy.wpOp hi hS ⟨fun _=>hS,H⟩
  ·obtain⟨hju,oj,hoj,hall⟩:=mem_ready.1 hj
   have hi0:=(mem_ready.1 hr).1
   have hjz:j≠z:=fun h=>waits_not hw (unlisted hi0) (h▸hj)
   have hnot:∀x∈oj.after,Region.binds .any x=true→x.on≠i:=fun x hx hb h=>by
    have:=hall x hx hb
    rw[h,unlisted hi0] at this
    cases this
   have h2:=wpOp_putIf hoj (hf j oj hoj e hju hnot) (fun cs b=>hsel i o cs b hi) (fun cs b=>hsel j oj cs b hoj) hQ hy (H.2 j (ready_mono hj e))
   refine wpOp_mono (fun a' w' k=>⟨k.2.1,ih _ a' w' (fun x ox hx hxi hu hno=>hf x ox hx hxi ?_ hno) (ready_mono hr (Ne.symm e)) k.1 (k.2.1 hjz) ?_⟩) h2
   ·by_cases hjx:j=x
    ·subst hjx;exact hju
    ·rw[getD_set_ne true hjx] at hu;exact hu
   ·rw[Array.setIfInBounds_comm _ _ e]
    exact k.2.2
theorem lk0 {id:Nat}{a:Act}{w:World}(S:World→Prop)(z:Nat)(hS:S w.drew)(h:S w.drew→LastOk P ops Q S z ops.size (Array.replicate ops.size false) a w.drew)(hm:P.follows .mixedOrders=true:=by kernel_rfl):(Code.region id ops true).wp P Q a w :=
 wp_region_any hm (LastOk.any _ _ _ _ (h hS))
theorem lkT {o:Oper}{f:Nat}{l:Array Bool}{a:Act}{w:World}(d:Tmp)(i:Nat)(v:Value)(hi:ops[i]?=some o)(hy:YieldsIf P ops S o v a)(hS:S w)
  (h:LastOk P ops Q S z f (l.setIfInBounds i true) (a.put (some d) v) w) (hs:Region.noSelect ops=true:=by kernel_rfl) (hw:waitsB ops z i=true:=by kernel_rfl) (hf:Region.free .any ops l i=true:=by kernel_rfl) (hr:(Region.ready .any ops l).contains i=true:=by kernel_rfl)
  (hQ:∀c a w,Q (.panic c) (a.put o.dst v) w→Q (.panic c) a w:=by exact fun _ _ _ h=>h) (hd:o.dst=some d:=by rfl):LastOk P ops Q S z (f+1) l a w :=
 LastOk.first hi hs hw hQ f l a w (Region.free_spec hi hf) (by simpa using hr) hy hS (by rw[hd];exact h)
def NextL (P:Program)(ops:Array Oper)(Q:Exit→Act→World→Prop)(S:World→Prop)(z f:Nat)(l:Array Bool)(a:Act)(w:World)(rs:List Nat):Prop :=
 ∀i∈rs,wpOp P ops Q i (fun a' w'=>(i≠z→S w')∧LastOk P ops Q S z f (l.setIfInBounds i true) a' w') a w
theorem NextL.nil {f:Nat}{l:Array Bool}{a:Act}{w:World}:NextL P ops Q S z f l a w []:=fun _ h=>by cases h
theorem NextL.cons {f:Nat}{l:Array Bool}{a:Act}{w:World}{i:Nat}{o:Oper}{rs:List Nat}(ho:ops[i]?=some o)
  (h:∀K':Act→World→Prop,Shut (∀a w,S w→(S w→LastOk P ops Q S z f (l.setIfInBounds i true) a w)→K' a w)→if Region.wanted o (yielded ops a.tmps)=true then Oper.wp P o a w K' Q else K' (a.put o.dst undef) w)
  (hs:NextL P ops Q S z f l a w rs):NextL P ops Q S z f l a w (i::rs):=fun j hj=>by
 rcases List.mem_cons.1 hj with rfl|hj
 ·exact wpOp_step ho (fun K' hK=>h K' (fun a w hS hW=>hK a w ⟨fun _=>hS,hW hS⟩))
 ·exact hs j hj
theorem lkR {rs:List Nat}{f:Nat}{l:Array Bool}{a:Act}{w:World}(hr:Region.ready .any ops l=rs)(hne:rs≠[])(h:NextL P ops Q S z f l a w rs):LastOk P ops Q S z (f+1) l a w :=
 ⟨fun h0=>absurd (hr▸h0) hne,hr▸h⟩
theorem lk1 {f:Nat}{l:Array Bool}{a:Act}{w:World}{o:Oper}(i:Nat)(ho:ops[i]?=some o)
  (h:∀K':Act→World→Prop,Shut (∀a w,S w→(S w→LastOk P ops Q S z f (l.setIfInBounds i true) a w)→K' a w)→if Region.wanted o (yielded ops a.tmps)=true then Oper.wp P o a w K' Q else K' (a.put o.dst undef) w) (hr:Region.ready .any ops l=[i]:=by kernel_rfl):LastOk P ops Q S z (f+1) l a w :=
 lkR hr (by simp) (NextL.cons ho h NextL.nil)
theorem lkZ {f:Nat}{l:Array Bool}{a:Act}{w:World}{o:Oper}(ho:ops[z]?=some o)
  (h:∀K':Act→World→Prop,Shut (∀a w,Q .normal a w→K' a w)→if Region.wanted o (yielded ops a.tmps)=true then Oper.wp P o a w K' Q else K' (a.put o.dst undef) w) (hr:Region.ready .any ops l=[z]:=by kernel_rfl) (hd:Region.ready .any ops (l.setIfInBounds z true)=[]:=by kernel_rfl):LastOk P ops Q S z (f+1) l a w :=
 lkR hr (by simp) (fun j hj=>by
  have:j=z:=by simpa using hj
  subst this
  exact wpOp_step ho (fun K' hK=>h K' (fun a w hQ=>hK a w ⟨fun e=>absurd rfl e,by
   cases f with
   | zero=>exact⟨hd,hQ⟩
   | succ f=>exact⟨fun _=>hQ,by rw[hd];simp⟩⟩)))
end
section
open Go.RowKit
theorem putQ_mem (l:Qs)(i:Nat)(b:List UInt8):∀g∈putQ l i b,g∈l∨g=(i,b):=by
 induction l with
 | nil=>intro g hg;exact .inr (List.mem_singleton.1 hg)
 | cons x l ih =>
  intro g hg
  rw[putQ] at hg
  split at hg
  ·rcases List.mem_cons.1 hg with e|e
   ·exact .inl (by rw[e];simp)
   ·rcases ih g e with h|h
    ·exact .inl (List.mem_cons_of_mem _ h)
    ·exact .inr h
  ·split at hg
   ·rcases List.mem_cons.1 hg with e|e
    ·exact .inr e
    ·exact .inl (List.mem_cons_of_mem _ e)
   ·rcases List.mem_cons.1 hg with e|e
    ·exact .inr e
    ·exact .inl e
theorem tlWrite_at (t:Tl)(j:Jl)(i:Int)(b:List UInt8)(h:∀g∈t.l,g.1<j.p.n):∀g∈(t.write j i b).l,g.1<j.p.n:=by
 unfold Tl.write
 split
 ·rename_i hz
  intro g hg
  rcases putQ_mem _ _ _ g hg with e|e
  ·exact h g e
  ·rw[e]
   unfold Tl.wrE at hz
   split at hz
   ·cases hz
   ·split at hz
    ·cases hz
    ·rename_i ha
     have ha2:areaI j.p.n i=true:=by cases hq:areaI j.p.n i with|true=>rfl|false=>exact absurd hq ha
     unfold areaI at ha2
     have:=of_decide_eq_true ha2
     show i.toNat<j.p.n
     omega
 ·exact h
def bitN (b:List UInt8)(k:Nat):Bool:=decide ((nth b (k/8)).toNat/2 ^ (k%8)%2=1)
def takenL (b:List UInt8)(i:Int):Bool:=decide (0≤i)&&bitN b i.toNat
theorem nth_behind (b:List UInt8)(q:Nat)(h:b.length≤q):nth b q=0:=by
 unfold nth;rw[List.getD_eq_getElem?_getD,List.getElem?_eq_none h];rfl
theorem bitN_behind (b:List UInt8)(k:Nat)(h:b.length≤k/8):bitN b k=false:=by
 unfold bitN;rw[nth_behind b _ h];simp
theorem takenL_nat (b:List UInt8)(k:Nat):takenL b (k:Int)=bitN b k:=by unfold takenL;simp
theorem takenL_neg (b:List UInt8)(i:Int)(h:i<0):takenL b i=false:=by unfold takenL;rw[decide_eq_false (by omega)];rfl
def cntL (b:List UInt8):Nat→Nat
 | 0=>0
 | k+1=>cntL b k+(if bitN b k=true then 1 else 0)
theorem cntL_le (b:List UInt8)(k:Nat):cntL b k≤k:=by
 induction k with
 | zero=>exact Nat.le_refl _
 | succ k ih=>rw[cntL];split<;>omega
theorem cntL_behind (b:List UInt8)(k:Nat)(h:8 * b.length≤k)(d:Nat):cntL b (k+d)=cntL b k:=by
 induction d with
 | zero=>rfl
 | succ d ih=>rw[←Nat.add_assoc,cntL,bitN_behind b _ (by omega),ih];simp
def countL (b:List UInt8)(n:Int):Nat:=cntL b (min n.toNat (8 * b.length))
theorem countL_all (b:List UInt8)(n:Int):countL b n=cntL b n.toNat:=by
 unfold countL
 by_cases h:n.toNat≤8 * b.length
 ·rw[Nat.min_eq_left h]
 ·rw[Nat.min_eq_right (by omega)]
  have:=cntL_behind b (8 * b.length) (Nat.le_refl _) (n.toNat-8 * b.length)
  rw[←this];congr 1;omega
def tkGo (b:List UInt8):Nat→Nat→Nat
 | 0,i=>i
 | f+1,i=>if bitN b i=true then tkGo b f (i+1) else i
def tkI (b:List UInt8)(n:Nat):Nat:=tkGo b (n-51) 51
theorem tkGo_hit (b:List UInt8):∀(f i k:Nat),i≤k→k<i+f→(∀x,i≤x→x<k→bitN b x=true)→bitN b k=false→tkGo b f i=k:=by
 intro f
 induction f with
 | zero=>intro i k h1 h2;omega
 | succ f ih =>
  intro i k h1 h2 h3 h4
  rw[tkGo]
  by_cases e:i=k
  ·subst e;rw[h4];rfl
  ·rw[if_pos (h3 i (Nat.le_refl _) (by omega))]
   exact ih (i+1) k (by omega) (by omega) (fun x hx hk=>h3 x (by omega) hk) h4
theorem tkGo_none (b:List UInt8):∀(f i:Nat),(∀x,i≤x→x<i+f→bitN b x=true)→tkGo b f i=i+f:=by
 intro f
 induction f with
 | zero=>intro i _;rfl
 | succ f ih =>
  intro i h
  rw[tkGo,if_pos (h i (Nat.le_refl _) (by omega)),ih (i+1) (fun x hx hk=>h x (by omega) (by omega))]
  omega
theorem tkI_hit (b:List UInt8)(n k:Nat)(h1:51≤k)(h2:k<n)(h3:∀x,51≤x→x<k→bitN b x=true)(h4:bitN b k=false):tkI b n=k:=tkGo_hit b _ _ k h1 (by omega) h3 h4
theorem tkI_none (b:List UInt8)(n:Nat)(h1:51≤n)(h3:∀x,51≤x→x<n→bitN b x=true):tkI b n=n:=by
 unfold tkI;rw[tkGo_none b _ _ (fun x hx hk=>h3 x hx (by omega))];omega
def freeL (b:List UInt8):Nat→Nat
 | 0=>0
 | d+1=>freeL b d+(if bitN b (51+d)=true then 0 else 1)
def flipL (b:List UInt8)(k:Nat):List UInt8:=b.set (k/8) (nth b (k/8) ^^^ UInt8.ofNat (2 ^ (k%8)))
theorem flipL_length (b:List UInt8)(k:Nat):(flipL b k).length=b.length:=List.length_set
abbrev U11:List TypeId:=[5,4,3,30,33,26,133,64,87,144,50,215,91,35,71,152]
structure KS (base:Nat)(w w':World):Prop where
 o:KeepO U11 w w'
 b:Below base w w'
theorem KS.trans {base:Nat}{a b c:World}(h:KS base a b)(k:KS base b c):KS base a c:=⟨h.o.trans k.o,h.b.trans k.b⟩
theorem KS.of_below {base:Nat}{w w':World}(h:Below w.heap.size w w')(hb:base≤w.heap.size):KS base w w':=⟨KeepO.of_below h,h.mono hb⟩
theorem KS.ofP {base:Nat}{w w':World}(h:KP base w w'):KS base w w':=⟨h.o.less (by decide),h.b⟩
def mapL (t:Tl)(j:Jl):List UInt8:=t.rdB j 49
theorem find_512 {l:Qs}(h:∀g∈l,g.2.length=512){i:Int}{b:List UInt8}(hb:Tl.find l i=some b):b.length=512:=by
 unfold Tl.find at hb
 obtain⟨g,hg,rfl⟩:=Option.map_eq_some_iff.1 hb
 exact h g (List.mem_of_find?_eq_some hg)
theorem map_ok {t:Tl}{j:Jl}{m:Nat}(hf:FewM j.p m)(ho:j.p.off=false)(hl:∀g∈t.l,g.2.length=512):t.rdE j 49=0∧(mapL t j).length=512:=by
 have hn:=hf.n0
 have ha:areaI j.p.n 49=true:=by unfold areaI;exact decide_eq_true (by omega)
 unfold mapL Tl.rdE Tl.rdB
 cases hq:Tl.find t.l 49 with
 | some b=>exact⟨rfl,find_512 hl hq⟩
 | none =>
  have hi:inR j.p.n 49=true:=by unfold inR;exact decide_eq_true (by omega)
  simp only[ha]
  refine⟨?_,?_⟩
  ·unfold Pl.rdE Pl.stE;rw[ho,hi];rfl
  ·unfold Pl.rdB;rw[ho,hi];exact put512 _ _ hf.st (fun g hg=>(hf.at_ g hg).2) _
theorem tlWrite_512 {t:Tl}{j:Jl}{i:Int}{b:List UInt8}(h:∀g∈t.l,g.2.length=512):∀g∈(t.write j i b).l,g.2.length=512:=by
 unfold Tl.write
 split
 ·rename_i hz
  intro g hg
  rcases putQ_mem _ _ _ g hg with e|e
  ·exact h g e
  ·rw[e]
   unfold Tl.wrE at hz
   split at hz
   ·cases hz
   ·split at hz
    ·cases hz
    ·split at hz
     ·cases hz
     ·rename_i hb;exact Classical.not_not.1 hb
 ·exact h
def spRdE (t:Tl)(j:Jl)(i:Int):Int:=if i<50 then 50 else t.rdE j i
def spRdB (t:Tl)(j:Jl)(i:Int):List UInt8:=if i<50 then [] else t.rdB j i
def spWrE (t:Tl)(j:Jl)(i:Int)(b:List UInt8):Int:=if i<50 then 50 else t.wrE j i b
def spWr (t:Tl)(j:Jl)(i:Int)(b:List UInt8):Tl:=if i<50 then t else t.write j i b
def gvNo (t:Tl)(j:Jl)(i:Int):Prop:=i<51∨(j.p.n:Int)≤i∨takenL (mapL t j) i=false
instance (t:Tl) (j:Jl) (i:Int):Decidable (gvNo t j i):=by unfold gvNo;exact inferInstance
def gvE (t:Tl)(j:Jl)(i:Int):Int:=if gvNo t j i then 50 else t.wrE j 49 (flipL (mapL t j) i.toNat)
def gvT (t:Tl)(j:Jl)(i:Int):Tl:=if gvNo t j i then t else t.write j 49 (flipL (mapL t j) i.toNat)
def tkK (t:Tl)(j:Jl):Nat:=tkI (mapL t j) j.p.n
def tkE1 (t:Tl)(j:Jl)(k:Nat):Int:=t.wrE j (k:Int) zero512
def tkT1 (t:Tl)(j:Jl)(k:Nat):Tl:=t.write j (k:Int) zero512
def tkE2 (t:Tl)(j:Jl)(k:Nat):Int:=(tkT1 t j k).wrE j 49 (flipL (mapL (tkT1 t j k) j) k)
def tkT2 (t:Tl)(j:Jl)(k:Nat):Tl:=(tkT1 t j k).write j 49 (flipL (mapL (tkT1 t j k) j) k)
def tkE (t:Tl)(j:Jl):Int:=if tkK t j=j.p.n then 44 else if tkE1 t j (tkK t j)≠0 then tkE1 t j (tkK t j) else tkE2 t j (tkK t j)
def tkV (t:Tl)(j:Jl):Nat:=if tkE t j=0 then tkK t j else 0
def tkT (t:Tl)(j:Jl):Tl:=if tkK t j=j.p.n then t else if tkE1 t j (tkK t j)≠0 then tkT1 t j (tkK t j) else tkT2 t j (tkK t j)
theorem tk_full {t:Tl}{j:Jl}(hk:tkK t j=j.p.n):tkE t j=44∧tkV t j=0∧tkT t j=t:=by
 have e:tkE t j=44:=by unfold tkE;rw[if_pos hk]
 exact⟨e,by unfold tkV;rw[e];rfl,by unfold tkT;rw[if_pos hk]⟩
theorem tk_no1 {t:Tl}{j:Jl}{x:Nat}(hk:tkK t j=x)(hn:x<j.p.n)(h1:tkE1 t j x≠0):tkE t j=tkE1 t j x∧tkV t j=0∧tkT t j=tkT1 t j x:=by
 have e:tkE t j=tkE1 t j x:=by unfold tkE;rw[hk,if_neg (by omega),if_pos h1]
 exact⟨e,by unfold tkV;rw[e,if_neg h1],by unfold tkT;rw[hk,if_neg (by omega),if_pos h1]⟩
theorem tk_two {t:Tl}{j:Jl}{x:Nat}(hk:tkK t j=x)(hn:x<j.p.n)(h1:tkE1 t j x=0):tkE t j=tkE2 t j x∧tkT t j=tkT2 t j x:=by
 have h:¬tkE1 t j x≠0:=fun h=>h h1
 exact⟨by unfold tkE;rw[hk,if_neg (by omega),if_neg h],by unfold tkT;rw[hk,if_neg (by omega),if_neg h]⟩
theorem tk_no2 {t:Tl}{j:Jl}{x:Nat}(hk:tkK t j=x)(hn:x<j.p.n)(h1:tkE1 t j x=0)(h2:tkE2 t j x≠0):tkE t j=tkE2 t j x∧tkV t j=0∧tkT t j=tkT2 t j x:=by
 obtain⟨a,b⟩:=tk_two hk hn h1
 exact⟨a,by unfold tkV;rw[a,if_neg h2],b⟩
theorem tk_yes {t:Tl}{j:Jl}{x:Nat}(hk:tkK t j=x)(hn:x<j.p.n)(h1:tkE1 t j x=0)(h2:tkE2 t j x=0):tkE t j=0∧tkV t j=x∧tkT t j=tkT2 t j x:=by
 obtain⟨a,b⟩:=tk_two hk hn h1
 exact⟨a.trans h2,by unfold tkV;rw[a,if_pos h2,hk],b⟩
structure Fit (t:Tl)(j:Jl)(m:Nat):Prop where
 few:FewM j.p m
 m:m≤80000
 good:Good j.p
 len:t.l.length≤48
 lens:∀g∈t.l,g.2.length=512
 at_:∀g∈t.l,g.1<j.p.n
 over:t.over=false
 dead:j.dead=false
 seq:j.seq<18446744073709551616
structure SpcOK (JA:World→Nat→Nat→Nat→Jl→Prop)(SA:World→Nat→Nat→Nat→Nat→Tl→Jl→Prop):Prop where
 toJ:∀ {w:World} {S J P base:Nat} {t:Tl} {j:Jl},SA w S J P base t j→JA w J P base j
 lo:∀ {w:World} {S J P base:Nat} {t:Tl} {j:Jl},SA w S J P base t j→base≤w.heap.size
 keep:∀ {w w':World} {S J P base:Nat} {t:Tl} {j:Jl},SA w S J P base t j→KeepT CT w w'→SA w' S J P base t j
 open_:∀(w:World) (J P base m:Nat) (j:Jl),JA w J P base j→Fit ⟨[],false⟩ j m →
  Calls Tryz.prog 10 #[.pointer (some ⟨J,0,none⟩)] w fun e w'=>(∃S,e=.returned (.tuple #[.pointer (some ⟨S,0,none⟩),.int .i64 0])∧SA w' S J P base ⟨[],false⟩ j)∧KS base w w'
 take:∀(w:World) (S J P base m:Nat) (t:Tl) (j:Jl),SA w S J P base t j→Fit t j m →
  Calls Tryz.prog 98 #[.pointer (some ⟨S,0,none⟩)] w fun e w'=>e=.returned (.tuple #[.int .i64 (tkV t j:Int),.int .i64 (tkE t j)])∧SA w' S J P base (tkT t j) j∧KS base w w'
 give:∀(w:World) (S J P base m:Nat) (t:Tl) (j:Jl) (i:Int),SA w S J P base t j→Fit t j m → -9223372036854775808≤i→i≤9223372036854775807 →
  Calls Tryz.prog 108 #[.pointer (some ⟨S,0,none⟩),.int .i64 i] w fun e w'=>e=.returned (.int .i64 (gvE t j i))∧SA w' S J P base (gvT t j i) j∧KS base w w'
 read:∀(w:World) (S J P base m:Nat) (t:Tl) (j:Jl) (i:Int),SA w S J P base t j→Fit t j m → -9223372036854775808≤i→i≤9223372036854775807 →
  Calls Tryz.prog 101 #[.pointer (some ⟨S,0,none⟩),.int .i64 i] w fun e w'=>(∃v,e=.returned (.tuple #[v,.int .i64 (spRdE t j i)])∧IsV w' v (spRdB t j i))∧SA w' S J P base t j∧KS base w w'
 write:∀(w:World) (S J P base m:Nat) (t:Tl) (j:Jl) (i:Int) (ba:Option Addr) (bc:Nat) (b:List UInt8),SA w S J P base t j→Fit t j m → -9223372036854775808≤i→i≤9223372036854775807→b.length≤140737488351232→(∀W,KeepO [5] w W→Below base w W→IsB W ba b.length bc b) →
  Calls Tryz.prog 33 #[.pointer (some ⟨S,0,none⟩),.int .i64 i,.slice ba b.length bc] w fun e w'=>e=.returned (.int .i64 (spWrE t j i b))∧SA w' S J P base (spWr t j i b) j∧KS base w w'
 free:∀(w:World) (S J P base m:Nat) (t:Tl) (j:Jl),SA w S J P base t j→Fit t j m →
  Calls Tryz.prog 27 #[.pointer (some ⟨S,0,none⟩)] w fun e w'=>e=.returned (.int .i64 (freeL (mapL t j) (j.p.n-51):Int))∧SA w' S J P base t j∧KS base w w'
 commit:∀(w:World) (S J P base m:Nat) (t:Tl) (j:Jl),SA w S J P base t j→Fit t j m →
  Calls Tryz.prog 26 #[.pointer (some ⟨S,0,none⟩)] w fun e w'=>e=.returned (.int .i64 (cmE t j))∧JA w' J P base (cmJ t j)∧KS base w w'
 taken:∀(w:World) (a:Option Addr) (len cap:Nat) (l:List UInt8) (i:Int),IsB w a len cap l→len≤10000 → -9223372036854775808≤i→i≤9223372036854775807 →
  Calls Tryz.prog 155 #[.slice a len cap,.int .i64 i] w fun e w'=>e=.returned (.bool (takenL l i))∧Below w.heap.size w w'
 count:∀(w:World) (a:Option Addr) (len cap:Nat) (l:List UInt8) (n:Int),IsB w a len cap l→len≤10000 → -9223372036854775808≤n→n≤9223372036854775807 →
  Calls Tryz.prog 55 #[.slice a len cap,.int .i64 n] w fun e w'=>e=.returned (.int .i64 (countL l n:Int))∧Below w.heap.size w w'
theorem Fit.write {t:Tl}{j:Jl}{m:Nat}(h:Fit t j m)(i:Int)(b:List UInt8):Fit (t.write j i b) j m :=
 ⟨h.few,h.m,h.good,tlWrite_len _ _ _ _ h.len,tlWrite_512 h.lens,tlWrite_at _ _ _ _ h.at_,(tlWrite_over _ _ _ _).trans h.over,h.dead,h.seq⟩
theorem Fit.fresh {t:Tl}{j:Jl}{m:Nat}(h:Fit t j m):Fit ⟨[],false⟩ j m :=
 ⟨h.few,h.m,h.good,Nat.zero_le _,fun g hg=>(by cases hg),fun g hg=>(by cases hg),rfl,h.dead,h.seq⟩
theorem Fit.commit {t:Tl}{j:Jl}{m:Nat}(h:Fit t j m)(hm:m+150≤80000):cmE t j=0∧Fit ⟨[],false⟩ (cmJ t j) (m+150)∧(cmJ t j).p.n=j.p.n:=by
 have hnot:¬(t.over=true∨j.dead=true):=by rw[h.over,h.dead];simp
 by_cases hne:t.l=[]
 ·have e1:cmE t j=0:=by unfold cmE;rw[if_neg hnot,if_pos hne]
  have e2:cmJ t j=j:=by unfold cmJ;rw[if_neg hnot,if_pos hne]
  rw[e2]
  exact⟨e1,{ h.fresh with few:=h.few.more (by omega),m:=hm },rfl⟩
 ·obtain⟨e1,q,e2,h3,h4,_⟩:=commit_ok h.few h.good h.over h.dead hne h.len (fun g hg=>⟨h.at_ g hg,h.lens g hg⟩)
  have hf:=h.few.commit h.len
  rw[e2] at hf ⊢
  exact⟨e1,⟨hf.more (by omega),hm,h3,Nat.zero_le _,fun g hg=>(by cases hg),fun g hg=>(by cases hg),rfl,rfl,Nat.mod_lt _ (by omega)⟩,h4⟩
end
section
open Go.RowKit Go.Maps
def secV (b:List UInt8):Value:=.agg (bv b).toArray
def secR (v:Value):Option (DataW Value × List MemPlace):=some (.held v,[])
def keyQ (i:Nat):Lit:=.int .i64 (i:Int)
def entQ (g:Nat × List UInt8):Lit × DataW Value:=(keyQ g.1,.held (secV g.2))
def mapD (l:Qs):DataW Value:=.map (l.map entQ)
def SortQ (l:Qs):Prop:=l.Pairwise fun a b=>a.1<b.1
theorem key_same (i:Nat)(z:Int):(keyQ i).sameKey (.int .i64 z)=decide ((i:Int)=z):=by
 show decide (IntKind.i64=IntKind.i64∧(i:Int)=z)=_
 congr 1
 exact propext ⟨fun h=>h.2,fun h=>⟨rfl,h⟩⟩
theorem key_before (i k:Nat):(keyQ i).before (keyQ k)=decide (i<k):=by
 show decide ((i:Int)<(k:Int))=_
 congr 1
 exact propext ⟨fun h=>by omega,fun h=>by omega⟩
theorem mapD_size (l:Qs):Maps.size (mapD l)=l.length:=by unfold mapD;rw[Maps.size_eq,List.length_map]
theorem find_map (l:Qs)(z:Int):(l.map entQ).find? (fun p=>p.1.sameKey (.int .i64 z))=(l.find? fun g=>((g.1:Int)==z)).map entQ:=by
 induction l with
 | nil=>rfl
 | cons g l ih =>
  rw[List.map_cons,List.find?_cons,List.find?_cons]
  have e:(entQ g).1.sameKey (.int .i64 z)=((g.1:Int)==z):=by
   show (keyQ g.1).sameKey _=_
   rw[key_same]
   cases h:((g.1:Int)==z) with
   | true=>exact decide_eq_true (by simpa using h)
   | false=>exact decide_eq_false (by simpa using h)
  rw[e,ih]
  cases ((g.1:Int)==z)<;>rfl
theorem mapD_at (l:Qs)(z:Int)(v:Value):(mapD l).atKey (.int .i64 z) (.held v)=.held ((Tl.find l z).elim v secV):=by
 unfold mapD DataW.atKey Tl.find
 dsimp only
 rw[find_map]
 cases l.find? (fun g=>((g.1:Int)==z))<;>rfl
theorem mapD_has (l:Qs)(z:Int):Maps.has (mapD l) (.int .i64 z)=(Tl.find l z).isSome:=by
 unfold mapD Tl.find
 rw[Maps.has_eq]
 induction l with
 | nil=>rfl
 | cons g l ih =>
  rw[List.map_cons,List.any_cons,ih,List.find?_cons]
  have e:(entQ g).1.sameKey (.int .i64 z)=((g.1:Int)==z):=by
   show (keyQ g.1).sameKey _=_
   rw[key_same]
   cases h:((g.1:Int)==z) with
   | true=>exact decide_eq_true (by simpa using h)
   | false=>exact decide_eq_false (by simpa using h)
  rw[e]
  cases ((g.1:Int)==z)<;>simp
theorem filter_keep (l:Qs)(i:Nat)(h:∀g∈l,g.1≠i):(l.map entQ).filter (fun p => !p.1.sameKey (keyQ i))=l.map entQ:=by
 rw[List.filter_eq_self]
 intro p hp
 obtain⟨g,hg,rfl⟩:=List.mem_map.1 hp
 have:(entQ g).1.sameKey (keyQ i)=false:=by
  show (keyQ g.1).sameKey (.int .i64 (i:Int))=false
  rw[key_same]
  exact decide_eq_false (fun e=>h g hg (by omega))
 rw[this];rfl
theorem insert_front (l:Qs)(x:Nat × List UInt8)(h:∀g∈l,x.1<g.1):DataW.insert (entQ x) (l.map entQ)=entQ x::l.map entQ:=by
 cases l with
 | nil=>rfl
 | cons g l =>
  rw[List.map_cons,DataW.insert]
  have:(entQ x).1.before (entQ g).1=true:=by
   show (keyQ x.1).before (keyQ g.1)=true
   rw[key_before]
   exact decide_eq_true (h g (by simp))
  rw[if_pos this]
theorem mapD_put (l:Qs)(i:Nat)(b:List UInt8)(hs:SortQ l):(mapD l).put (keyQ i) (.held (secV b))=mapD (putQ l i b):=by
 unfold mapD DataW.put
 dsimp only
 congr 1
 show DataW.insert (entQ (i,b)) _=_
 induction l with
 | nil=>rfl
 | cons g l ih =>
  obtain⟨h1,h2⟩:=List.pairwise_cons.1 hs
  rw[putQ]
  have ek:(entQ g).1.sameKey (keyQ i)=decide ((g.1:Int)=(i:Int)):=key_same g.1 (i:Int)
  by_cases ha:g.1<i
  ·rw[if_pos ha,List.map_cons,List.map_cons,List.filter_cons,ek,decide_eq_false (by omega),Bool.not_false,if_pos rfl,DataW.insert]
   have:(entQ (i,b)).1.before (entQ g).1=false:=by
    show (keyQ i).before (keyQ g.1)=false
    rw[key_before]
    exact decide_eq_false (by omega)
   rw[if_neg (by rw[this];decide),ih h2]
  ·by_cases hb:g.1=i
   ·rw[if_neg ha,if_pos hb,List.map_cons,List.map_cons,List.filter_cons,ek,decide_eq_true (by omega),Bool.not_true,if_neg (by decide),filter_keep l i (fun x hx=>by have:=h1 x hx;omega)]
    exact insert_front l (i,b) (fun x hx=>by have:=h1 x hx;show i<x.1;omega)
   ·rw[if_neg ha,if_neg hb,filter_keep (g::l) i (fun x hx=>by
     rcases List.mem_cons.1 hx with rfl|hx
     ·exact hb
     ·have:=h1 x hx;omega)]
    exact insert_front (g::l) (i,b) (fun x hx=>by
     rcases List.mem_cons.1 hx with rfl|hx
     ·show i<x.1;omega
     ·have:=h1 x hx;show i<x.1;omega)
theorem putQ_sort (l:Qs)(i:Nat)(b:List UInt8)(hs:SortQ l):SortQ (putQ l i b):=by
 induction l with
 | nil=>exact List.pairwise_cons.2 ⟨fun _ h=>(by cases h),List.Pairwise.nil⟩
 | cons g l ih =>
  obtain⟨h1,h2⟩:=List.pairwise_cons.1 hs
  rw[putQ]
  by_cases ha:g.1<i
  ·rw[if_pos ha]
   refine List.pairwise_cons.2 ⟨fun x hx=>?_,ih h2⟩
   have:x∈l∨x=(i,b):=by
    clear ih hs h1 ha
    induction l with
    | nil=>exact .inr (List.mem_singleton.1 hx)
    | cons y l ih2 =>
     rw[putQ] at hx
     split at hx
     ·rcases List.mem_cons.1 hx with e|e
      ·exact .inl (by rw[e];simp)
      ·rcases ih2 (List.pairwise_cons.1 h2).2 e with e|e
       ·exact .inl (List.mem_cons_of_mem _ e)
       ·exact .inr e
     ·split at hx
      ·rcases List.mem_cons.1 hx with e|e
       ·exact .inr e
       ·exact .inl (List.mem_cons_of_mem _ e)
      ·rcases List.mem_cons.1 hx with e|e
       ·exact .inr e
       ·exact .inl e
   rcases this with h|h
   ·exact h1 x h
   ·rw[h];exact ha
  ·by_cases hb:g.1=i
   ·rw[if_neg ha,if_pos hb]
    exact List.pairwise_cons.2 ⟨fun x hx=>by have:=h1 x hx;show i<x.1;omega,h2⟩
   ·rw[if_neg ha,if_neg hb]
    refine List.pairwise_cons.2 ⟨fun x hx=>?_,hs⟩
    rcases List.mem_cons.1 hx with rfl|hx
    ·show i<x.1;omega
    ·have:=h1 x hx;show i<x.1;omega
theorem hit_find (l:Qs)(i:Nat)(hs:SortQ l):hitQ l i=(Tl.find l (i:Int)).isSome:=by
 unfold Tl.find
 induction l with
 | nil=>rfl
 | cons g l ih =>
  obtain⟨h1,h2⟩:=List.pairwise_cons.1 hs
  rw[hitQ,List.find?_cons]
  by_cases ha:g.1<i
  ·rw[if_pos ha,ih h2]
   have:((g.1:Int)==(i:Int))=false:=by simp;omega
   rw[this]
  ·rw[if_neg ha]
   by_cases hb:g.1=i
   ·have:((g.1:Int)==(i:Int))=true:=by simp;omega
    rw[this]
    simp[hb]
   ·have:((g.1:Int)==(i:Int))=false:=by simp;omega
    rw[this]
    have hn:l.find? (fun g=>((g.1:Int)==(i:Int)))=none:=List.find?_eq_none.2 (fun x hx=>by have:=h1 x hx;simp;omega)
    rw[hn]
    simp[hb]
theorem mapD_keys (l:Qs):intKeys (mapD l)=l.map fun g=>(g.1:Int):=by
 unfold mapD intKeys
 dsimp only
 rw[List.map_map]
 rfl
theorem sorted_keys (l:Qs)(hs:SortQ l)(ss:List Int)(hp:ss.Perm (intKeys (mapD l))):ss.mergeSort (fun x y=>decide (x≤y))=l.map fun g=>(g.1:Int):=by
 have hS:(l.map fun g=>(g.1:Int)).Pairwise (fun a b=>decide (a≤b)=true):=List.pairwise_map.2 (hs.imp (fun h=>decide_eq_true (by omega)))
 rw[mapD_keys] at hp
 have h1:(ss.mergeSort (fun x y=>decide (x≤y))).Pairwise (fun a b=>decide (a≤b)=true):=List.pairwise_mergeSort (by intro a b c h1 h2;simp at *;omega) (by intro a b;simp;omega) ss
 refine List.Perm.eq_of_pairwise (le:=fun a b=>decide (a≤b)=true) (fun a b _ _ h1 h2=>?_) h1 hS ((List.mergeSort_perm _ _).trans hp)
 have a1:=of_decide_eq_true h1
 have a2:=of_decide_eq_true h2
 omega
structure JAt (w:World)(J P base:Nat)(j:Jl):Prop where
 blk:Blk w J 117 [.pointer (some ⟨P,0,none⟩),.int .u64 (j.seq:Int),.int .u32 (flag j.dead)]
 low:base≤J
 d:IsD0 w P base j.p
 seq:j.seq<18446744073709551616
abbrev OwnM (w:World)(M:Nat)(l:Qs):Prop:=w.ownsMap Tryz.prog 3 secR M l.length (mapD l)
structure TAt (w:World)(T J P base:Nat)(t:Tl)(j:Jl)(M:Nat)(tried:Bool):Prop where
 ja:JAt w J P base j
 blk:Blk w T 129 [.pointer (some ⟨J,0,none⟩),.map (some M),.int .u32 (flag tried),.int .i32 0,.int .u32 0,.bool tried]
 low:base≤T
 lowM:base≤M
 own:OwnM w M t.l
 sort:SortQ t.l
 ok:∀g∈t.l,g.2.length=512∧49≤g.1∧g.1<4096
 over:j.dead=false→tried=t.over
def TAx (w:World)(T J P base:Nat)(t:Tl)(j:Jl):Prop:=∃M tried,TAt w T J P base t j M tried
theorem own_tight {w:World}{M n:Nat}{l:Qs}(h:w.ownsMap Tryz.prog 3 secR M n (mapD l)):OwnM w M l:=by
 obtain⟨es,clock,hb,F,hs,hD⟩:=h
 refine⟨es,clock,hb,F,?_,hD⟩
 have e1:=congrArg Maps.size hD
 rw[mapD_size] at e1
 rw[e1,Maps.size_eq,length_sorted]
 simp
theorem ownM_obj {w:World}{M:Nat}{l:Qs}(h:OwnM w M l):∃es clock,w.heap[M]?=some (.map es clock):=by
 obtain⟨es,clock,hb,_⟩:=h
 exact⟨es,clock,hb⟩
theorem ownM_keep {w w':World}{M:Nat}{l:Qs}(h:OwnM w M l){ts:List TypeId}(hk:KeepT ts w w'):OwnM w' M l:=by
 obtain⟨es,clock,hb,r⟩:=h
 exact⟨es,clock,hk.same M _ hb (fun c t fz e=>by cases e),r⟩
theorem ownM_on {w w':World}{M:Nat}{l:Qs}(h:OwnM w M l)(hb:Below w.heap.size w w'):OwnM w' M l:=ownM_keep (ts:=[]) h (KeepT.of_below hb)
theorem JAt.on {w w':World}{J P base:Nat}{j:Jl}(h:JAt w J P base j)(hb:Below w.heap.size w w'):JAt w' J P base j:=⟨h.blk.on hb,h.low,h.d.on hb,h.seq⟩
theorem JAt.keep {w w':World}{J P base:Nat}{j:Jl}(h:JAt w J P base j)(hk:KeepT CT w w'):JAt w' J P base j:=⟨hk.blk h.blk (by decide),h.low,h.d.keep hk (by decide) (by decide) (by decide),h.seq⟩
theorem JAt.turn {w w':World}{J P base:Nat}{j:Jl}{p':Pl}(h:JAt w J P base j)(hk:KeepT PD w w')(hd:IsD0 w' P base p'):JAt w' J P base ⟨p',j.seq,j.dead⟩:=⟨hk.blk h.blk (by decide),h.low,hd,h.seq⟩
theorem TAt.on {w w':World}{T J P base:Nat}{t:Tl}{j:Jl}{M:Nat}{tr:Bool}(h:TAt w T J P base t j M tr)(hb:Below w.heap.size w w'):TAt w' T J P base t j M tr:=⟨h.ja.on hb,h.blk.on hb,h.low,h.lowM,ownM_on h.own hb,h.sort,h.ok,h.over⟩
theorem TAt.keep {w w':World}{T J P base:Nat}{t:Tl}{j:Jl}{M:Nat}{tr:Bool}(h:TAt w T J P base t j M tr)(hk:KeepT CT w w'):TAt w' T J P base t j M tr:=⟨h.ja.keep hk,hk.blk h.blk (by decide),h.low,h.lowM,ownM_keep h.own hk,h.sort,h.ok,h.over⟩
structure TIn (w:World)(T J M:Nat)(l:Qs)(rest:List Value):Prop where
 blk:Blk w T 129 (.pointer (some ⟨J,0,none⟩):: .map (some M):: rest)
 own:OwnM w M l
 sort:SortQ l
 ok:∀g∈l,g.2.length=512∧49≤g.1∧g.1<4096
theorem TIn.on {w w':World}{T J M:Nat}{l:Qs}{rest:List Value}(h:TIn w T J M l rest)(hb:Below w.heap.size w w'):TIn w' T J M l rest:=⟨h.blk.on hb,ownM_on h.own hb,h.sort,h.ok⟩
end
section
open Go.RowKit
theorem flip_all:∀y:Fin 256,∀r:Fin 8,∀s:Fin 8,decide ((y.val ^^^ 2 ^ r.val)/2 ^ s.val%2=1)=(if s.val=r.val then !decide (y.val/2 ^ s.val%2=1) else decide (y.val/2 ^ s.val%2=1)):=by decide +kernel
theorem nth_setX (b:List UInt8)(q x:Nat)(y:UInt8)(h:q<b.length):nth (b.set q y) x=if q=x then y else nth b x:=by
 unfold nth
 rw[List.getD_eq_getElem?_getD,List.getElem?_set,List.getD_eq_getElem?_getD]
 by_cases e:q=x
 ·rw[if_pos e,if_pos h,if_pos e];rfl
 ·rw[if_neg e,if_neg e]
theorem flip_bit (b:List UInt8)(k x:Nat)(hk:k/8<b.length):bitN (flipL b k) x=if x=k then !bitN b k else bitN b x:=by
 unfold bitN flipL
 rw[nth_setX b _ _ _ hk]
 by_cases e:k/8=x/8
 ·rw[if_pos e]
  have hp:2 ^ (k%8)<256:=Nat.lt_of_lt_of_le (Nat.pow_lt_pow_right (by omega) (Nat.mod_lt k (by omega:8>0))) (by decide)
  have h1:(nth b (k/8) ^^^ UInt8.ofNat (2 ^ (k%8))).toNat=(nth b (k/8)).toNat ^^^ 2 ^ (k%8):=by
   rw[UInt8.toNat_xor,UInt8.toNat_ofNat',Nat.mod_eq_of_lt hp]
  rw[h1]
  have h2:=flip_all ⟨(nth b (k/8)).toNat,(nth b (k/8)).toNat_lt⟩ ⟨k%8,Nat.mod_lt _ (by omega)⟩ ⟨x%8,Nat.mod_lt _ (by omega)⟩
  simp only at h2
  rw[h2]
  by_cases hx:x=k
  ·subst hx;rw[if_pos rfl,if_pos rfl]
  ·rw[if_neg (by omega),if_neg hx,e]
 ·rw[if_neg e,if_neg (fun h=>e (by rw[h]))]
theorem find_put (l:Qs)(i:Nat)(b:List UInt8)(z:Int):Tl.find (putQ l i b) z=if z=(i:Int) then some b else Tl.find l z:=by
 unfold Tl.find
 induction l with
 | nil =>
  rw[putQ]
  by_cases e:z=(i:Int)
  ·subst e;simp
  ·rw[if_neg e]
   have h1:(((i:Int)==z):Bool)=false:=beq_eq_false_iff_ne.2 (fun h=>e h.symm)
   simp[List.find?,h1]
 | cons g l ih =>
  rw[putQ]
  split
  ·rename_i h1
   rw[List.find?_cons,List.find?_cons]
   by_cases e:(g.1:Int)=z
   ·have hb:(((g.1:Int)==z):Bool)=true:=by simp[e]
    rw[hb,if_neg (by omega)]
   ·have hb:(((g.1:Int)==z):Bool)=false:=beq_eq_false_iff_ne.2 e
    rw[hb]
    exact ih
  ·split
   ·rename_i h1 h2
    rw[List.find?_cons,List.find?_cons]
    by_cases e:z=(i:Int)
    ·have hb:(((i:Int)==z):Bool)=true:=by simp[e]
     simp only[hb,if_pos e]
     rfl
    ·have hb:(((i:Int)==z):Bool)=false:=beq_eq_false_iff_ne.2 (fun h=>e h.symm)
     have hb2:(((g.1:Int)==z):Bool)=false:=by rw[h2];exact hb
     simp only[hb,hb2,if_neg e]
   ·rw[List.find?_cons]
    by_cases e:z=(i:Int)
    ·have hb:(((i:Int)==z):Bool)=true:=by simp[e]
     simp only[hb,if_pos e]
     rfl
    ·have hb:(((i:Int)==z):Bool)=false:=beq_eq_false_iff_ne.2 (fun h=>e h.symm)
     simp only[hb,if_neg e]
theorem map_write {t:Tl}{j:Jl}{b:List UInt8}(hz:t.wrE j 49 b=0):mapL (t.write j 49 b) j=b:=by
 have h:Tl.find (t.write j 49 b).l 49=some b:=by
  unfold Tl.write
  rw[if_pos hz]
  show Tl.find (putQ t.l 49 b) 49=some b
  rw[find_put]
  exact if_pos rfl
 unfold mapL Tl.rdB
 rw[h]
theorem map_other {t:Tl}{j:Jl}{i:Int}{b:List UInt8}(hk:i≠49):mapL (t.write j i b) j=mapL t j:=by
 have h:Tl.find (t.write j i b).l 49=Tl.find t.l 49:=by
  unfold Tl.write
  split
  ·show Tl.find (putQ t.l i.toNat b) 49=_
   rw[find_put,if_neg (by omega)]
  ·rfl
 unfold mapL Tl.rdB
 rw[h]
theorem own_isB {W:World}{base n cap:Nat}{A:Option Addr}{l:List UInt8}(h:OwnB W base (.slice A n cap) l):IsB W A l.length cap l:=by
 obtain⟨a,c,e,hI⟩:=h.isB
 injection e with e1 e2 e3
 subst e1 e3
 exact hI
theorem tkGo_spec (b:List UInt8):∀(f i:Nat),(tkGo b f i=i+f∧∀x,i≤x→x<i+f→bitN b x=true)∨(i≤tkGo b f i∧tkGo b f i<i+f∧bitN b (tkGo b f i)=false):=by
 intro f
 induction f with
 | zero=>intro i;exact .inl ⟨rfl,fun x h1 h2=>by omega⟩
 | succ f ih =>
  intro i
  rw[tkGo]
  cases hb:bitN b i with
  | false=>rw[if_neg (by simp)];exact .inr ⟨Nat.le_refl _,by omega,hb⟩
  | true =>
   rw[if_pos rfl]
   rcases ih (i+1) with⟨h1,h2⟩|⟨h1,h2,h3⟩
   ·refine .inl ⟨by omega,fun x hx hy=>?_⟩
    by_cases e:x=i
    ·rw[e];exact hb
    ·exact h2 x (by omega) (by omega)
   ·exact .inr ⟨by omega,by omega,h3⟩
def lowN (L:List Int)(a:Int):Nat:=(L.filter fun z=>decide (z<a)).length
theorem low_step (L:List Int)(a:Int)(hn:L.Nodup):lowN L (a+1)=lowN L a+(if a∈L then 1 else 0):=by
 unfold lowN
 induction L with
 | nil=>simp
 | cons z L ih =>
  have hn':=List.nodup_cons.1 hn
  have ih':=ih hn'.2
  rw[List.filter_cons,List.filter_cons]
  by_cases e:z=a
  ·subst e
   rw[if_pos (decide_eq_true (by omega)),if_neg (by simp),List.length_cons,ih',if_neg hn'.1,if_pos (List.mem_cons_self ..)]
  ·have hm:(a∈z::L)=(a∈L):=propext ⟨fun h=>by rcases List.mem_cons.1 h with h|h;exact absurd h.symm e;exact h,fun h=>List.mem_cons_of_mem _ h⟩
   by_cases h:z<a
   ·rw[if_pos (decide_eq_true (by omega)),if_pos (decide_eq_true h),List.length_cons,List.length_cons,ih']
    simp only[hm]
    omega
   ·rw[if_neg (by simp;omega),if_neg (by simp;omega),ih']
    simp only[hm]
theorem write_l {t:Tl}{j:Jl}{i:Nat}{b:List UInt8}(hz:t.wrE j (i:Int) b=0):(t.write j (i:Int) b).l=putQ t.l i b:=by
 unfold Tl.write
 rw[if_pos hz]
 rfl
theorem zero_len:zero512.length=512:=by unfold zero512;exact List.length_replicate
def lessL (L:List Int)(z:Int):List Int:=L.filter fun x=>decide (x≠z)
def nthL (l:Qs)(i:Nat):Nat × List UInt8:=l.getD i (0,[])
structure IsIs (w:World)(a:Option Addr)(len cap:Nat)(l:Qs):Prop where
 len_eq:l.length=len
 cells:0<len→∃B off,a=some ⟨B,off,none⟩∧(∃c fz,w.heap[B]?=some (.cells c 3 fz))∧∀i,i<len→w.cell? ⟨B,off+i,none⟩=some (.int .i64 ((nthL l i).1:Int))
structure IsDt (w:World)(a:Option Addr)(len cap:Nat)(l:Qs):Prop where
 len_eq:l.length=len
 cells:0<len→∃B off,a=some ⟨B,off,none⟩∧(∃c fz,w.heap[B]?=some (.cells c 33 fz))∧∀i,i<len→(nthL l i).2.length=512∧∃g t,w.cell? ⟨B,off+i,none⟩=some (.slice (some ⟨g,0,none⟩) 512 512)∧Blk w g t (bv (nthL l i).2)∧t∈[5,152]
abbrev DT:List TypeId:=[3,33,5,152]
theorem cell_keep {w w':World}{B t o:Nat}{c:Array Value}{fz:Nat × Nat}(hb:w.heap[B]?=some (.cells c t fz)){ts:List TypeId}(hk:KeepT ts w w')(ht:t∉ts):w'.cell? ⟨B,o,none⟩=w.cell? ⟨B,o,none⟩∧w'.heap[B]?=some (.cells c t fz):=by
 have:=hk.same B _ hb (fun c' t' fz' e=>by injection e with _ h2 _;rw[←h2];exact ht)
 refine⟨?_,this⟩
 unfold World.cell?
 rw[this,hb]
theorem IsIs.keep {w w':World}{a:Option Addr}{len cap:Nat}{l:Qs}(h:IsIs w a len cap l){ts:List TypeId}(hk:KeepT ts w w')(ht:∀t∈DT,t∉ts):IsIs w' a len cap l :=
 ⟨h.len_eq,fun hp=>by
  obtain⟨B,off,e,⟨c,fz,hb⟩,hc⟩:=h.cells hp
  have h1:=ht 3 (by simp)
  exact⟨B,off,e,⟨c,fz,(cell_keep (o:=0) hb hk h1).2⟩,fun i hi=>(cell_keep hb hk h1).1.trans (hc i hi)⟩⟩
theorem IsDt.keep {w w':World}{a:Option Addr}{len cap:Nat}{l:Qs}(h:IsDt w a len cap l){ts:List TypeId}(hk:KeepT ts w w')(ht:∀t∈DT,t∉ts):IsDt w' a len cap l :=
 ⟨h.len_eq,fun hp=>by
  obtain⟨B,off,e,⟨c,fz,hb⟩,hc⟩:=h.cells hp
  have h1:=ht 33 (by simp)
  refine⟨B,off,e,⟨c,fz,(cell_keep (o:=0) hb hk h1).2⟩,fun i hi=>?_⟩
  obtain⟨h5,g,t,h6,h7,h8⟩:=hc i hi
  refine⟨h5,g,t,(cell_keep hb hk h1).1.trans h6,hk.blk h7 (ht t ?_),h8⟩
  rcases List.mem_cons.1 h8 with rfl|h9
  ·simp
  ·rw[List.mem_singleton.1 h9];simp⟩
theorem IsIs.on {w w':World}{a:Option Addr}{len cap:Nat}{l:Qs}(h:IsIs w a len cap l)(hb:Below w.heap.size w w'):IsIs w' a len cap l:=h.keep (ts:=[]) (KeepT.of_below hb) (by simp)
theorem IsDt.on {w w':World}{a:Option Addr}{len cap:Nat}{l:Qs}(h:IsDt w a len cap l)(hb:Below w.heap.size w w'):IsDt w' a len cap l:=h.keep (ts:=[]) (KeepT.of_below hb) (by simp)
theorem blk_isB {w:World}{g t:Nat}{b:List UInt8}(h:Blk w g t (bv b))(hb:b.length=512):IsB w (some ⟨g,0,none⟩) 512 512 b :=
 ⟨hb,Nat.le_refl _,by decide,fun e=>(by cases e),fun _=>⟨g,0,rfl,fun i hi=>by rw[h.cell,Nat.zero_add,bv_at b i (by omega)]⟩⟩
theorem codPut (P base m:Nat)(p:Pl)(l:Qs)(pa da:Option Addr)(n pc dc:Nat)(w:World)(h:IsD0 w P base p)(hf:FewM p m)(hm:m+n≤90000)(hp:IsIs w pa n pc l)(hd:IsDt w da n dc l):
  Calls Tryz.prog 60 #[.pointer (some ⟨P,0,none⟩),.slice pa n pc,.slice da n dc] w fun e w'=>e=.returned (.int .i64 (stepsE p l))∧IsD0 w' P base (stepsP p l)∧KeepT PD w w'∧Below base w w':=by
 have HI0:=mkHid h
 have HF0:=mkHid hf
 have HP:=mkHid hp
 have HD:=mkHid hd
 have HN:=mkHid hp.len_eq
 clear h hf hp hd
 go_enter Tryz.func60,Tryz.ntmps60
 go_wp2_with fail
 go_loopw [12] (fun i wr=>∃(k:Nat) (pk:Pl),k≤n∧i=.int .i64 (k:Int)∧Hid (IsD0 wr P base pk)∧Hid (FewM pk (m+k))∧Hid (stepsP p l=stepsP pk (l.drop k)∧stepsE p l=stepsE pk (l.drop k))∧Hid (KeepT PD w wr)∧Hid (Below base w wr)) (fun i _=>n-(Go.RowKit.intOf i).toNat)
 case atStart=>exact⟨0,p,Nat.zero_le _,rfl,HI0,HF0,⟨by rw[List.drop_zero],by rw[List.drop_zero]⟩,KeepT.refl _ _,Below.refl _ _⟩
 case round =>
  obtain⟨k,pk,hk,rfl,HI,HF,HS,HT,HB⟩:=hrel
  by_cases hlt:k<n
  ·obtain⟨B1,o1,rfl,⟨_,_,_⟩,hc1⟩:=(HP.out.keep HT.out (by decide)).cells (by omega)
   obtain⟨B2,o2,rfl,⟨_,_,_⟩,hc2⟩:=(HD.out.keep HT.out (by decide)).cells (by omega)
   have c1:=hc1 k hlt
   obtain⟨h512,g,ty,c2,hbk,hty⟩:=hc2 k hlt
   have hlt':(k:Int)<(n:Int):=by omega
   have hk0:(0:Int)≤(k:Int):=by omega
   have HDr:Hid (l.drop k=nthL l k::l.drop (k+1)):=drop_cons _ k (by rw[HN.out];exact hlt)
   rw[HDr.out] at HS
   have HTy:Hid (ty∉PD):=by
    unfold Hid
    rcases List.mem_cons.1 hty with rfl|h9
    ·decide
    ·rw[List.mem_singleton.1 h9];decide
   have HWr:=writeT (fun _=>False) wr P base pk ((nthL l k).1:Int) (some ⟨g,0,none⟩) 512 (nthL l k).2 HI.out (HF.out.few (by omega)) (fun W hW _=>by rw[h512];exact blk_isB (hW.blk hbk HTy.out) h512)
   rw[h512] at HWr
   have HFn:Hid (FewM (pk.write ((nthL l k).1:Int) (nthL l k).2) (m+(k+1))):=HF.out.write _ _
   have HSy:Hid (pk.wrE ((nthL l k).1:Int) (nthL l k).2=0→stepsP p l=stepsP (pk.write ((nthL l k).1:Int) (nthL l k).2) (l.drop (k+1))∧stepsE p l=stepsE (pk.write ((nthL l k).1:Int) (nthL l k).2) (l.drop (k+1))):=fun hz0=>by
    have:=HS.out
    simp only[stepsP,stepsE,hz0,if_true] at this
    exact this
   have HSn:Hid (¬pk.wrE ((nthL l k).1:Int) (nthL l k).2=0→stepsP p l=pk.write ((nthL l k).1:Int) (nthL l k).2∧stepsE p l=pk.wrE ((nthL l k).1:Int) (nthL l k).2):=fun hz0=>by
    have:=HS.out
    simp only[stepsP,stepsE,hz0,if_false] at this
    exact this
   clear hc1 hc2 hbk hty h512 HTy HDr HS
   generalize (nthL l k).1=ak at *
   generalize (nthL l k).2=bb at *
   cases hz:decide (pk.wrE (ak:Int) bb=0) with
   | true =>
    have hz0:pk.wrE (ak:Int) bb=0:=of_decide_eq_true hz
    have HS2:Hid (stepsP p l=stepsP (pk.write (ak:Int) bb) (l.drop (k+1))∧stepsE p l=stepsE (pk.write (ak:Int) bb) (l.drop (k+1))):=HSy.out hz0
    rw[hz0] at HWr
    clear HSy HSn hz hz0
    go_wp2_with fail
    refine HWr.mono ?_
    rintro e x1 ⟨rfl,hi1,ht1,_,hb1⟩
    have HI1:=mkHid hi1
    have HT1:=mkHid (HT.out.trans ht1)
    have HB1:=mkHid (HB.out.trans hb1)
    clear hi1 ht1 hb1
    go_wp2_with fail
    go_roundw
    case rel=>exact⟨k+1,pk.write (ak:Int) bb,by omega,by go_num,HI1,HFn,HS2,HT1,HB1⟩
    case measure=>simp[Go.RowKit.intOf];omega
   | false =>
    have hz0:¬pk.wrE (ak:Int) bb=0:=of_decide_eq_false hz
    have HS2:Hid (stepsP p l=pk.write (ak:Int) bb∧stepsE p l=pk.wrE (ak:Int) bb):=HSn.out hz0
    clear HSy HSn hz
    generalize pk.wrE (ak:Int) bb=z at *
    have hzb:(z==0)=false:=by rw[beq_eq_false_iff_ne];exact hz0
    go_wp2_with fail
    refine HWr.mono ?_
    rintro e x1 ⟨rfl,hi1,ht1,_,hb1⟩
    have HI1:=mkHid hi1
    have HT1:=mkHid (HT.out.trans ht1)
    have HB1:=mkHid (HB.out.trans hb1)
    clear hi1 ht1 hb1
    go_wp2_with fail
    go_ret
    refine⟨by rw[HS2.out.2];rfl,by rw[HS2.out.1];exact HI1.out,HT1.out,HB1.out⟩
  ·have hge:¬(k:Int)<(n:Int):=by omega
   have hkn:k=n:=by omega
   subst hkn
   have HS2:Hid (stepsP p l=pk.flush∧stepsE p l=pk.flE):=by
    have:=HS.out
    rw[List.drop_of_length_le (by rw[HN.out];exact Nat.le_refl _)] at this
    exact this
   have HFl:=flushT (fun _=>False) wr P base pk HI.out (HF.out.few (by omega))
   clear HS
   go_wp2_with fail
   refine HFl.mono ?_
   rintro e x1 ⟨rfl,hi1,ht1,_,hb1⟩
   have HI1:=mkHid hi1
   have HT1:=mkHid (HT.out.trans ht1)
   have HB1:=mkHid (HB.out.trans hb1)
   clear hi1 ht1 hb1
   go_wp2_with fail
   go_ret
   exact⟨by rw[HS2.out.2];rfl,by rw[HS2.out.1];exact HI1.out,HT1.out,HB1.out⟩
end
section
open Go.RowKit Go.Maps
theorem codInArea (i:Int)(n:Nat)(w:World):
  Calls Tryz.prog 61 #[.int .i64 i,.int .i64 (n:Int)] w fun e w'=>e=.returned (.bool (areaI n i))∧w'=w:=by
 by_cases h0:49≤i
 ·have d0:decide (49≤i)=true:=decide_eq_true h0
  have HV:Hid (decide (i<(n:Int))=areaI n i):=by
   unfold Hid areaI;congr 1;exact propext ⟨fun h=>⟨h0,h⟩,fun h=>h.2⟩
  go_enter Tryz.func61,Tryz.ntmps61
  go_wp2
  go_ret
  exact⟨ret_b (by first|rfl|exact HV.out),rfl⟩
 ·have d0:decide (49≤i)=false:=decide_eq_false h0
  have h0':i<49:=by omega
  have HV:Hid (false=areaI n i):=by unfold Hid areaI;exact(decide_eq_false (fun h=>h0 h.1)).symm
  go_enter Tryz.func61,Tryz.ntmps61
  go_wp2
  go_ret
  exact⟨ret_b (by first|rfl|exact HV.out),rfl⟩
theorem codJSize (w:World)(J P base:Nat)(j:Jl)(h:JAt w J P base j):
  Calls Tryz.prog 38 #[.pointer (some ⟨J,0,none⟩)] w fun e w'=>e=.returned (.int .i64 (j.p.n:Int))∧w'=w:=by
 have c0:w.cell? ⟨J,0,none⟩=some (.pointer (some ⟨P,0,none⟩)):=h.blk.cell 0
 have HS:Calls Tryz.prog 59 #[.pointer (some ⟨P,0,none⟩)] w fun e w'=>e=.returned (.int .i64 (j.p.n:Int))∧w'=w:=by
  obtain⟨S,vC,arm,h⟩:=h.d
  exact codSize P S j.p.n w (h.blk.cell 0)
 clear h
 generalize j.p.n=n at *
 go_enter Tryz.func38,Tryz.ntmps38
 go_wp2_with fail
 refine HS.mono ?_
 rintro e w1 ⟨rfl,rfl⟩
 go_wp2_with fail
 go_ret
 exact⟨rfl,rfl⟩
theorem mkMap (t:TypeId)(w:World):(Instr.makeMap t none).run Tryz.prog w=.ok (.map (some w.heap.size)) (w.alloc (.map #[] 0)):=rfl
theorem codBegin (w:World)(J P base:Nat)(j:Jl)(h:JAt w J P base j)(hbs:base≤w.heap.size):
  Calls Tryz.prog 37 #[.pointer (some ⟨J,0,none⟩)] w fun e w'=>(∃T M,e=.returned (.pointer (some ⟨T,0,none⟩))∧TAt w' T J P base ⟨[],false⟩ j M false)∧Below w.heap.size w w':=by
 have HJ:=mkHid h
 clear h
 have hb:Tryz.prog.built 129 [(0,.pointer (some ⟨J,0,none⟩)),(1,.map (some w.heap.size))]=some #[.pointer (some ⟨J,0,none⟩),.map (some w.heap.size),.int .u32 0,.int .i32 0,.int .u32 0,.bool false]:=by kernel_rfl
 have hM:Hid (OwnM (w.alloc (.map #[] 0)) w.heap.size []):=World.ownsMap_made w Tryz.prog 3 secR
 have hb1:Hid (Below w.heap.size w (w.alloc (.map #[] 0))):=(Below.refl _ w).alloc (Nat.le_refl _) _
 have hmk:=mkMap 120 w
 go_enter Tryz.func37,Tryz.ntmps37
 go_wp2_with fail
 go_ret
 have hb2:=hb1.out.alloc hb1.out.size (.cells #[.pointer (some ⟨J,0,none⟩),.map (some w.heap.size),.int .u32 0,.int .i32 0,.int .u32 0,.bool false] 129)
 refine⟨⟨_,w.heap.size,rfl,HJ.out.on hb2,Blk.newAt _ _ _ _ _ (by simp) rfl,Nat.le_succ_of_le hbs,hbs,ownM_on hM.out ((Below.refl _ _).alloc (Nat.le_refl _) _),List.Pairwise.nil,fun g hg=>(by cases hg),fun _=>rfl⟩,hb2⟩
theorem codHeed0 (J:Nat)(w:World):Calls Tryz.prog 63 #[.pointer (some ⟨J,0,none⟩),.int .i64 0] w fun e w'=>(∃x,e=.returned x)∧w'=w:=by
 go_enter Tryz.func63,Tryz.ntmps63
 go_wp2_with fail
 go_end0
 exact⟨⟨_,rfl⟩,rfl⟩
theorem codHeed (w:World)(J P base:Nat)(j:Jl)(z:Int)(hz:¬z=0)(h:JAt w J P base j):
  Calls Tryz.prog 63 #[.pointer (some ⟨J,0,none⟩),.int .i64 z] w fun e w'=>(∃x,e=.returned x)∧w'=w.drew.setCell ⟨J,2,none⟩ (.int .u32 1):=by
 have c2:w.cell? ⟨J,2,none⟩=some (.int .u32 (flag j.dead)):=h.blk.cell 2
 have HS:=atStoreAt J 2 true _ w c2 (h.blk.frozen 2)
 clear h
 go_enter Tryz.func63,Tryz.ntmps63
 go_wp2_with fail
 refine HS.mono ?_
 rintro e w1 ⟨rfl,rfl⟩
 go_wp2_with fail
 go_end0
 exact⟨⟨_,rfl⟩,rfl⟩
theorem jrd {j:Jl}{i:Int}(ho:j.p.off=false)(ha:areaI j.p.n i=true):jrE j.p i=0∧j.p.rdE i=0∧jrB j.p i=j.p.rdB i:=by
 have hin:inR j.p.n i=true:=by
  unfold areaI at ha
  have:=of_decide_eq_true ha
  exact decide_eq_true ⟨by omega,this.2⟩
 have h1:j.p.rdE i=0:=by unfold Pl.rdE Pl.stE;simp[ho,hin]
 refine⟨?_,h1,?_⟩
 ·unfold jrE;rw[ha];simpa using h1
 ·unfold jrB;rw[ha];rfl
theorem codJRead (w:World)(J P base:Nat)(j:Jl)(i:Int)(h:JAt w J P base j)(hf:FewP j.p)(ho:j.p.off=false):
  Calls Tryz.prog 36 #[.pointer (some ⟨J,0,none⟩),.int .i64 i] w fun e w'=>(∃v,e=.returned (.tuple #[v,.int .i64 (jrE j.p i)])∧IsV w' v (jrB j.p i))∧Below w.heap.size w w':=by
 have HZ:=codJSize w J P base j h
 have HA:=codInArea i j.p.n w
 have c0:w.cell? ⟨J,0,none⟩=some (.pointer (some ⟨P,0,none⟩)):=h.blk.cell 0
 have HR:=codRead (fun _=>False) P base j.p i w h.d hf
 have HJ:=mkHid h
 clear h
 cases ha:areaI j.p.n i with
 | false =>
  have HE:Hid (jrE j.p i=50∧jrB j.p i=[]):=by unfold Hid jrE jrB;simp[ha]
  rw[ha] at HA
  clear HR ha
  generalize j.p.n=n at *
  go_enter Tryz.func36,Tryz.ntmps36
  go_wp2_with fail
  refine HZ.mono ?_
  rintro e w1 ⟨rfl,rfl⟩
  go_wp2_with fail
  refine HA.mono ?_
  rintro e w2 ⟨rfl,hw2⟩
  obtain rfl:=hw2.symm
  go_wp2_with fail
  go_ret2
  refine⟨⟨.slice none 0 0,ret_v4 rfl HE.out.1.symm,?_⟩,Below.refl _ _⟩
  rw[HE.out.2];exact⟨none,0,rfl,isB_none _⟩
 | true =>
  obtain⟨h1,h2,h3⟩:=jrd ho ha
  rw[ha] at HA
  rw[h2] at HR
  have HE:=mkHid (And.intro h1 h3)
  have HH:=codHeed0 J
  clear h1 h2 h3 ha
  generalize j.p.n=n at *
  generalize j.p.rdB i=bb at *
  go_enter Tryz.func36,Tryz.ntmps36
  go_wp2_with fail
  refine HZ.mono ?_
  rintro e w1 ⟨rfl,rfl⟩
  go_wp2_with fail
  refine HA.mono ?_
  rintro e w2 ⟨rfl,hw2⟩
  obtain rfl:=hw2.symm
  go_wp2_with fail
  refine HR.mono ?_
  rintro e w3 ⟨⟨a,c,rfl,hB,_⟩,hb3⟩
  have HB:=mkHid hB
  clear hB
  go_wp2_with fail
  refine(HH w3).mono ?_
  rintro e w4 ⟨⟨y,rfl⟩,rfl⟩
  go_wp2_with fail
  go_ret2
  exact⟨⟨.slice a bb.length c,ret_v4 rfl HE.out.1.symm,by rw[HE.out.2];exact⟨a,c,rfl,HB.out⟩⟩,hb3⟩
theorem zeroJ:(Tryz.prog.info? 152).map (·.zero)=some (some (.agg zSec.toArray)):=by kernel_rfl
theorem zvJ (w:World):(zeroValue 152).run Tryz.prog w=.ok (.agg zSec.toArray) w:=by
 have h:=zeroJ
 cases hq:Tryz.prog.info? 152 with
 | none=>rw[hq] at h;cases h
 | some i =>
  rw[hq] at h
  have hz:i.zero=some (.agg zSec.toArray):=by simpa using h
  simp[zeroValue,typeInfo,hq,hz]
theorem infoJ:(Tryz.prog.info? 152).map (·.size)=some 512:=by kernel_rfl
theorem infoJOf {b:List UInt8}(h:b.length=512):(Tryz.prog.info? 152).map (·.size)=some (bv b).length:=by rw[bv_length,h];exact infoJ
theorem infoJOf' {b:List UInt8}(h:b.length=512):(Tryz.prog.info? 152).map (·.size)=some (bv b).toArray.size:=by rw[List.size_toArray];exact infoJOf h
theorem slJ (G:Nat)(w:World):(Instr.sliceAt 152 (.pointer (some ⟨G,0,none⟩)) none none none).run Tryz.prog w=.ok (.slice (some ⟨G,0,none⟩) 512 512) w:=by
 have he:Tryz.prog.elem 152=5:=by kernel_rfl
 have hn:Tryz.prog.arrayLen 152=512:=by kernel_rfl
 have hz:(sizeOf 5).run Tryz.prog w=.ok 1 w:=by
  obtain⟨i0,hi,hz0,hz1,hz2⟩:=info_parts info8
  simp[sizeOf,typeInfo,hi,hz1]
 rw[run_sliceAt_array_all w 152 ⟨G,0,none⟩ (by rw[he,hn];exact Tryz.underlying152),he,hn,hz]
 simp only[Result.andThen,slicedAt,Nat.zero_mul,Addr.add_lit]
 rfl
theorem arrJ (a:Option Addr)(c:Nat)(w:World):(Instr.arrayAt 152 (.slice a 512 c)).run Tryz.prog w=.ok (.pointer a) w:=by
 simp[Instr.arrayAt,run_underlying Tryz.underlying152]
theorem keyI {i:Int}(h0 : -9223372036854775808≤i)(h1:i≤9223372036854775807):keyOf Tryz.prog 3 (.int .i64 i)=some (.int .i64 i):=by
 refine Maps.keyOf_int_mk Tryz.underlying3 ?_
 simp[Lit.wf,IntKind.min,IntKind.max,IntKind.signed,IntKind.bits]
 omega
theorem lookOk {w:World}{M:Nat}{l:Qs}(h:OwnM w M l){i:Int}(h0 : -9223372036854775808≤i)(h1:i≤9223372036854775807):
  (Instr.lookup 120 (.map (some M)) (.int .i64 i) true).run Tryz.prog w=.ok (.tuple #[(Tl.find l i).elim (.agg zSec.toArray) secV,.bool (Tl.find l i).isSome]) w:=by
 obtain⟨v,ps,hr,hv⟩:=h.look_ok (Maps.int_keyed Tryz.underlying3) Tryz.underlying120 (zvJ w) (zd:=.held (.agg zSec.toArray)) (zp:=[]) rfl (keyI h0 h1)
 rw[mapD_at,mapD_has] at *
 have hv2:(DataW.held v:DataW Value)=.held ((Tl.find l i).elim (.agg zSec.toArray) secV):=congrArg Prod.fst (Option.some.inj hv)
 have hv2:=DataW.held.inj hv2
 rw[hr,hv2]
theorem look1 {w:World}{M:Nat}{l:Qs}(h:OwnM w M l){i:Int}(h0 : -9223372036854775808≤i)(h1:i≤9223372036854775807):
  (Instr.lookup 120 (.map (some M)) (.int .i64 i) false).run Tryz.prog w=.ok ((Tl.find l i).elim (.agg zSec.toArray) secV) w:=by
 obtain⟨v,ps,hr,hv⟩:=h.lookup (Maps.int_keyed Tryz.underlying3) Tryz.underlying120 (zvJ w) (zd:=.held (.agg zSec.toArray)) (zp:=[]) rfl (keyI h0 h1)
 rw[mapD_at] at *
 have hv2:(DataW.held v:DataW Value)=.held ((Tl.find l i).elim (.agg zSec.toArray) secV):=congrArg Prod.fst (Option.some.inj hv)
 have hv2:=DataW.held.inj hv2
 rw[hr,hv2]
theorem zAll:zSec.toArray.all (·.oneCell')=true:=by unfold zSec;exact bvAll9 _
theorem zInfo:(Tryz.prog.info? 152).map (·.size)=some zSec.toArray.size:=by rw[List.size_toArray,zSec_length];exact infoJ
theorem find_len {l:Qs}{i:Int}{b:List UInt8}(h:Tl.find l i=some b)(hl:∀g∈l,g.2.length=512∧49≤g.1∧g.1<4096):b.length=512:=by
 unfold Tl.find at h
 obtain⟨g,hg,rfl⟩:=Option.map_eq_some_iff.1 h
 exact(hl g (List.mem_of_find?_eq_some hg)).1
attribute [local go_sem ↓] zvJ slJ
theorem codTRead (w:World)(T J P base:Nat)(t:Tl)(j:Jl)(M:Nat)(tr:Bool)(i:Int)(h:TAt w T J P base t j M tr)(hf:FewP j.p)(ho:j.p.off=false)(h0 : -9223372036854775808≤i)(h1:i≤9223372036854775807):
  Calls Tryz.prog 140 #[.pointer (some ⟨T,0,none⟩),.int .i64 i] w fun e w'=>(∃v,e=.returned (.tuple #[v,.int .i64 (t.rdE j i)])∧IsV w' v (t.rdB j i))∧Below w.heap.size w w':=by
 have c0:w.cell? ⟨T,0,none⟩=some (.pointer (some ⟨J,0,none⟩)):=h.blk.cell 0
 have c1:w.cell? ⟨T,1,none⟩=some (.map (some M)):=h.blk.cell 1
 have hlk:=lookOk h.own h0 h1
 have HT:=mkHid h
 clear h
 have HD0:Hid (Below w.heap.size w (w.alloc (.cells zSec.toArray 152))):=(Below.refl _ w).alloc (Nat.le_refl _) _
 have HR:Hid (Blk (w.alloc (.cells zSec.toArray 152)) w.heap.size 152 zSec):=Blk.new w _ _
 cases hfd:Tl.find t.l i with
 | none =>
  have HE:Hid (t.rdE j i=jrE j.p i∧t.rdB j i=jrB j.p i):=by unfold Hid Tl.rdE Tl.rdB jrE jrB;rw[hfd];exact⟨rfl,rfl⟩
  rw[hfd] at hlk
  have HDW:Hid (Below w.heap.size w ((w.alloc (.cells zSec.toArray 152)).setRow w.heap.size zSec.toArray)):=bel_row HD0.out (Nat.le_refl _) _
  have d0:((w.alloc (.cells zSec.toArray 152)).setRow w.heap.size zSec.toArray).cell? ⟨T,0,none⟩=some (.pointer (some ⟨J,0,none⟩)):=(HDW.out.cell (p:=⟨T,0,none⟩) (cell_lt c0)).trans c0
  have HJR:=codJRead _ J P base j i (HT.out.ja.on HDW.out) hf ho
  clear hfd
  go_enter Tryz.func140,Tryz.ntmps140
  go_wp2_with (refine wpList_store_row rfl 152 _ _ rfl w.heap.size zSec.toArray rfl rfl _ _ HR.out zInfo rfl zAll ?_)
  refine HJR.mono ?_
  rintro e w2 ⟨⟨v,rfl,hv⟩,hb2⟩
  have HV:=mkHid hv
  clear hv
  go_wp2_with fail
  go_ret2
  exact⟨⟨v,by rw[HE.out.1];rfl,by rw[HE.out.2];exact HV.out⟩,HDW.out.trans (hb2.mono HDW.out.size)⟩
 | some b =>
  have HE:Hid (t.rdE j i=0∧t.rdB j i=b):=by unfold Hid Tl.rdE Tl.rdB;rw[hfd];exact⟨rfl,rfl⟩
  have HL:Hid (b.length=512):=find_len hfd HT.out.ok
  rw[hfd] at hlk
  have hlk2:(Instr.lookup 120 (.map (some M)) (.int .i64 i) true).run Tryz.prog w=.ok (.tuple #[.agg (bv b).toArray,.bool true]) w:=hlk
  clear hlk hfd
  have HS6:Hid ((Tryz.prog.info? 152).map (·.size)=some (bv b).toArray.size):=infoJOf' HL.out
  have HS7:Hid (zSec.toArray.size=(bv b).toArray.size):=by unfold Hid;rw[List.size_toArray,List.size_toArray,zSec_length,bv_length,HL.out]
  have HDW:Hid (Below w.heap.size w ((w.alloc (.cells zSec.toArray 152)).setRow w.heap.size (bv b).toArray)):=bel_row HD0.out (Nat.le_refl _) _
  have HBW:Hid (Blk ((w.alloc (.cells zSec.toArray 152)).setRow w.heap.size (bv b).toArray) w.heap.size 152 (bv b)):=HR.out.row _
  go_enter Tryz.func140,Tryz.ntmps140
  go_wp2_with (refine wpList_store_row rfl 152 _ _ rfl w.heap.size (bv b).toArray rfl rfl _ _ HR.out HS6.out HS7.out (bvAll9 b) ?_)
  go_ret2
  refine⟨⟨.slice (some ⟨w.heap.size,0,none⟩) b.length 512,by rw[HE.out.1,HL.out];rfl,?_⟩,HDW.out⟩
  rw[HE.out.2]
  refine⟨_,512,rfl,rfl,Nat.le_of_eq HL.out,by decide,fun e=>(by cases e),fun _=>⟨_,0,rfl,fun i hi=>?_⟩⟩
  rw[HBW.out.cell,Nat.zero_add,bv_at b i hi]
end
section
open Go.RowKit
attribute [local go_sem ↓] zvJ slJ
theorem infoI3:(Tryz.prog.info? 3).map (fun i=>(i.zero,i.size,i.bytes))=some (some (.int .i64 0),1,8):=by kernel_rfl
theorem infoS3:(Tryz.prog.info? 33).map (fun i=>(i.zero,i.size,i.bytes))=some (some (.slice none 0 0),1,24):=by kernel_rfl
theorem made_ints (n:Nat):(madeCells (Value.int .i64 0).cells (n * 1)).toList=List.replicate n (.int .i64 0):=by
 simp only[madeCells,Value.cells]
 rw[List.eq_replicate_iff]
 simp[Nat.mod_one]
theorem made_slices (n:Nat):(madeCells (Value.slice none 0 0).cells (n * 1)).toList=List.replicate n (.slice none 0 0):=by
 simp only[madeCells,Value.cells]
 rw[List.eq_replicate_iff]
 simp[Nat.mod_one]
theorem make_ints {ops:Array Oper}{rest:List Oper}{o:Oper}{a:Act}{Q:Exit→Act→World→Prop}(w:World)
  (hg:o.guard=none) (l c:Operand) (hop:o.op=Op.makeSlice 58 l c)
  (n:Nat) (hl:a.eval l=.int .i64 (n:Int)) (hc:a.eval c=.int .i64 (n:Int)) (hn:n≤4096)
  (hK:∀w',Blk w' w.heap.size 3 (List.replicate n (.int .i64 0))→w.grownBy w' none→wpList Tryz.prog ops Q rest (a.put o.dst (.slice (some ⟨w.heap.size,0,none⟩) n n)) w'):
  wpList Tryz.prog ops Q (o::rest) a w:=by
 obtain⟨i0,hi,hz0,hz1,hz2⟩:=info_parts infoI3
 refine wpList_make_full w hg l c 58 hop w.heap.size 3 i0 (.int .i64 0) 1 Tryz.underlying58 hi hz0 hz1 .i64 .i64 n n n hl hc rfl rfl (by rw[hz2];omega) (by unfold maxLen;omega) (Nat.le_refl _) (fun w' h g=>hK w' ?_ g)
 rw[made_ints] at h
 rcases h.2 with⟨h,_⟩|⟨g,cap,cur,e,_,hgb,_,_,hsz,ht⟩
 ·cases h
 ·injection e with e1 _ e3
  have e4:w.heap.size=g:=by injection e1 with e1;injection e1 with e1
  subst e4
  unfold Blk
  rw[hgb,←ht,List.take_of_length_le (by rw[Array.length_toList,hsz,←e3];omega)]
theorem make_slices {ops:Array Oper}{rest:List Oper}{o:Oper}{a:Act}{Q:Exit→Act→World→Prop}(w:World)
  (hg:o.guard=none) (l c:Operand) (hop:o.op=Op.makeSlice 59 l c)
  (n:Nat) (hl:a.eval l=.int .i64 (n:Int)) (hc:a.eval c=.int .i64 (n:Int)) (hn:n≤4096)
  (hK:∀w',Blk w' w.heap.size 33 (List.replicate n (.slice none 0 0))→w.grownBy w' none→wpList Tryz.prog ops Q rest (a.put o.dst (.slice (some ⟨w.heap.size,0,none⟩) n n)) w'):
  wpList Tryz.prog ops Q (o::rest) a w:=by
 obtain⟨i0,hi,hz0,hz1,hz2⟩:=info_parts infoS3
 refine wpList_make_full w hg l c 59 hop w.heap.size 33 i0 (.slice none 0 0) 1 Tryz.underlying59 hi hz0 hz1 .i64 .i64 n n n hl hc rfl rfl (by rw[hz2];omega) (by unfold maxLen;omega) (Nat.le_refl _) (fun w' h g=>hK w' ?_ g)
 rw[made_slices] at h
 rcases h.2 with⟨h,_⟩|⟨g,cap,cur,e,_,hgb,_,_,hsz,ht⟩
 ·cases h
 ·injection e with e1 _ e3
  have e4:w.heap.size=g:=by injection e1 with e1;injection e1 with e1
  subst e4
  unfold Blk
  rw[hgb,←ht,List.take_of_length_le (by rw[Array.length_toList,hsz,←e3];omega)]
def laidTo (f:Nat→Value)(z:Value)(n k:Nat):List Value:=(List.range n).map fun i=>if i<k then f i else z
theorem laidTo_zero (f:Nat→Value)(z:Value)(n:Nat):laidTo f z n 0=List.replicate n z:=by
 unfold laidTo
 rw[List.eq_replicate_iff]
 simp
theorem laidTo_at (f:Nat→Value)(z:Value)(n k i:Nat)(h:i<n):(laidTo f z n k)[i]?=some (if i<k then f i else z):=by
 unfold laidTo
 simp[h]
theorem laidTo_set (f:Nat→Value)(z:Value)(n k:Nat)(h:k<n):(laidTo f z n k).set k (f k)=laidTo f z n (k+1):=by
 apply List.ext_getElem?
 intro i
 by_cases hi:i<n
 ·rw[laidTo_at _ _ _ _ _ hi]
  by_cases e:i=k
  ·subst e
   rw[List.getElem?_set_self (by unfold laidTo;simpa using h),if_pos (by omega)]
  ·rw[List.getElem?_set_ne (by omega),laidTo_at _ _ _ _ _ hi]
   by_cases h2:i<k
   ·rw[if_pos h2,if_pos (by omega)]
   ·rw[if_neg h2,if_neg (by omega)]
 ·rw[List.getElem?_eq_none (by rw[List.length_set];unfold laidTo;simp;omega),List.getElem?_eq_none (by unfold laidTo;simp;omega)]
theorem laidTo_congr {f f':Nat→Value}{z:Value}{n k:Nat}(h:∀i,i<k→f i=f' i):laidTo f z n k=laidTo f' z n k:=by
 unfold laidTo
 refine List.map_congr_left (fun i _=>?_)
 by_cases hi:i<k
 ·rw[if_pos hi,if_pos hi,h i hi]
 ·rw[if_neg hi,if_neg hi]
theorem gr_below {w w':World}(hg:w.grownBy w' none):Below w.heap.size w w':=(Below.refl _ w).grown hg (Nat.le_refl _) (fun k e=>by cases e)
theorem slotQ_nth (l:Qs)(i:Nat)(h:i<l.length):nthL (slotQ l) i=(1+i,(nthL l i).2):=by
 unfold slotQ nthL
 rw[List.getD_eq_getElem?_getD]
 simp[h]
theorem slotQ_len (l:Qs):(slotQ l).length=l.length:=by simp[slotQ]
theorem codSlots (l:Qs)(n:Nat)(hn:l.length=n)(h48:n≤48)(w:World):
  Calls Tryz.prog 192 #[.int .i64 (n:Int)] w fun e w'=>∃S,e=.returned (.slice (some ⟨S,0,none⟩) n n)∧IsIs w' (some ⟨S,0,none⟩) n n (slotQ l)∧Below w.heap.size w w':=by
 have HN:=mkHid hn
 clear hn
 have h48':(n:Int)≤48:=by omega
 go_enter Tryz.func192,Tryz.ntmps192
 go_wp2_with (at_make;refine make_ints w rfl _ _ rfl n rfl rfl (by omega) ?_;intro w1 hB1 hg1;have HB1:=mkHid hB1;have HG1:=mkHid (gr_below hg1);clear hB1 hg1)
 obtain⟨S,hS⟩:∃S,S=w.heap.size:=⟨_,rfl⟩
 have HS:=mkHid hS
 rw[←hS] at HB1 ⊢
 clear hS
 go_loopw [9] (fun i wr=>∃k:Nat,k≤n∧i=.int .i64 (k:Int)∧Hid (Blk wr S 3 (laidTo (fun i=>.int .i64 ((1+i:Nat):Int)) (.int .i64 0) n k))∧Hid (Below w.heap.size w wr)) (fun i _=>n-(Go.RowKit.intOf i).toNat)
 case atStart=>exact⟨0,Nat.zero_le _,rfl,by rw[laidTo_zero];exact HB1,HG1⟩
 case round =>
  obtain⟨k,hk,rfl,HB,HW⟩:=hrel
  clear HB1 HG1
  by_cases hlt:k<n
  ·have hlt':(k:Int)<(n:Int):=by omega
   have hc:wr.cell? ⟨S,k,none⟩=some (.int .i64 0):=by rw[HB.out.cell,laidTo_at _ _ _ _ _ hlt,if_neg (by omega)]
   have hfz:=HB.out.frozen k
   have hk0:(0:Int)≤(k:Int):=by omega
   have HB2:Hid (Blk (wr.setCell ⟨S,k,none⟩ (.int .i64 (1+(k:Int)))) S 3 (laidTo (fun i=>.int .i64 ((1+i:Nat):Int)) (.int .i64 0) n (k+1))):=by
    have:=HB.out.set k (.int .i64 ((1+k:Nat):Int))
    rw[laidTo_set (fun i=>.int .i64 ((1+i:Nat):Int)) _ _ _ hlt] at this
    exact this
   have HW2:Hid (Below w.heap.size w (wr.setCell ⟨S,k,none⟩ (.int .i64 (1+(k:Int))))):=HW.out.trans (bel_one (gr_cell wr S k _) (Nat.le_of_eq HS.out.symm) HB.out.lt)
   clear HB HW
   go_wp2_with fail
   go_roundw
   case rel=>exact⟨k+1,by omega,by go_num,by simpa using HB2,by simpa using HW2⟩
   case measure=>simp[Go.RowKit.intOf];omega
  ·have hge:¬(k:Int)<(n:Int):=by omega
   have hkn:k=n:=by omega
   subst hkn
   go_wp2_with fail
   go_ret
   refine⟨S,rfl,⟨by rw[slotQ_len];exact HN.out,fun _=>⟨S,0,rfl,⟨_,_,HB.out⟩,fun i hi=>?_⟩⟩,HW.out⟩
   rw[HB.out.cell,Nat.zero_add,laidTo_at _ _ _ _ _ hi,if_pos hi,slotQ_nth l i (by rw[HN.out];exact hi)]
def dtv (gs:Nat→Nat)(i:Nat):Value:=.slice (some ⟨gs i,0,none⟩) 512 512
theorem find_nth (l:Qs)(hs:SortQ l)(k:Nat)(hk:k<l.length):Tl.find l ((nthL l k).1:Int)=some (nthL l k).2:=by
 unfold Tl.find nthL
 induction l generalizing k with
 | nil=>simp at hk
 | cons g l ih =>
  obtain⟨h1,h2⟩:=List.pairwise_cons.1 hs
  cases k with
  | zero=>simp[List.getD]
  | succ k =>
   have hk2:k<l.length:=by simpa using hk
   have:=ih h2 k hk2
   rw[List.find?_cons]
   have hm:l.getD k (0,[])∈l:=by rw[List.getD_eq_getElem?_getD,List.getElem?_eq_getElem hk2];exact List.getElem_mem hk2
   have hne:((g.1:Int)==(((g::l).getD (k+1) (0,[])).1:Int))=false:=by
    have:=h1 _ hm
    rw[List.getD_cons_succ]
    rw[beq_eq_false_iff_ne]
    omega
   rw[hne]
   simpa using this
theorem codData (w:World)(T J M:Nat)(l:Qs)(rest:List Value)(h:TIn w T J M l rest)(n pc:Nat)(pa:Option Addr)(hn:l.length=n)(h48:n≤48)(hp:IsIs w pa n pc l):
  Calls Tryz.prog 120 #[.pointer (some ⟨T,0,none⟩),.slice pa n pc] w fun e w'=>∃O,e=.returned (.slice (some ⟨O,0,none⟩) n n)∧IsDt w' (some ⟨O,0,none⟩) n n l∧Below w.heap.size w w':=by
 have HN:=mkHid hn
 have HT:=mkHid h
 have HP:=mkHid hp
 clear hn h hp
 have h48':(n:Int)≤48:=by omega
 go_enter Tryz.func120,Tryz.ntmps120
 go_wp2_with (at_make;refine make_slices w rfl _ _ rfl n rfl rfl (by omega) ?_;intro w1 hB1 hg1;have HB1:=mkHid hB1;have HG1:=mkHid (gr_below hg1);clear hB1 hg1)
 obtain⟨S,hS⟩:∃S,S=w.heap.size:=⟨_,rfl⟩
 have HS:=mkHid hS
 rw[←hS] at HB1 ⊢
 clear hS
 go_loopw [14] (fun i wr=>∃(k:Nat) (gs:Nat→Nat),k≤n∧i=.int .i64 (k:Int)∧Hid (Blk wr S 33 (laidTo (dtv gs) (.slice none 0 0) n k))∧Hid (∀i,i<k→S≠gs i∧Blk wr (gs i) 152 (bv (nthL l i).2))∧Hid (Below w.heap.size w wr)) (fun i _=>n-(Go.RowKit.intOf i).toNat)
 case atStart=>exact⟨0,fun _=>0,Nat.zero_le _,rfl,by rw[laidTo_zero];exact HB1,fun i hi=>absurd hi (Nat.not_lt_zero i),HG1⟩
 case round =>
  obtain⟨k,gs,hk,rfl,HB,HBs,HW⟩:=hrel
  clear HB1 HG1
  by_cases hlt:k<n
  ·have hlt':(k:Int)<(n:Int):=by omega
   have hk0:(0:Int)≤(k:Int):=by omega
   obtain⟨B1,o1,rfl,⟨_,_,_⟩,hc1⟩:=(HP.out.on HW.out).cells (by omega)
   have c1:=hc1 k hlt
   have m1:wr.cell? ⟨T,1,none⟩=some (.map (some M)):=(HT.out.on HW.out).blk.cell 1
   have hkl:k<l.length:=by rw[HN.out];exact hlt
   have hmem:nthL l k∈l:=by unfold nthL;rw[List.getD_eq_getElem?_getD,List.getElem?_eq_getElem hkl];exact List.getElem_mem hkl
   have hok:=HT.out.ok _ hmem
   have hlk:=look1 (HT.out.on HW.out).own (i:=((nthL l k).1:Int)) (by omega) (by omega)
   rw[find_nth l HT.out.sort k hkl] at hlk
   have hlk2:(Instr.lookup 120 (.map (some M)) (.int .i64 ((nthL l k).1:Int)) false).run Tryz.prog wr=.ok (.agg (bv (nthL l k).2).toArray) wr:=hlk
   have HL:Hid ((nthL l k).2.length=512):=hok.1
   have HX:Hid (∀W g,Below wr.heap.size wr W→wr.heap.size≤g→Blk W g 152 (bv (nthL l k).2)→∀i,i<k+1→S≠(fun i=>if i=k then g else gs i) i∧Blk W ((fun i=>if i=k then g else gs i) i) 152 (bv (nthL l i).2)):=fun W g hW hg hB i hi=>by
    have hSl:=HB.out.lt
    by_cases e:i=k
    ·subst e;simp only[if_true];exact⟨by omega,hB⟩
    ·simp only[if_neg e]
     have:=HBs.out i (by omega)
     exact⟨this.1,this.2.on hW⟩
   clear hlk hc1 hmem hok hkl
   generalize (nthL l k).1=ak at *
   generalize (nthL l k).2=bb at *
   have HRw:Hid (Blk (wr.alloc (.cells zSec.toArray 152)) wr.heap.size 152 zSec):=Blk.new wr _ _
   have HS6:Hid ((Tryz.prog.info? 152).map (·.size)=some (bv bb).toArray.size):=infoJOf' HL.out
   have HS7:Hid (zSec.toArray.size=(bv bb).toArray.size):=by unfold Hid;rw[List.size_toArray,List.size_toArray,zSec_length,bv_length,HL.out]
   have HD1:Hid (Below wr.heap.size wr ((wr.alloc (.cells zSec.toArray 152)).setRow wr.heap.size (bv bb).toArray)):=bel_row ((Below.refl _ wr).alloc (Nat.le_refl _) _) (Nat.le_refl _) _
   have HBW:Hid (Blk ((wr.alloc (.cells zSec.toArray 152)).setRow wr.heap.size (bv bb).toArray) wr.heap.size 152 (bv bb)):=HRw.out.row _
   go_upto_region 6 with(refine wpList_store_row rfl 152 _ _ rfl wr.heap.size (bv bb).toArray rfl rfl _ _ HRw.out HS6.out HS7.out (bvAll9 bb) ?_)
   clear HRw HS6 HS7 hlk2 m1 c1
   generalize (wr.alloc (.cells zSec.toArray 152)).setRow wr.heap.size (bv bb).toArray=W1 at *
   have hX1:=mkHid (HX.out W1 wr.heap.size HD1.out (Nat.le_refl _) HBW.out)
   have HB1:=mkHid (HB.out.on HD1.out)
   have HW1:=mkHid (HW.out.trans (HD1.out.mono HW.out.size))
   have hgS:Hid (S≠wr.heap.size):=by unfold Hid;have:=HB.out.lt;omega
   clear HX HBs HB HD1 HBW
   generalize wr.heap.size=g at *
   have hc:W1.cell? ⟨S,k,none⟩=some (.slice none 0 0):=by rw[HB1.out.cell,laidTo_at _ _ _ _ _ hlt,if_neg (by omega)]
   have hfz:=HB1.out.frozen k
   have HB2:Hid (Blk (W1.setCell ⟨S,k,none⟩ (.slice (some ⟨g,0,none⟩) 512 512)) S 33 (laidTo (dtv (fun i=>if i=k then g else gs i)) (.slice none 0 0) n (k+1))):=by
    have h1:=HB1.out
    rw[laidTo_congr (f':=dtv (fun i=>if i=k then g else gs i)) (fun i hi=>by unfold dtv;simp only[if_neg (show ¬i=k by omega)])] at h1
    have h2:=h1.set k (dtv (fun i=>if i=k then g else gs i) k)
    rw[laidTo_set _ _ _ _ hlt] at h2
    have e:dtv (fun i=>if i=k then g else gs i) k=.slice (some ⟨g,0,none⟩) 512 512:=by unfold dtv;simp only[if_true]
    rw[e] at h2
    exact h2
   have HX2:Hid (∀i,i<k+1→S≠(fun i=>if i=k then g else gs i) i∧Blk (W1.setCell ⟨S,k,none⟩ (.slice (some ⟨g,0,none⟩) 512 512)) ((fun i=>if i=k then g else gs i) i) 152 (bv (nthL l i).2)):=fun i hi=>by
    have:=hX1.out i hi
    exact⟨this.1,this.2.other _ _ (fun e=>this.1 e.symm)⟩
   have HW2:Hid (Below w.heap.size w (W1.setCell ⟨S,k,none⟩ (.slice (some ⟨g,0,none⟩) 512 512))):=HW1.out.trans (bel_one (gr_cell W1 S k _) (Nat.le_of_eq HS.out.symm) HB1.out.lt)
   clear HB1 HW1 HW hX1
   go_wp2_with fail
   go_roundw
   case rel=>exact⟨k+1,(fun i=>if i=k then g else gs i),by omega,by go_num,HB2,HX2,HW2⟩
   case measure=>simp[Go.RowKit.intOf];omega
  ·have hge:¬(k:Int)<(n:Int):=by omega
   have hkn:k=n:=by omega
   subst hkn
   go_wp2_with fail
   go_ret
   refine⟨S,rfl,⟨HN.out,fun _=>⟨S,0,rfl,⟨_,_,HB.out⟩,fun i hi=>?_⟩⟩,HW.out⟩
   have hil:i<l.length:=by rw[HN.out];exact hi
   have hmem:nthL l i∈l:=by unfold nthL;rw[List.getD_eq_getElem?_getD,List.getElem?_eq_getElem hil];exact List.getElem_mem hil
   refine⟨(HT.out.ok _ hmem).1,gs i,152,?_,(HBs.out i hi).2,by simp⟩
   rw[HB.out.cell,Nat.zero_add,laidTo_at _ _ _ _ _ hi,if_pos hi]
   rfl
end
section
open Go.RowKit
def zv (l:List Int):List Value:=l.map fun z=>.int .i64 z
theorem zv_append (l m:List Int):zv (l++m)=zv l++zv m:=by simp[zv]
theorem zv_at (l:List Int)(i:Nat)(h:i<l.length):(zv l)[i]?=some (.int .i64 (l.getD i 0)):=by
 simp[zv,List.getElem?_eq_getElem h]
def OwnZ (w:World)(base:Nat)(v:Value)(l:List Int):Prop:=w.ownsRow base 3 1 v l.length (zv l)
theorem OwnZ.nil (w:World)(base:Nat):OwnZ w base (.slice none 0 0) []:=World.ownsRow_nil _ _ _ _
structure IsZ (w:World)(a:Option Addr)(len:Nat)(l:List Int):Prop where
 len_eq:l.length=len
 cells:0<len→∃g off,a=some ⟨g,off,none⟩∧g<w.heap.size∧∀i,i<len→w.cell? ⟨g,off+i,none⟩=some (.int .i64 (l.getD i 0))
theorem OwnZ.isZ {w:World}{base:Nat}{v:Value}{l:List Int}(h:OwnZ w base v l):∃a cap,v=.slice a l.length cap∧IsZ w a l.length l:=by
 obtain⟨h1,h2⟩:=h
 rcases h2 with⟨rfl,h0⟩|⟨g,cap,cur,rfl,hb,hg,hle,hmax,hsz,htk⟩
 ·have:l=[]:=List.eq_nil_of_length_eq_zero h0
  subst this
  exact⟨none,0,rfl,rfl,fun hp=>absurd hp (Nat.lt_irrefl 0)⟩
 ·refine⟨_,cap,rfl,rfl,fun hp=>⟨g,0,rfl,(Array.getElem?_eq_some_iff.1 hg).1,fun i hi=>?_⟩⟩
  have hc:=World.ownsRow.cells (w:=w) (base:=base) (e:=3) (size:=1) (v:=.slice (some ⟨g,0,none⟩) l.length cap) (n:=l.length) (xs:=zv l) ⟨h1,.inr ⟨g,cap,cur,rfl,hb,hg,hle,hmax,hsz,htk⟩⟩ (g:=g) rfl i _ (zv_at l i hi)
  rw[Addr.add_lit] at hc;exact hc
theorem KeepT.grownZ {w w':World}{base:Nat}{v:Value}{l:List Int}(ho:OwnZ w base v l)(hg:w.grownBy w' v.ownBlock):KeepT [3] w w' :=
 ⟨hg.size,fun k o hk hno=>by
  refine(hg.block k (Array.getElem?_eq_some_iff.1 hk).1 (fun eb=>?_)).trans hk
  rcases ho.2 with⟨rfl,_⟩|⟨g,cap,cur,rfl,_,hgb,_⟩
  ·simp[Value.ownBlock] at eb
  ·have hkg:k=g:=by simpa [Value.ownBlock] using eb
   subst hkg
   have:o=.cells cur 3 (0,0):=Option.some.inj (hk.symm.trans hgb)
   exact hno _ _ _ this (by decide)⟩
structure Et where
 k:List UInt8
 v:List UInt8
 deriving DecidableEq
structure EtA where
 a:Option Addr
 c:Nat
 b:Option Addr
 d:Nat
def etc2 (e:Et)(q:EtA):List Value:=[.slice q.a e.k.length q.c,.slice q.b e.v.length q.d]
structure IsE (w:World)(e:Et)(q:EtA):Prop where
 k:IsB w q.a e.k.length q.c e.k
 v:IsB w q.b e.v.length q.d e.v
theorem IsE.below {w w':World}{e:Et}{q:EtA}(h:IsE w e q)(hb:Below w.heap.size w w'):IsE w' e q:=⟨h.k.below hb rfl,h.v.below hb rfl⟩
def EtK (w:World)(e:Et)(q:EtA):Prop:=∀W,KeepO [5] w W→IsE W e q
theorem EtK.is {w:World}{e:Et}{q:EtA}(h:EtK w e q):IsE w e q:=h w (KeepO.refl _ _)
theorem EtK.keep {w w':World}{e:Et}{q:EtA}(h:EtK w e q)(hk:KeepO [5] w w'):EtK w' e q:=fun W hW=>h W (hk.trans hW)
theorem EtK.own {w:World}{base base2:Nat}{e:Et}{q:EtA}(h1:OwnB w base (.slice q.a e.k.length q.c) e.k)(h2:OwnB w base2 (.slice q.b e.v.length q.d) e.v):EtK w e q:=fun _ hW =>
 ⟨own_isB (own_keepO hW h1 (by decide)),own_isB (own_keepO hW h2 (by decide))⟩
abbrev Eq3:=Et × EtA
def ets:List Eq3→List Value
 | []=>[]
 | x::l=>etc2 x.1 x.2++ets l
theorem etc_len (x:Eq3):(etc2 x.1 x.2).length=2:=rfl
theorem ets_length (l:List Eq3):(ets l).length=l.length * 2:=by
 induction l with
 | nil=>rfl
 | cons x l ih=>rw[ets,List.length_append,ih,etc_len,List.length_cons];omega
theorem ets_append (l m:List Eq3):ets (l++m)=ets l++ets m:=by
 induction l with
 | nil=>rfl
 | cons x l ih=>rw[List.cons_append,ets,ets,ih,List.append_assoc]
theorem ets_take (l:List Eq3)(k:Nat):ets (l.take k)=(ets l).take (k * 2):=by
 induction k generalizing l with
 | zero=>rfl
 | succ k ih =>
  cases l with
  | nil=>rfl
  | cons x l =>
   rw[List.take_succ_cons,ets,ets,ih,List.take_append,etc_len,List.take_of_length_le (l:=etc2 x.1 x.2) (by rw[etc_len];omega),show (k+1) * 2-2=k * 2 by omega]
theorem ets_drop (l:List Eq3)(k:Nat):ets (l.drop k)=(ets l).drop (k * 2):=by
 induction k generalizing l with
 | zero=>rfl
 | succ k ih =>
  cases l with
  | nil=>rfl
  | cons x l =>
   rw[List.drop_succ_cons,ets,ih,List.drop_append,etc_len,List.drop_of_length_le (l:=etc2 x.1 x.2) (by rw[etc_len];omega),List.nil_append,show (k+1) * 2-2=k * 2 by omega]
theorem ets_at (l:List Eq3)(k j:Nat)(hk:k<l.length)(hj:j<2):(ets l)[k * 2+j]?=(etc2 (l[k]).1 (l[k]).2)[j]?:=by
 have e:(ets l)[k * 2+j]?=((ets l).drop (k * 2))[j]?:=by rw[List.getElem?_drop]
 rw[e,←ets_drop,List.drop_eq_getElem_cons hk,ets,List.getElem?_append_left (by rw[etc_len];exact hj)]
theorem ets_one (l:List Eq3):∀u∈ets l,u.oneCell'=true:=by
 induction l with
 | nil=>intro u hu;cases hu
 | cons x l ih =>
  intro u hu
  rw[ets] at hu
  rcases List.mem_append.1 hu with hu|hu
  ·unfold etc2 at hu
   simp only[List.mem_cons,List.not_mem_nil,or_false] at hu
   rcases hu with rfl|rfl<;>rfl
  ·exact ih u hu
def OwnE (w:World)(base:Nat)(v:Value)(l:List Eq3):Prop:=w.ownsRow base 91 2 v l.length (ets l)
theorem OwnE.nil (w:World)(base:Nat):OwnE w base (.slice none 0 0) []:=World.ownsRow_nil _ _ _ _
theorem OwnE.empty (w:World)(base:Nat)(hb:base≤w.heap.size):OwnE (w.alloc (.cells #[] 91)) base (.slice (some ⟨w.heap.size,0,none⟩) 0 0) [] :=
 World.ownsRow_made w #[] 0 hb (Nat.zero_le _) rfl
theorem OwnE.on {w w':World}{base:Nat}{v:Value}{l:List Eq3}(h:OwnE w base v l)(hb:Below w.heap.size w w'):OwnE w' base v l:=own_keepO (us:=[91]) (KeepO.of_below hb) h (by decide)
theorem OwnE.form {w:World}{base:Nat}{v:Value}{l:List Eq3}(h:OwnE w base v l):∃a cap,v=.slice a l.length cap∧l.length≤cap∧(a=none∨∃g,a=some ⟨g,0,none⟩) ∧
  (0<l.length→∃g,a=some ⟨g,0,none⟩∧base≤g∧g<w.heap.size∧∀k (hk:k<l.length),∀j,j<2→w.cell? ⟨g,k * 2+j,none⟩=(etc2 (l[k]).1 (l[k]).2)[j]?):=by
 obtain⟨h1,h2⟩:=h
 rcases h2 with⟨rfl,h0⟩|⟨g,cap,cur,rfl,hb,hg,hle,hmax,hsz,htk⟩
 ·have:l=[]:=List.eq_nil_of_length_eq_zero h0
  subst this
  exact⟨none,0,rfl,Nat.le_refl _,.inl rfl,fun h=>absurd h (Nat.lt_irrefl 0)⟩
 ·refine⟨_,cap,rfl,hle,.inr ⟨g,rfl⟩,fun hp=>⟨g,rfl,hb,(Array.getElem?_eq_some_iff.1 hg).1,fun k hk j hj=>?_⟩⟩
  have hown:w.ownsRow base 91 2 (.slice (some ⟨g,0,none⟩) l.length cap) l.length (ets l):=⟨h1,.inr ⟨g,cap,cur,rfl,hb,hg,hle,hmax,hsz,htk⟩⟩
  rw[World.ownsRow.cellAt hown (k * 2+j) (by omega),ets_at l k j hk hj]
theorem OwnE.at_ {w:World}{base n cap:Nat}{a:Option Addr}{ls:List Eq3}(h:OwnE w base (.slice a n cap) ls)(k:Nat)(hk:k<ls.length):∃g,a=some ⟨g,0,none⟩∧base≤g∧g<w.heap.size∧∀j,j<2→w.cell? ⟨g,k * 2+j,none⟩=(etc2 (ls[k]).1 (ls[k]).2)[j]?:=by
 obtain⟨a',c',e,_,_,hr⟩:=h.form
 injection e with e1 e2 e3
 obtain⟨g,e4,h1,h2,h3⟩:=hr (by omega)
 exact⟨g,e1.trans e4,h1,h2,fun j hj=>h3 k hk j hj⟩
theorem KeepT.grownE {w w':World}{base:Nat}{v:Value}{l:List Eq3}(ho:OwnE w base v l)(hg:w.grownBy w' v.ownBlock):KeepT [91] w w' :=
 ⟨hg.size,fun k o hk hno=>by
  refine(hg.block k (Array.getElem?_eq_some_iff.1 hk).1 (fun eb=>?_)).trans hk
  rcases ho.2 with⟨rfl,_⟩|⟨g,cap,cur,rfl,_,hgb,_⟩
  ·simp[Value.ownBlock] at eb
  ·have hkg:k=g:=by simpa [Value.ownBlock] using eb
   subst hkg
   have:o=.cells cur 91 (0,0):=Option.some.inj (hk.symm.trans hgb)
   exact hno _ _ _ this (by decide)⟩
structure SrcE (w:World)(sa:Option Addr)(m c:Nat)(l:List Eq3):Prop where
 len:l.length=m
 nil:sa=none→m=0∧c=0
 cells:∀ad,sa=some ad→∀j u,(ets l)[j]?=some u→w.cell? (ad.add j)=some u
def cutE (a:Option Addr)(cap k:Nat):Option Addr:=if cap=k then a else a.map (·.add (k * 2))
theorem OwnE.src {w:World}{base:Nat}{a:Option Addr}{n cap:Nat}{ls:List Eq3}(h:OwnE w base (.slice a n cap) ls)(hn:n=ls.length)(k:Nat)(hk:k≤n):
  SrcE w a k cap (ls.take k)∧SrcE w (cutE a cap k) (n-k) (cap-k) (ls.drop k):=by
 subst hn
 rcases h.2 with⟨h1,h2⟩|⟨g,cap',cur,h3,h4,h5,hle,h7⟩
 ·injection h1 with e1 e2 e3
  subst e1 e3
  have hk0:k=0:=by omega
  subst hk0
  have hl:ls=[]:=List.eq_nil_of_length_eq_zero e2
  subst hl
  exact⟨⟨rfl,fun _=>⟨rfl,rfl⟩,fun ad e=>by cases e⟩,⟨rfl,fun _=>⟨rfl,rfl⟩,fun ad e=>by cases e⟩⟩
 ·injection h3 with e1 e2 e3
  subst e1 e3
  refine⟨⟨by rw[List.length_take];omega,(fun e=>by cases e),fun ad e j u hu=>?_⟩,⟨by rw[List.length_drop],fun e=>?_,fun ad e j u hu=>?_⟩⟩
  ·obtain rfl:=Option.some.inj e
   rw[ets_take] at hu
   have hj:j<k * 2:=by
    have:=(List.getElem?_eq_some_iff.1 hu).1
    rw[List.length_take] at this;omega
   rw[List.getElem?_take_of_lt hj] at hu
   exact World.ownsRow.cells h (g:=g) rfl j u hu
  ·unfold cutE at e
   split at e
   ·cases e
   ·cases e
  ·rw[ets_drop,List.getElem?_drop] at hu
   unfold cutE at e
   split at e
   ·rename_i hc
    have:=(List.getElem?_eq_some_iff.1 hu).1
    rw[ets_length] at this
    omega
   ·have e2:=Option.some.inj e
    rw[←e2]
    show w.cell? (((⟨g,0,none⟩:Addr).add (k * 2)).add j)=some u
    rw[Addr.add_lit,Addr.add_lit]
    have:=World.ownsRow.cells h (g:=g) rfl (k * 2+j) u hu
    rw[Addr.add_lit] at this
    rw[show 0+k * 2+j=0+(k * 2+j) by omega]
    exact this
def etZ:Value:=.agg #[.slice none 0 0,.slice none 0 0]
theorem infoE:(Tryz.prog.info? 91).map (fun i=>(i.zero,i.size,i.bytes))=some (some etZ,2,48):=by kernel_rfl
theorem list_appE {ops:Array Oper}{rest:List Oper}{o:Oper}{a:Act}{Q:Exit→Act→World→Prop}(w:World)(hgd:o.guard=none)(s x:Operand)
  (ho:o.op=.call { callee:=.builtin .append,args:=#[s,x],argTypes:=#[29,29] }) (base:Nat)
  (v:Value) (l:List Eq3) (hs:a.eval s=v) (hown:OwnE w base v l) (B:Nat) (g:Eq3) (hx:a.eval x=.slice (some ⟨B,0,none⟩) 1 1)
  (hb:w.heap[B]?=some (.cells (etc2 g.1 g.2).toArray 91 (0,0))) (hle:l.length≤4096) (hbase:base≤w.heap.size)
  (h:∀v' w',OwnE w' base v' (l++[g])→w.grownBy w' v.ownBlock→wpList Tryz.prog ops Q rest (a.put o.dst v') w'):
  wpList Tryz.prog ops Q (o::rest) a w:=by
 obtain⟨i0,hi,hz0,hz1,hz2⟩:=info_parts infoE
 refine wpList_append_own w hgd s x 29 ho base 91 i0 etZ 2 48 Tryz.underlying29 hi hz0 hz1 hz2 rfl (by omega) v l.length (ets l) hs hown ⟨B,0,none⟩ 1 1 (etc2 g.1 g.2) hx rfl
  (fun j u hu=>World.news_of_block hb j u (by simpa using hu)) (fun u hu=>ets_one [g] u (by rw[ets,ets,List.append_nil];exact hu)) (by unfold maxLen;omega) (by omega) hbase ?_
 intro v' w' h1 h2 _
 exact h v' w' (by unfold OwnE;rw[ets_append,List.length_append,ets,ets,List.append_nil];exact h1) h2
theorem step_appEs {ops:Array Oper}{o:Oper}{a:Act}{K:Act→World→Prop}{Q:Exit→Act→World→Prop}{E:Prop}(w:World)(hgd:o.guard=none)(s x:Operand)
  (ho:o.op=.call { callee:=.builtin .append,args:=#[s,x],argTypes:=#[29,29] }) (base:Nat)
  (v:Value) (l:List Eq3) (hs:a.eval s=v) (hown:OwnE w base v l) (sa:Option Addr) (m c:Nat) (news:List Eq3) (hx:a.eval x=.slice sa m c) (hsrc:SrcE w sa m c news)
  (hbytes:l.length+m≤8192) (hbase:base≤w.heap.size) (d:Tmp) (hd:o.dst=some d)
  (h:∀v' w',OwnE w' base v' (l++news)→w.grownBy w' v.ownBlock→K (a.put (some d) v') w'):
  if Region.wanted o (yielded ops a.tmps)=true then Oper.wp Tryz.prog o a w K Q else E:=by
 have hw:Region.wanted o (yielded ops a.tmps)=true:=by simp[Region.wanted,hgd]
 rw[if_pos hw]
 obtain⟨i0,hi,hz0,hz1,hz2⟩:=info_parts infoE
 cases sa with
 | none =>
  obtain⟨hm,hc⟩:=hsrc.nil rfl
  have hn:news=[]:=List.eq_nil_of_length_eq_zero (by rw[hsrc.len,hm])
  subst hn hm hc
  have hrun:=run_append_owned_none (P:=Tryz.prog) (w:=w) base 29 o.type 91 i0 2 Tryz.underlying29 hi v l.length (ets l) hown
  rw[←hd] at h
  unfold Oper.wp
  simp[execOp,ho,resolve,invoke,builtin,hs,hx,hrun,Result.andThen]
  exact h v w (by rw[List.append_nil];exact hown) (World.grownBy.refl _ _)
 | some ad =>
  refine wp_append_own w s x 29 ho base 91 i0 etZ 2 48 Tryz.underlying29 hi hz0 hz1 hz2 rfl (by omega) v l.length (ets l) hs hown ad m c (ets news) hx (by rw[ets_length,hsrc.len]) (hsrc.cells ad rfl) (ets_one news) (by unfold maxLen;omega) (by omega) hbase ?_
  intro v' w' h1 h2 _
  rw[hd]
  exact h v' w' (by unfold OwnE;rw[ets_append,List.length_append,hsrc.len];exact h1) h2
theorem slEh (a:Option Addr)(n cap k:Nat)(hk:k≤cap)(ha:a=none∨∃g,a=some ⟨g,0,none⟩)(w:World):(Instr.slice 29 (.slice a n cap) none (some (.int .i64 (k:Int))) none).run Tryz.prog w=.ok (.slice a k cap) w:=by
 have he:Tryz.prog.elem 29=91:=by kernel_rfl
 have hz:(sizeOf 91).run Tryz.prog w=.ok 2 w:=by
  obtain⟨i0,hi,hz0,hz1,hz2⟩:=info_parts infoE
  simp[sizeOf,typeInfo,hi,hz1]
 rw[run_slice_h w 29 _ n cap (by rw[he];exact Tryz.underlying29) .i64 (k:Int) (by omega) (by omega),he,hz]
 simp only[Result.andThen,sliced,Int.toNat_natCast,Nat.zero_mul,Nat.sub_zero]
 rcases ha with rfl|⟨g,rfl⟩
 ·split<;>rfl
 ·split<;>simp[Addr.add_lit]
theorem slEl (a:Option Addr)(n cap k:Nat)(hk:k≤n)(w:World):(Instr.slice 29 (.slice a n cap) (some (.int .i64 (k:Int))) none none).run Tryz.prog w=.ok (.slice (cutE a cap k) (n-k) (cap-k)) w:=by
 have he:Tryz.prog.elem 29=91:=by kernel_rfl
 have hz:(sizeOf 91).run Tryz.prog w=.ok 2 w:=by
  obtain⟨i0,hi,hz0,hz1,hz2⟩:=info_parts infoE
  simp[sizeOf,typeInfo,hi,hz1]
 rw[run_slice_l w 29 _ n cap (by rw[he];exact Tryz.underlying29) .i64 (k:Int) (by omega) (by omega),he,hz]
 simp only[Result.andThen,sliced,Int.toNat_natCast,cutE]
end
end Go.Proofs.YtpecobmfabmpkaaGreatDoor
