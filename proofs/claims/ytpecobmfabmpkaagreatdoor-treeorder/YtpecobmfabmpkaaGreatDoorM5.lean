/- Js3 Js4 Js5 JrA JrB TakeL JrC JrE Js6 Js7 JsC Sp0 Sp1 Sp2 Sp3 Sp4 Sp5 Sp6 Sp7 Sp8 Sp9 SpC Pj0 -/
import Derived.Test.YtpecobmfabmpkaaGreatDoorM4
import Derived.KernelRfl
import Derived.Maps.OwnSet
import Derived.Lib.SlKeysI
namespace Go.Proofs.YtpecobmfabmpkaaGreatDoor
section
open Go.RowKit
theorem commit_ok {t:Tl}{j:Jl}{m:Nat}(hp:FewM j.p m)(hg:Good j.p)(ho:t.over=false)(hd:j.dead=false)(hne:t.l≠[])(hl:t.l.length≤48)(ha:∀g∈t.l,g.1<j.p.n∧g.2.length=512):
  cmE t j=0∧∃q,cmJ t j=⟨q,nxt j.seq,false⟩∧Good q∧q.n=j.p.n∧q.ca=[]∧q.st=t.l.foldl Pl.put ([(0,sealJ (nxt j.seq) t.l)].foldl Pl.put ((j.p.ca++slotQ t.l).foldl Pl.put j.p.st)):=by
 have hnot:¬(t.over=true∨j.dead=true):=by rw[ho,hd];simp
 have hn:=hp.n0
 obtain⟨a1,a2⟩:=steps_ok (slotQ t.l) j.p hg.off hg.arm (fun g hgl=>by
  unfold slotQ at hgl
  obtain⟨i,hi,rfl⟩:=List.mem_map.1 hgl
  have hi:=List.mem_range.1 hi
  refine⟨by show 1+i<_;omega,?_⟩
  show (t.l.getD i (0,[])).2.length=512
  rw[List.getD_eq_getElem?_getD,List.getElem?_eq_getElem hi]
  exact(ha _ (List.getElem_mem hi)).2)
 obtain⟨b1,b2⟩:=steps_ok [(0,sealJ (nxt j.seq) t.l)] (stepsP j.p (slotQ t.l)) (by rw[a2]) (by rw[a2]) (fun g hgl=>by
  rw[List.mem_singleton.1 hgl,a2]
  exact⟨by show 0<j.p.n;omega,sealJ_length _ _ (by rw[preJ_length];omega)⟩)
 obtain⟨c1,c2⟩:=steps_ok t.l (stepsP (stepsP j.p (slotQ t.l)) [(0,sealJ (nxt j.seq) t.l)]) (by rw[b2]) (by rw[b2]) (fun g hgl=>by
  have e:(stepsP (stepsP j.p (slotQ t.l)) [(0,sealJ (nxt j.seq) t.l)]).n=j.p.n:=by rw[steps_n,steps_n]
  rw[e];exact ha g hgl)
 have eA:cmA t j=(stepsP j.p (slotQ t.l),0):=by unfold cmA;rw[a1]
 have eB:cmB t j=(stepsP (stepsP j.p (slotQ t.l)) [(0,sealJ (nxt j.seq) t.l)],0):=by unfold cmB;rw[eA,if_pos rfl,b1]
 have eC:cmC t j=(stepsP (stepsP (stepsP j.p (slotQ t.l)) [(0,sealJ (nxt j.seq) t.l)]) t.l,0):=by unfold cmC;rw[eB,if_pos rfl,c1]
 refine⟨by unfold cmE;rw[if_neg hnot,if_neg hne,eC],_,by unfold cmJ;rw[if_neg hnot,if_neg hne,eC,if_pos rfl,hd],?_,by rw[steps_n,steps_n,steps_n],by rw[c2],?_⟩
 ·rw[c2];exact⟨rfl,rfl⟩
 ·rw[c2,b2,a2];rfl
def at2:Tl:=⟨[(50,secL 1 2),(60,secL 3 4)],false⟩
theorem jMountT {JA:World→Nat→Nat→Nat→Jl→Prop}{TA:World→Nat→Nat→Nat→Nat→Tl→Jl→Prop}(ok:JrnOK JA TA){w:World}{P base m:Nat}{p:Pl}(h:IsD0 w P base p)(hf:FewM p m)(hm:m≤80000)(he:mountE p=0):
  Calls Tryz.prog 35 #[.pointer (some ⟨P,0,none⟩)] w fun e w'=>(∃J,e=.returned (.tuple #[.pointer (some ⟨J,0,none⟩),.int .i64 0])∧JA w' J P base ⟨mountP p,mountS p,false⟩)∧KeepT PD w w'∧Below base w w':=by
 refine(ok.mount w P base m p h hf hm).mono ?_
 rintro e w' ⟨h1,h2⟩
 rw[if_pos he] at h1
 exact⟨h1,h2⟩
theorem jMount {JA:World→Nat→Nat→Nat→Jl→Prop}{TA:World→Nat→Nat→Nat→Nat→Tl→Jl→Prop}(ok:JrnOK JA TA){w:World}{P base m:Nat}{p:Pl}(h:IsD0 w P base p)(hf:FewM p m)(hm:m≤80000)(he:mountE p=0):
  Calls Tryz.prog 35 #[.pointer (some ⟨P,0,none⟩)] w fun e w'=>(∃J,e=.returned (.tuple #[.pointer (some ⟨J,0,none⟩),.int .i64 0])∧JA w' J P base ⟨mountP p,mountS p,false⟩)∧KP base w w' :=
 (jMountT ok h hf hm he).mono fun _ _ ⟨h1,h2,h3⟩=>⟨h1,KP.ofPD h2 h3⟩
end
section
open Go Go.RowKit
variable {P:Program} {ops:Array Oper} {Q:Exit→Act→World→Prop} {S:World→Prop} {z:Nat}
def LastOk (P:Program)(ops:Array Oper)(Q:Exit→Act→World→Prop)(S:World→Prop)(z:Nat):Nat→Array Bool→Act→World→Prop
 | 0,l,a,w=>Region.ready .any ops l=[]∧Q .normal a w
 | f+1,l,a,w=>(Region.ready .any ops l=[]→Q .normal a w)∧∀i∈Region.ready .any ops l,wpOp P ops Q i (fun a' w'=>(i≠z→S w')∧LastOk P ops Q S z f (l.setIfInBounds i true) a' w') a w
theorem LastOk.any:∀(f:Nat) (l:Array Bool)(a:Act)(w:World),LastOk P ops Q S z f l a w→wpAny P .any ops Q f l a w
 | 0,_,_,_,h=>h
 | f+1,_,_,_,h=>⟨h.1,fun i hi=>wpOp_mono (fun a' w' k=>LastOk.any f _ a' w' k.2) (h.2 i hi)⟩
def waitsB (ops:Array Oper)(z i:Nat):Bool:=(ops[z]?).any fun o=>o.after.any fun e=>Region.binds .any e&&e.on==i
theorem waits_not {i:Nat}{l:Array Bool}(h:waitsB ops z i=true)(hi:l.getD i false=false):z∉Region.ready .any ops l:=fun hz=>by
 obtain⟨_,o,ho,hall⟩:=mem_ready.1 hz
 unfold waitsB at h
 rw[ho] at h
 simp only[Option.any_some,Array.any_eq_true,Bool.and_eq_true,beq_iff_eq] at h
 obtain⟨x,hx,hb,he⟩:=h
 have:=hall _ (Array.getElem_mem hx) hb
 rw[he,hi] at this
 cases this
theorem unlisted {i:Nat}{l:Array Bool}(h:l.getD i true=false):l.getD i false=false:=by
 rcases Nat.lt_or_ge i l.size with k|k
 ·simp[k] at h ⊢;exact h
 ·simp[Array.getElem?_eq_none k] at h
theorem LastOk.first {i:Nat}{o:Oper}{v:Value}(hi:ops[i]?=some o)(hs:Region.noSelect ops=true)(hw:waitsB ops z i=true)
  (hQ:∀c a w,Q (.panic c) (a.put o.dst v) w→Q (.panic c) a w):∀(f:Nat) (l:Array Bool) (a:Act) (w:World),
   (∀j oj,ops[j]?=some oj→j≠i→l.getD j true=false→(∀e∈oj.after,Region.binds .any e=true→e.on≠i)→o.apart ops oj=true) →
   i∈Region.ready .any ops l→YieldsIf P ops S o v a→S w→LastOk P ops Q S z f (l.setIfInBounds i true) (a.put o.dst v) w→LastOk P ops Q S z (f+1) l a w:=by
 have hsel:=Region.noSelect_spec hs
 intro f
 induction f with
 | zero =>
  intro l a w _ hr hy hS H
  refine⟨fun h=>(by rw[h] at hr;cases hr),fun j hj=>?_⟩
  by_cases e:j=i
  ·subst e;exact hy.wpOp hi hS ⟨fun _=>hS,H⟩
  ·have:=ready_mono hj e
   rw[H.1] at this
   cases this
 | succ f ih =>
  intro l a w hf hr hy hS H
  refine⟨fun h=>(by rw[h] at hr;cases hr),fun j hj=>?_⟩
  by_cases e:j=i
  ·subst e;exact hy.wpOp hi hS ⟨fun _=>hS,H⟩
  ·obtain⟨hju,oj,hoj,hall⟩:=mem_ready.1 hj
   have hi0:=(mem_ready.1 hr).1
   have hjz:j≠z:=fun h=>waits_not hw (unlisted hi0) (h▸hj)
   have hnot:∀x∈oj.after,Region.binds .any x=true→x.on≠i:=fun x hx hb h=>by
    have:=hall x hx hb
    rw[h,unlisted hi0] at this
    cases this
   have h2:=wpOp_putIf hoj (hf j oj hoj e hju hnot) (fun cs b=>hsel i o cs b hi) (fun cs b=>hsel j oj cs b hoj) hQ hy (H.2 j (ready_mono hj e))
   refine wpOp_mono (fun a' w' k=>⟨k.2.1,ih _ a' w' (fun x ox hx hxi hu hno=>hf x ox hx hxi ?_ hno) (ready_mono hr (Ne.symm e)) k.1 (k.2.1 hjz) ?_⟩) h2
   ·by_cases hjx:j=x
    ·subst hjx;exact hju
    ·rw[getD_set_ne true hjx] at hu;exact hu
   ·rw[Array.setIfInBounds_comm _ _ e]
    exact k.2.2
theorem lk0 {id:Nat}{a:Act}{w:World}(S:World→Prop)(z:Nat)(hS:S w.drew)(h:S w.drew→LastOk P ops Q S z ops.size (Array.replicate ops.size false) a w.drew)(hm:P.follows .mixedOrders=true:=by kernel_rfl):(Code.region id ops true).wp P Q a w :=
 wp_region_any hm (LastOk.any _ _ _ _ (h hS))
theorem lkT {o:Oper}{f:Nat}{l:Array Bool}{a:Act}{w:World}(d:Tmp)(i:Nat)(v:Value)(hi:ops[i]?=some o)(hy:YieldsIf P ops S o v a)(hS:S w)
  (h:LastOk P ops Q S z f (l.setIfInBounds i true) (a.put (some d) v) w) (hs:Region.noSelect ops=true:=by kernel_rfl) (hw:waitsB ops z i=true:=by kernel_rfl) (hf:Region.free .any ops l i=true:=by kernel_rfl) (hr:(Region.ready .any ops l).contains i=true:=by kernel_rfl)
  (hQ:∀c a w,Q (.panic c) (a.put o.dst v) w→Q (.panic c) a w:=by exact fun _ _ _ h=>h) (hd:o.dst=some d:=by rfl):LastOk P ops Q S z (f+1) l a w :=
 LastOk.first hi hs hw hQ f l a w (Region.free_spec hi hf) (by simpa using hr) hy hS (by rw[hd];exact h)
def NextL (P:Program)(ops:Array Oper)(Q:Exit→Act→World→Prop)(S:World→Prop)(z f:Nat)(l:Array Bool)(a:Act)(w:World)(rs:List Nat):Prop :=
 ∀i∈rs,wpOp P ops Q i (fun a' w'=>(i≠z→S w')∧LastOk P ops Q S z f (l.setIfInBounds i true) a' w') a w
theorem NextL.nil {f:Nat}{l:Array Bool}{a:Act}{w:World}:NextL P ops Q S z f l a w []:=fun _ h=>by cases h
theorem NextL.cons {f:Nat}{l:Array Bool}{a:Act}{w:World}{i:Nat}{o:Oper}{rs:List Nat}(ho:ops[i]?=some o)
  (h:∀K':Act→World→Prop,Shut (∀a w,S w→(S w→LastOk P ops Q S z f (l.setIfInBounds i true) a w)→K' a w)→if Region.wanted o (yielded ops a.tmps)=true then Oper.wp P o a w K' Q else K' (a.put o.dst undef) w)
  (hs:NextL P ops Q S z f l a w rs):NextL P ops Q S z f l a w (i::rs):=fun j hj=>by
 rcases List.mem_cons.1 hj with rfl|hj
 ·exact wpOp_step ho (fun K' hK=>h K' (fun a w hS hW=>hK a w ⟨fun _=>hS,hW hS⟩))
 ·exact hs j hj
theorem lkR {rs:List Nat}{f:Nat}{l:Array Bool}{a:Act}{w:World}(hr:Region.ready .any ops l=rs)(hne:rs≠[])(h:NextL P ops Q S z f l a w rs):LastOk P ops Q S z (f+1) l a w :=
 ⟨fun h0=>absurd (hr▸h0) hne,hr▸h⟩
theorem lk1 {f:Nat}{l:Array Bool}{a:Act}{w:World}{o:Oper}(i:Nat)(ho:ops[i]?=some o)
  (h:∀K':Act→World→Prop,Shut (∀a w,S w→(S w→LastOk P ops Q S z f (l.setIfInBounds i true) a w)→K' a w)→if Region.wanted o (yielded ops a.tmps)=true then Oper.wp P o a w K' Q else K' (a.put o.dst undef) w) (hr:Region.ready .any ops l=[i]:=by kernel_rfl):LastOk P ops Q S z (f+1) l a w :=
 lkR hr (by simp) (NextL.cons ho h NextL.nil)
theorem lkZ {f:Nat}{l:Array Bool}{a:Act}{w:World}{o:Oper}(ho:ops[z]?=some o)
  (h:∀K':Act→World→Prop,Shut (∀a w,Q .normal a w→K' a w)→if Region.wanted o (yielded ops a.tmps)=true then Oper.wp P o a w K' Q else K' (a.put o.dst undef) w) (hr:Region.ready .any ops l=[z]:=by kernel_rfl) (hd:Region.ready .any ops (l.setIfInBounds z true)=[]:=by kernel_rfl):LastOk P ops Q S z (f+1) l a w :=
 lkR hr (by simp) (fun j hj=>by
  have:j=z:=by simpa using hj
  subst this
  exact wpOp_step ho (fun K' hK=>h K' (fun a w hQ=>hK a w ⟨fun e=>absurd rfl e,by
   cases f with
   | zero=>exact⟨hd,hQ⟩
   | succ f=>exact⟨fun _=>hQ,by rw[hd];simp⟩⟩)))
end
section
open Go.RowKit
theorem putQ_mem (l:Qs)(i:Nat)(b:List UInt8):∀g∈putQ l i b,g∈l∨g=(i,b):=by
 induction l with
 | nil=>intro g hg;exact .inr (List.mem_singleton.1 hg)
 | cons x l ih =>
  intro g hg
  rw[putQ] at hg
  split at hg
  ·rcases List.mem_cons.1 hg with e|e
   ·exact .inl (by rw[e];simp)
   ·rcases ih g e with h|h
    ·exact .inl (List.mem_cons_of_mem _ h)
    ·exact .inr h
  ·split at hg
   ·rcases List.mem_cons.1 hg with e|e
    ·exact .inr e
    ·exact .inl (List.mem_cons_of_mem _ e)
   ·rcases List.mem_cons.1 hg with e|e
    ·exact .inr e
    ·exact .inl e
theorem tlWrite_at (t:Tl)(j:Jl)(i:Int)(b:List UInt8)(h:∀g∈t.l,g.1<j.p.n):∀g∈(t.write j i b).l,g.1<j.p.n:=by
 unfold Tl.write
 split
 ·rename_i hz
  intro g hg
  rcases putQ_mem _ _ _ g hg with e|e
  ·exact h g e
  ·rw[e]
   unfold Tl.wrE at hz
   split at hz
   ·cases hz
   ·split at hz
    ·cases hz
    ·rename_i ha
     have ha2:areaI j.p.n i=true:=by cases hq:areaI j.p.n i with|true=>rfl|false=>exact absurd hq ha
     unfold areaI at ha2
     have:=of_decide_eq_true ha2
     show i.toNat<j.p.n
     omega
 ·exact h
def bitN (b:List UInt8)(k:Nat):Bool:=decide ((nth b (k/8)).toNat/2 ^ (k%8)%2=1)
def takenL (b:List UInt8)(i:Int):Bool:=decide (0≤i)&&bitN b i.toNat
theorem nth_behind (b:List UInt8)(q:Nat)(h:b.length≤q):nth b q=0:=by
 unfold nth;rw[List.getD_eq_getElem?_getD,List.getElem?_eq_none h];rfl
theorem bitN_behind (b:List UInt8)(k:Nat)(h:b.length≤k/8):bitN b k=false:=by
 unfold bitN;rw[nth_behind b _ h];simp
theorem takenL_nat (b:List UInt8)(k:Nat):takenL b (k:Int)=bitN b k:=by unfold takenL;simp
theorem takenL_neg (b:List UInt8)(i:Int)(h:i<0):takenL b i=false:=by unfold takenL;rw[decide_eq_false (by omega)];rfl
def cntL (b:List UInt8):Nat→Nat
 | 0=>0
 | k+1=>cntL b k+(if bitN b k=true then 1 else 0)
theorem cntL_le (b:List UInt8)(k:Nat):cntL b k≤k:=by
 induction k with
 | zero=>exact Nat.le_refl _
 | succ k ih=>rw[cntL];split<;>omega
theorem cntL_behind (b:List UInt8)(k:Nat)(h:8 * b.length≤k)(d:Nat):cntL b (k+d)=cntL b k:=by
 induction d with
 | zero=>rfl
 | succ d ih=>rw[←Nat.add_assoc,cntL,bitN_behind b _ (by omega),ih];simp
def countL (b:List UInt8)(n:Int):Nat:=cntL b (min n.toNat (8 * b.length))
theorem countL_all (b:List UInt8)(n:Int):countL b n=cntL b n.toNat:=by
 unfold countL
 by_cases h:n.toNat≤8 * b.length
 ·rw[Nat.min_eq_left h]
 ·rw[Nat.min_eq_right (by omega)]
  have:=cntL_behind b (8 * b.length) (Nat.le_refl _) (n.toNat-8 * b.length)
  rw[←this];congr 1;omega
def tkGo (b:List UInt8):Nat→Nat→Nat
 | 0,i=>i
 | f+1,i=>if bitN b i=true then tkGo b f (i+1) else i
def tkI (b:List UInt8)(n:Nat):Nat:=tkGo b (n-51) 51
theorem tkGo_hit (b:List UInt8):∀(f i k:Nat),i≤k→k<i+f→(∀x,i≤x→x<k→bitN b x=true)→bitN b k=false→tkGo b f i=k:=by
 intro f
 induction f with
 | zero=>intro i k h1 h2;omega
 | succ f ih =>
  intro i k h1 h2 h3 h4
  rw[tkGo]
  by_cases e:i=k
  ·subst e;rw[h4];rfl
  ·rw[if_pos (h3 i (Nat.le_refl _) (by omega))]
   exact ih (i+1) k (by omega) (by omega) (fun x hx hk=>h3 x (by omega) hk) h4
theorem tkGo_none (b:List UInt8):∀(f i:Nat),(∀x,i≤x→x<i+f→bitN b x=true)→tkGo b f i=i+f:=by
 intro f
 induction f with
 | zero=>intro i _;rfl
 | succ f ih =>
  intro i h
  rw[tkGo,if_pos (h i (Nat.le_refl _) (by omega)),ih (i+1) (fun x hx hk=>h x (by omega) (by omega))]
  omega
theorem tkI_hit (b:List UInt8)(n k:Nat)(h1:51≤k)(h2:k<n)(h3:∀x,51≤x→x<k→bitN b x=true)(h4:bitN b k=false):tkI b n=k:=tkGo_hit b _ _ k h1 (by omega) h3 h4
theorem tkI_none (b:List UInt8)(n:Nat)(h1:51≤n)(h3:∀x,51≤x→x<n→bitN b x=true):tkI b n=n:=by
 unfold tkI;rw[tkGo_none b _ _ (fun x hx hk=>h3 x hx (by omega))];omega
def freeL (b:List UInt8):Nat→Nat
 | 0=>0
 | d+1=>freeL b d+(if bitN b (51+d)=true then 0 else 1)
def flipL (b:List UInt8)(k:Nat):List UInt8:=b.set (k/8) (nth b (k/8) ^^^ UInt8.ofNat (2 ^ (k%8)))
theorem flipL_length (b:List UInt8)(k:Nat):(flipL b k).length=b.length:=List.length_set
abbrev U11:List TypeId:=[25,5,4,3,30,33,26,133,64,87,144,50,215,91,35,71,152]
structure KS (base:Nat)(w w':World):Prop where
 o:KeepO U11 w w'
 b:Below base w w'
theorem KS.trans {base:Nat}{a b c:World}(h:KS base a b)(k:KS base b c):KS base a c:=⟨h.o.trans k.o,h.b.trans k.b⟩
theorem KS.of_below {base:Nat}{w w':World}(h:Below w.heap.size w w')(hb:base≤w.heap.size):KS base w w':=⟨KeepO.of_below h,h.mono hb⟩
theorem KS.ofP {base:Nat}{w w':World}(h:KP base w w'):KS base w w':=⟨h.o.less (by decide),h.b⟩
def mapL (t:Tl)(j:Jl):List UInt8:=t.rdB j 49
theorem find_512 {l:Qs}(h:∀g∈l,g.2.length=512){i:Int}{b:List UInt8}(hb:Tl.find l i=some b):b.length=512:=by
 unfold Tl.find at hb
 obtain⟨g,hg,rfl⟩:=Option.map_eq_some_iff.1 hb
 exact h g (List.mem_of_find?_eq_some hg)
theorem map_ok {t:Tl}{j:Jl}{m:Nat}(hf:FewM j.p m)(ho:j.p.off=false)(hl:∀g∈t.l,g.2.length=512):t.rdE j 49=0∧(mapL t j).length=512:=by
 have hn:=hf.n0
 have ha:areaI j.p.n 49=true:=by unfold areaI;exact decide_eq_true (by omega)
 unfold mapL Tl.rdE Tl.rdB
 cases hq:Tl.find t.l 49 with
 | some b=>exact⟨rfl,find_512 hl hq⟩
 | none =>
  have hi:inR j.p.n 49=true:=by unfold inR;exact decide_eq_true (by omega)
  simp only[ha]
  refine⟨?_,?_⟩
  ·unfold Pl.rdE Pl.stE;rw[ho,hi];rfl
  ·unfold Pl.rdB;rw[ho,hi];exact put512 _ _ hf.st (fun g hg=>(hf.at_ g hg).2) _
theorem tlWrite_512 {t:Tl}{j:Jl}{i:Int}{b:List UInt8}(h:∀g∈t.l,g.2.length=512):∀g∈(t.write j i b).l,g.2.length=512:=by
 unfold Tl.write
 split
 ·rename_i hz
  intro g hg
  rcases putQ_mem _ _ _ g hg with e|e
  ·exact h g e
  ·rw[e]
   unfold Tl.wrE at hz
   split at hz
   ·cases hz
   ·split at hz
    ·cases hz
    ·split at hz
     ·cases hz
     ·rename_i hb;exact Classical.not_not.1 hb
 ·exact h
def spRdE (t:Tl)(j:Jl)(i:Int):Int:=if i<50 then 50 else t.rdE j i
def spRdB (t:Tl)(j:Jl)(i:Int):List UInt8:=if i<50 then [] else t.rdB j i
def spWrE (t:Tl)(j:Jl)(i:Int)(b:List UInt8):Int:=if i<50 then 50 else t.wrE j i b
def spWr (t:Tl)(j:Jl)(i:Int)(b:List UInt8):Tl:=if i<50 then t else t.write j i b
def gvNo (t:Tl)(j:Jl)(i:Int):Prop:=i<51∨(j.p.n:Int)≤i∨takenL (mapL t j) i=false
instance (t:Tl) (j:Jl) (i:Int):Decidable (gvNo t j i):=by unfold gvNo;exact inferInstance
def gvE (t:Tl)(j:Jl)(i:Int):Int:=if gvNo t j i then 50 else t.wrE j 49 (flipL (mapL t j) i.toNat)
def gvT (t:Tl)(j:Jl)(i:Int):Tl:=if gvNo t j i then t else t.write j 49 (flipL (mapL t j) i.toNat)
def tkK (t:Tl)(j:Jl):Nat:=tkI (mapL t j) j.p.n
def tkE1 (t:Tl)(j:Jl)(k:Nat):Int:=t.wrE j (k:Int) zero512
def tkT1 (t:Tl)(j:Jl)(k:Nat):Tl:=t.write j (k:Int) zero512
def tkE2 (t:Tl)(j:Jl)(k:Nat):Int:=(tkT1 t j k).wrE j 49 (flipL (mapL (tkT1 t j k) j) k)
def tkT2 (t:Tl)(j:Jl)(k:Nat):Tl:=(tkT1 t j k).write j 49 (flipL (mapL (tkT1 t j k) j) k)
def tkE (t:Tl)(j:Jl):Int:=if tkK t j=j.p.n then 44 else if tkE1 t j (tkK t j)≠0 then tkE1 t j (tkK t j) else tkE2 t j (tkK t j)
def tkV (t:Tl)(j:Jl):Nat:=if tkE t j=0 then tkK t j else 0
def tkT (t:Tl)(j:Jl):Tl:=if tkK t j=j.p.n then t else if tkE1 t j (tkK t j)≠0 then tkT1 t j (tkK t j) else tkT2 t j (tkK t j)
theorem tk_full {t:Tl}{j:Jl}(hk:tkK t j=j.p.n):tkE t j=44∧tkV t j=0∧tkT t j=t:=by
 have e:tkE t j=44:=by unfold tkE;rw[if_pos hk]
 exact⟨e,by unfold tkV;rw[e];rfl,by unfold tkT;rw[if_pos hk]⟩
theorem tk_no1 {t:Tl}{j:Jl}{x:Nat}(hk:tkK t j=x)(hn:x<j.p.n)(h1:tkE1 t j x≠0):tkE t j=tkE1 t j x∧tkV t j=0∧tkT t j=tkT1 t j x:=by
 have e:tkE t j=tkE1 t j x:=by unfold tkE;rw[hk,if_neg (by omega),if_pos h1]
 exact⟨e,by unfold tkV;rw[e,if_neg h1],by unfold tkT;rw[hk,if_neg (by omega),if_pos h1]⟩
theorem tk_two {t:Tl}{j:Jl}{x:Nat}(hk:tkK t j=x)(hn:x<j.p.n)(h1:tkE1 t j x=0):tkE t j=tkE2 t j x∧tkT t j=tkT2 t j x:=by
 have h:¬tkE1 t j x≠0:=fun h=>h h1
 exact⟨by unfold tkE;rw[hk,if_neg (by omega),if_neg h],by unfold tkT;rw[hk,if_neg (by omega),if_neg h]⟩
theorem tk_no2 {t:Tl}{j:Jl}{x:Nat}(hk:tkK t j=x)(hn:x<j.p.n)(h1:tkE1 t j x=0)(h2:tkE2 t j x≠0):tkE t j=tkE2 t j x∧tkV t j=0∧tkT t j=tkT2 t j x:=by
 obtain⟨a,b⟩:=tk_two hk hn h1
 exact⟨a,by unfold tkV;rw[a,if_neg h2],b⟩
theorem tk_yes {t:Tl}{j:Jl}{x:Nat}(hk:tkK t j=x)(hn:x<j.p.n)(h1:tkE1 t j x=0)(h2:tkE2 t j x=0):tkE t j=0∧tkV t j=x∧tkT t j=tkT2 t j x:=by
 obtain⟨a,b⟩:=tk_two hk hn h1
 exact⟨a.trans h2,by unfold tkV;rw[a,if_pos h2,hk],b⟩
structure Fit (t:Tl)(j:Jl)(m:Nat):Prop where
 few:FewM j.p m
 m:m≤80000
 good:Good j.p
 len:t.l.length≤48
 lens:∀g∈t.l,g.2.length=512
 at_:∀g∈t.l,g.1<j.p.n
 over:t.over=false
 dead:j.dead=false
 seq:j.seq<18446744073709551616
structure SpcOK (JA:World→Nat→Nat→Nat→Jl→Prop)(SA:World→Nat→Nat→Nat→Nat→Tl→Jl→Prop):Prop where
 toJ:∀ {w:World} {S J P base:Nat} {t:Tl} {j:Jl},SA w S J P base t j→JA w J P base j
 lo:∀ {w:World} {S J P base:Nat} {t:Tl} {j:Jl},SA w S J P base t j→base≤w.heap.size
 keep:∀ {w w':World} {S J P base:Nat} {t:Tl} {j:Jl},SA w S J P base t j→KeepT CT w w'→SA w' S J P base t j
 open_:∀(w:World) (J P base m:Nat) (j:Jl),JA w J P base j→Fit ⟨[],false⟩ j m →
  Calls Tryz.prog 10 #[.pointer (some ⟨J,0,none⟩)] w fun e w'=>(∃S,e=.returned (.tuple #[.pointer (some ⟨S,0,none⟩),.int .i64 0])∧SA w' S J P base ⟨[],false⟩ j)∧KS base w w'
 take:∀(w:World) (S J P base m:Nat) (t:Tl) (j:Jl),SA w S J P base t j→Fit t j m →
  Calls Tryz.prog 98 #[.pointer (some ⟨S,0,none⟩)] w fun e w'=>e=.returned (.tuple #[.int .i64 (tkV t j:Int),.int .i64 (tkE t j)])∧SA w' S J P base (tkT t j) j∧KS base w w'
 give:∀(w:World) (S J P base m:Nat) (t:Tl) (j:Jl) (i:Int),SA w S J P base t j→Fit t j m → -9223372036854775808≤i→i≤9223372036854775807 →
  Calls Tryz.prog 108 #[.pointer (some ⟨S,0,none⟩),.int .i64 i] w fun e w'=>e=.returned (.int .i64 (gvE t j i))∧SA w' S J P base (gvT t j i) j∧KS base w w'
 read:∀(w:World) (S J P base m:Nat) (t:Tl) (j:Jl) (i:Int),SA w S J P base t j→Fit t j m → -9223372036854775808≤i→i≤9223372036854775807 →
  Calls Tryz.prog 101 #[.pointer (some ⟨S,0,none⟩),.int .i64 i] w fun e w'=>(∃v,e=.returned (.tuple #[v,.int .i64 (spRdE t j i)])∧IsV w' v (spRdB t j i))∧SA w' S J P base t j∧KS base w w'
 write:∀(w:World) (S J P base m:Nat) (t:Tl) (j:Jl) (i:Int) (ba:Option Addr) (bc:Nat) (b:List UInt8),SA w S J P base t j→Fit t j m → -9223372036854775808≤i→i≤9223372036854775807→b.length≤140737488351232→(∀W,KeepO [5] w W→Below base w W→IsB W ba b.length bc b) →
  Calls Tryz.prog 33 #[.pointer (some ⟨S,0,none⟩),.int .i64 i,.slice ba b.length bc] w fun e w'=>e=.returned (.int .i64 (spWrE t j i b))∧SA w' S J P base (spWr t j i b) j∧KS base w w'
 free:∀(w:World) (S J P base m:Nat) (t:Tl) (j:Jl),SA w S J P base t j→Fit t j m →
  Calls Tryz.prog 27 #[.pointer (some ⟨S,0,none⟩)] w fun e w'=>e=.returned (.int .i64 (freeL (mapL t j) (j.p.n-51):Int))∧SA w' S J P base t j∧KS base w w'
 commit:∀(w:World) (S J P base m:Nat) (t:Tl) (j:Jl),SA w S J P base t j→Fit t j m →
  Calls Tryz.prog 26 #[.pointer (some ⟨S,0,none⟩)] w fun e w'=>e=.returned (.int .i64 (cmE t j))∧JA w' J P base (cmJ t j)∧KS base w w'
 taken:∀(w:World) (a:Option Addr) (len cap:Nat) (l:List UInt8) (i:Int),IsB w a len cap l→len≤10000 → -9223372036854775808≤i→i≤9223372036854775807 →
  Calls Tryz.prog 155 #[.slice a len cap,.int .i64 i] w fun e w'=>e=.returned (.bool (takenL l i))∧Below w.heap.size w w'
 count:∀(w:World) (a:Option Addr) (len cap:Nat) (l:List UInt8) (n:Int),IsB w a len cap l→len≤10000 → -9223372036854775808≤n→n≤9223372036854775807 →
  Calls Tryz.prog 55 #[.slice a len cap,.int .i64 n] w fun e w'=>e=.returned (.int .i64 (countL l n:Int))∧Below w.heap.size w w'
theorem Fit.write {t:Tl}{j:Jl}{m:Nat}(h:Fit t j m)(i:Int)(b:List UInt8):Fit (t.write j i b) j m :=
 ⟨h.few,h.m,h.good,tlWrite_len _ _ _ _ h.len,tlWrite_512 h.lens,tlWrite_at _ _ _ _ h.at_,(tlWrite_over _ _ _ _).trans h.over,h.dead,h.seq⟩
theorem Fit.fresh {t:Tl}{j:Jl}{m:Nat}(h:Fit t j m):Fit ⟨[],false⟩ j m :=
 ⟨h.few,h.m,h.good,Nat.zero_le _,fun g hg=>(by cases hg),fun g hg=>(by cases hg),rfl,h.dead,h.seq⟩
theorem Fit.commit {t:Tl}{j:Jl}{m:Nat}(h:Fit t j m)(hm:m+150≤80000):cmE t j=0∧Fit ⟨[],false⟩ (cmJ t j) (m+150)∧(cmJ t j).p.n=j.p.n:=by
 have hnot:¬(t.over=true∨j.dead=true):=by rw[h.over,h.dead];simp
 by_cases hne:t.l=[]
 ·have e1:cmE t j=0:=by unfold cmE;rw[if_neg hnot,if_pos hne]
  have e2:cmJ t j=j:=by unfold cmJ;rw[if_neg hnot,if_pos hne]
  rw[e2]
  exact⟨e1,{ h.fresh with few:=h.few.more (by omega),m:=hm },rfl⟩
 ·obtain⟨e1,q,e2,h3,h4,_⟩:=commit_ok h.few h.good h.over h.dead hne h.len (fun g hg=>⟨h.at_ g hg,h.lens g hg⟩)
  have hf:=h.few.commit h.len
  rw[e2] at hf ⊢
  exact⟨e1,⟨hf.more (by omega),hm,h3,Nat.zero_le _,fun g hg=>(by cases hg),fun g hg=>(by cases hg),rfl,rfl,Nat.mod_lt _ (by omega)⟩,h4⟩
end
section
open Go.RowKit Go.Maps
def secV (b:List UInt8):Value:=.agg (bv b).toArray
def secR (v:Value):Option (DataW Value × List MemPlace):=some (.held v,[])
def keyQ (i:Nat):Lit:=.int .i64 (i:Int)
def entQ (g:Nat × List UInt8):Lit × DataW Value:=(keyQ g.1,.held (secV g.2))
def mapD (l:Qs):DataW Value:=.map (l.map entQ)
def SortQ (l:Qs):Prop:=l.Pairwise fun a b=>a.1<b.1
theorem key_same (i:Nat)(z:Int):(keyQ i).sameKey (.int .i64 z)=decide ((i:Int)=z):=by
 show decide (IntKind.i64=IntKind.i64∧(i:Int)=z)=_
 congr 1
 exact propext ⟨fun h=>h.2,fun h=>⟨rfl,h⟩⟩
theorem key_before (i k:Nat):(keyQ i).before (keyQ k)=decide (i<k):=by
 show decide ((i:Int)<(k:Int))=_
 congr 1
 exact propext ⟨fun h=>by omega,fun h=>by omega⟩
theorem mapD_size (l:Qs):Maps.size (mapD l)=l.length:=by unfold mapD;rw[Maps.size_eq,List.length_map]
theorem find_map (l:Qs)(z:Int):(l.map entQ).find? (fun p=>p.1.sameKey (.int .i64 z))=(l.find? fun g=>((g.1:Int)==z)).map entQ:=by
 induction l with
 | nil=>rfl
 | cons g l ih =>
  rw[List.map_cons,List.find?_cons,List.find?_cons]
  have e:(entQ g).1.sameKey (.int .i64 z)=((g.1:Int)==z):=by
   show (keyQ g.1).sameKey _=_
   rw[key_same]
   cases h:((g.1:Int)==z) with
   | true=>exact decide_eq_true (by simpa using h)
   | false=>exact decide_eq_false (by simpa using h)
  rw[e,ih]
  cases ((g.1:Int)==z)<;>rfl
theorem mapD_at (l:Qs)(z:Int)(v:Value):(mapD l).atKey (.int .i64 z) (.held v)=.held ((Tl.find l z).elim v secV):=by
 unfold mapD DataW.atKey Tl.find
 dsimp only
 rw[find_map]
 cases l.find? (fun g=>((g.1:Int)==z))<;>rfl
theorem mapD_has (l:Qs)(z:Int):Maps.has (mapD l) (.int .i64 z)=(Tl.find l z).isSome:=by
 unfold mapD Tl.find
 rw[Maps.has_eq]
 induction l with
 | nil=>rfl
 | cons g l ih =>
  rw[List.map_cons,List.any_cons,ih,List.find?_cons]
  have e:(entQ g).1.sameKey (.int .i64 z)=((g.1:Int)==z):=by
   show (keyQ g.1).sameKey _=_
   rw[key_same]
   cases h:((g.1:Int)==z) with
   | true=>exact decide_eq_true (by simpa using h)
   | false=>exact decide_eq_false (by simpa using h)
  rw[e]
  cases ((g.1:Int)==z)<;>simp
theorem filter_keep (l:Qs)(i:Nat)(h:∀g∈l,g.1≠i):(l.map entQ).filter (fun p => !p.1.sameKey (keyQ i))=l.map entQ:=by
 rw[List.filter_eq_self]
 intro p hp
 obtain⟨g,hg,rfl⟩:=List.mem_map.1 hp
 have:(entQ g).1.sameKey (keyQ i)=false:=by
  show (keyQ g.1).sameKey (.int .i64 (i:Int))=false
  rw[key_same]
  exact decide_eq_false (fun e=>h g hg (by omega))
 rw[this];rfl
theorem insert_front (l:Qs)(x:Nat × List UInt8)(h:∀g∈l,x.1<g.1):DataW.insert (entQ x) (l.map entQ)=entQ x::l.map entQ:=by
 cases l with
 | nil=>rfl
 | cons g l =>
  rw[List.map_cons,DataW.insert]
  have:(entQ x).1.before (entQ g).1=true:=by
   show (keyQ x.1).before (keyQ g.1)=true
   rw[key_before]
   exact decide_eq_true (h g (by simp))
  rw[if_pos this]
theorem mapD_put (l:Qs)(i:Nat)(b:List UInt8)(hs:SortQ l):(mapD l).put (keyQ i) (.held (secV b))=mapD (putQ l i b):=by
 unfold mapD DataW.put
 dsimp only
 congr 1
 show DataW.insert (entQ (i,b)) _=_
 induction l with
 | nil=>rfl
 | cons g l ih =>
  obtain⟨h1,h2⟩:=List.pairwise_cons.1 hs
  rw[putQ]
  have ek:(entQ g).1.sameKey (keyQ i)=decide ((g.1:Int)=(i:Int)):=key_same g.1 (i:Int)
  by_cases ha:g.1<i
  ·rw[if_pos ha,List.map_cons,List.map_cons,List.filter_cons,ek,decide_eq_false (by omega),Bool.not_false,if_pos rfl,DataW.insert]
   have:(entQ (i,b)).1.before (entQ g).1=false:=by
    show (keyQ i).before (keyQ g.1)=false
    rw[key_before]
    exact decide_eq_false (by omega)
   rw[if_neg (by rw[this];decide),ih h2]
  ·by_cases hb:g.1=i
   ·rw[if_neg ha,if_pos hb,List.map_cons,List.map_cons,List.filter_cons,ek,decide_eq_true (by omega),Bool.not_true,if_neg (by decide),filter_keep l i (fun x hx=>by have:=h1 x hx;omega)]
    exact insert_front l (i,b) (fun x hx=>by have:=h1 x hx;show i<x.1;omega)
   ·rw[if_neg ha,if_neg hb,filter_keep (g::l) i (fun x hx=>by
     rcases List.mem_cons.1 hx with rfl|hx
     ·exact hb
     ·have:=h1 x hx;omega)]
    exact insert_front (g::l) (i,b) (fun x hx=>by
     rcases List.mem_cons.1 hx with rfl|hx
     ·show i<x.1;omega
     ·have:=h1 x hx;show i<x.1;omega)
theorem putQ_sort (l:Qs)(i:Nat)(b:List UInt8)(hs:SortQ l):SortQ (putQ l i b):=by
 induction l with
 | nil=>exact List.pairwise_cons.2 ⟨fun _ h=>(by cases h),List.Pairwise.nil⟩
 | cons g l ih =>
  obtain⟨h1,h2⟩:=List.pairwise_cons.1 hs
  rw[putQ]
  by_cases ha:g.1<i
  ·rw[if_pos ha]
   refine List.pairwise_cons.2 ⟨fun x hx=>?_,ih h2⟩
   have:x∈l∨x=(i,b):=by
    clear ih hs h1 ha
    induction l with
    | nil=>exact .inr (List.mem_singleton.1 hx)
    | cons y l ih2 =>
     rw[putQ] at hx
     split at hx
     ·rcases List.mem_cons.1 hx with e|e
      ·exact .inl (by rw[e];simp)
      ·rcases ih2 (List.pairwise_cons.1 h2).2 e with e|e
       ·exact .inl (List.mem_cons_of_mem _ e)
       ·exact .inr e
     ·split at hx
      ·rcases List.mem_cons.1 hx with e|e
       ·exact .inr e
       ·exact .inl (List.mem_cons_of_mem _ e)
      ·rcases List.mem_cons.1 hx with e|e
       ·exact .inr e
       ·exact .inl e
   rcases this with h|h
   ·exact h1 x h
   ·rw[h];exact ha
  ·by_cases hb:g.1=i
   ·rw[if_neg ha,if_pos hb]
    exact List.pairwise_cons.2 ⟨fun x hx=>by have:=h1 x hx;show i<x.1;omega,h2⟩
   ·rw[if_neg ha,if_neg hb]
    refine List.pairwise_cons.2 ⟨fun x hx=>?_,hs⟩
    rcases List.mem_cons.1 hx with rfl|hx
    ·show i<x.1;omega
    ·have:=h1 x hx;show i<x.1;omega
theorem hit_find (l:Qs)(i:Nat)(hs:SortQ l):hitQ l i=(Tl.find l (i:Int)).isSome:=by
 unfold Tl.find
 induction l with
 | nil=>rfl
 | cons g l ih =>
  obtain⟨h1,h2⟩:=List.pairwise_cons.1 hs
  rw[hitQ,List.find?_cons]
  by_cases ha:g.1<i
  ·rw[if_pos ha,ih h2]
   have:((g.1:Int)==(i:Int))=false:=by simp;omega
   rw[this]
  ·rw[if_neg ha]
   by_cases hb:g.1=i
   ·have:((g.1:Int)==(i:Int))=true:=by simp;omega
    rw[this]
    simp[hb]
   ·have:((g.1:Int)==(i:Int))=false:=by simp;omega
    rw[this]
    have hn:l.find? (fun g=>((g.1:Int)==(i:Int)))=none:=List.find?_eq_none.2 (fun x hx=>by have:=h1 x hx;simp;omega)
    rw[hn]
    simp[hb]
theorem mapD_keys (l:Qs):intKeys (mapD l)=l.map fun g=>(g.1:Int):=by
 unfold mapD intKeys
 dsimp only
 rw[List.map_map]
 rfl
theorem sorted_keys (l:Qs)(hs:SortQ l)(ss:List Int)(hp:ss.Perm (intKeys (mapD l))):ss.mergeSort (fun x y=>decide (x≤y))=l.map fun g=>(g.1:Int):=by
 have hS:(l.map fun g=>(g.1:Int)).Pairwise (fun a b=>decide (a≤b)=true):=List.pairwise_map.2 (hs.imp (fun h=>decide_eq_true (by omega)))
 rw[mapD_keys] at hp
 have h1:(ss.mergeSort (fun x y=>decide (x≤y))).Pairwise (fun a b=>decide (a≤b)=true):=List.pairwise_mergeSort (by intro a b c h1 h2;simp at *;omega) (by intro a b;simp;omega) ss
 refine List.Perm.eq_of_pairwise (le:=fun a b=>decide (a≤b)=true) (fun a b _ _ h1 h2=>?_) h1 hS ((List.mergeSort_perm _ _).trans hp)
 have a1:=of_decide_eq_true h1
 have a2:=of_decide_eq_true h2
 omega
structure JAt (w:World)(J P base:Nat)(j:Jl):Prop where
 blk:Blk w J 117 [.pointer (some ⟨P,0,none⟩),.int .u64 (j.seq:Int),.int .u32 (flag j.dead)]
 low:base≤J
 d:IsD0 w P base j.p
 seq:j.seq<18446744073709551616
abbrev OwnM (w:World)(M:Nat)(l:Qs):Prop:=w.ownsMap Tryz.prog 3 secR M l.length (mapD l)
structure TAt (w:World)(T J P base:Nat)(t:Tl)(j:Jl)(M:Nat)(tried:Bool):Prop where
 ja:JAt w J P base j
 blk:Blk w T 129 [.pointer (some ⟨J,0,none⟩),.map (some M),.int .u32 (flag tried),.int .i32 0,.int .u32 0,.bool tried]
 low:base≤T
 lowM:base≤M
 own:OwnM w M t.l
 sort:SortQ t.l
 ok:∀g∈t.l,g.2.length=512∧49≤g.1∧g.1<4096
 over:j.dead=false→tried=t.over
def TAx (w:World)(T J P base:Nat)(t:Tl)(j:Jl):Prop:=∃M tried,TAt w T J P base t j M tried
theorem own_tight {w:World}{M n:Nat}{l:Qs}(h:w.ownsMap Tryz.prog 3 secR M n (mapD l)):OwnM w M l:=by
 obtain⟨es,clock,hb,F,hs,hD⟩:=h
 refine⟨es,clock,hb,F,?_,hD⟩
 have e1:=congrArg Maps.size hD
 rw[mapD_size] at e1
 rw[e1,Maps.size_eq,length_sorted]
 simp
theorem ownM_obj {w:World}{M:Nat}{l:Qs}(h:OwnM w M l):∃es clock,w.heap[M]?=some (.map es clock):=by
 obtain⟨es,clock,hb,_⟩:=h
 exact⟨es,clock,hb⟩
theorem ownM_keep {w w':World}{M:Nat}{l:Qs}(h:OwnM w M l){ts:List TypeId}(hk:KeepT ts w w'):OwnM w' M l:=by
 obtain⟨es,clock,hb,r⟩:=h
 exact⟨es,clock,hk.same M _ hb (fun c t fz e=>by cases e),r⟩
theorem ownM_on {w w':World}{M:Nat}{l:Qs}(h:OwnM w M l)(hb:Below w.heap.size w w'):OwnM w' M l:=ownM_keep (ts:=[]) h (KeepT.of_below hb)
theorem JAt.on {w w':World}{J P base:Nat}{j:Jl}(h:JAt w J P base j)(hb:Below w.heap.size w w'):JAt w' J P base j:=⟨h.blk.on hb,h.low,h.d.on hb,h.seq⟩
theorem JAt.keep {w w':World}{J P base:Nat}{j:Jl}(h:JAt w J P base j)(hk:KeepT CT w w'):JAt w' J P base j:=⟨hk.blk h.blk (by decide),h.low,h.d.keep hk (by decide) (by decide) (by decide),h.seq⟩
theorem JAt.turn {w w':World}{J P base:Nat}{j:Jl}{p':Pl}(h:JAt w J P base j)(hk:KeepT PD w w')(hd:IsD0 w' P base p'):JAt w' J P base ⟨p',j.seq,j.dead⟩:=⟨hk.blk h.blk (by decide),h.low,hd,h.seq⟩
theorem TAt.on {w w':World}{T J P base:Nat}{t:Tl}{j:Jl}{M:Nat}{tr:Bool}(h:TAt w T J P base t j M tr)(hb:Below w.heap.size w w'):TAt w' T J P base t j M tr:=⟨h.ja.on hb,h.blk.on hb,h.low,h.lowM,ownM_on h.own hb,h.sort,h.ok,h.over⟩
theorem TAt.keep {w w':World}{T J P base:Nat}{t:Tl}{j:Jl}{M:Nat}{tr:Bool}(h:TAt w T J P base t j M tr)(hk:KeepT CT w w'):TAt w' T J P base t j M tr:=⟨h.ja.keep hk,hk.blk h.blk (by decide),h.low,h.lowM,ownM_keep h.own hk,h.sort,h.ok,h.over⟩
structure TIn (w:World)(T J M:Nat)(l:Qs)(rest:List Value):Prop where
 blk:Blk w T 129 (.pointer (some ⟨J,0,none⟩):: .map (some M):: rest)
 own:OwnM w M l
 sort:SortQ l
 ok:∀g∈l,g.2.length=512∧49≤g.1∧g.1<4096
theorem TIn.on {w w':World}{T J M:Nat}{l:Qs}{rest:List Value}(h:TIn w T J M l rest)(hb:Below w.heap.size w w'):TIn w' T J M l rest:=⟨h.blk.on hb,ownM_on h.own hb,h.sort,h.ok⟩
end
end Go.Proofs.YtpecobmfabmpkaaGreatDoor
