/- Pd0 Jr4 CanW Can Rdr SlB -/
import Derived.Test.YtpecobmfabmpkaaGreatDoorM0
import Derived.Deep.MidRow
set_option maxRecDepth 20000
set_option maxHeartbeats 1000000
namespace Go.Proofs.YtpecobmfabmpkaaGreatDoor
open Go.RowKit
def wq (g:Nat × List UInt8):List Value:=.int .i64 (g.1:Int):: bv g.2
def wqs:List (Nat × List UInt8)→List Value
 | []=>[]
 | g::l=>wq g++wqs l
def nthQ (l:List (Nat × List UInt8))(i:Nat):Nat × List UInt8:=l.getD i (0,[])
theorem nthQ_eq (l:List (Nat × List UInt8))(i:Nat)(h:i<l.length):nthQ l i=l[i]:=by
 unfold nthQ;rw[List.getD_eq_getElem?_getD,List.getElem?_eq_getElem h];rfl
theorem nthQ_mem (l:List (Nat × List UInt8))(i:Nat)(h:i<l.length):nthQ l i∈l:=by rw[nthQ_eq l i h];exact List.getElem_mem h
theorem wq_length {g:Nat × List UInt8}(h:g.2.length=512):(wq g).length=513:=by simp only[wq,List.length_cons,bv_length,h]
theorem wqs_append (l m:List (Nat × List UInt8)):wqs (l++m)=wqs l++wqs m:=by
 induction l with
 | nil=>rfl
 | cons p l ih=>rw[List.cons_append,wqs,wqs,ih,List.append_assoc]
theorem wqs_at (l:List (Nat × List UInt8))(h:∀g∈l,g.2.length=512)(i j:Nat)(hi:i<l.length)(hj:j<513):(wqs l)[i * 513+j]?=(wq (nthQ l i))[j]?:=by
 induction l generalizing i with
 | nil=>simp at hi
 | cons p l ih =>
  have hp:=wq_length (h p (by simp))
  cases i with
  | zero =>
   rw[wqs,Nat.zero_mul,Nat.zero_add,List.getElem?_append_left (by omega)]
   rfl
  | succ i =>
   rw[wqs,List.getElem?_append_right (by omega),hp,show (i+1) * 513+j-513=i * 513+j by omega]
   exact ih (fun g hg=>h g (by simp[hg])) i (by simpa using hi)
theorem wq_one (g:Nat × List UInt8):∀u∈wq g,u.oneCell'=true:=by
 intro u hu
 rcases List.mem_cons.1 hu with rfl|hu
 ·rfl
 ·exact bv_one _ u hu
def stc (n:Nat)(st:Nat→List UInt8):List Value:=(List.range (n * 512)).map fun k=>.int .u8 ((nth (st (k/512)) (k%512)).toNat:Int)
theorem stc_length (n:Nat)(st:Nat→List UInt8):(stc n st).length=n * 512:=by simp[stc]
theorem stc_at (n:Nat)(st:Nat→List UInt8)(k:Nat)(h:k<n * 512):(stc n st)[k]?=some (.int .u8 ((nth (st (k/512)) (k%512)).toNat:Int)):=by
 simp[stc,h]
def putL:List Value→Nat→List Value→List Value
 | cs,_,[]=>cs
 | cs,o,v::vs=>putL (cs.set o v) (o+1) vs
theorem putL_at (vs cs:List Value)(o k:Nat)(h:o+vs.length≤cs.length):(putL cs o vs)[k]?=if o≤k∧k<o+vs.length then vs[k-o]? else cs[k]?:=by
 induction vs generalizing cs o with
 | nil=>rw[putL,if_neg (by simp<;>omega)]
 | cons v vs ih =>
  rw[List.length_cons] at h
  rw[putL,ih _ _ (by rw[List.length_set];omega),List.length_cons]
  by_cases h1:o+1≤k∧k<o+1+vs.length
  ·rw[if_pos h1,if_pos (by omega),show k-o=(k-(o+1))+1 by omega,List.getElem?_cons_succ]
  ·rw[if_neg h1]
   by_cases h2:k=o
   ·subst h2
    rw[if_pos (by omega),Nat.sub_self,List.getElem?_cons_zero,List.getElem?_set_self (by omega)]
   ·rw[if_neg (by omega),List.getElem?_set_ne (by omega)]
theorem Blk.setCells9 {B t:Nat}(vs:List Value):∀ {w:World} {cs:List Value} (o:Nat),Blk w B t cs→Blk (w.setCells B o vs) B t (putL cs o vs):=by
 induction vs with
 | nil=>intro w cs o h;exact h
 | cons v vs ih=>intro w cs o h;exact ih (o+1) (h.set o v)
theorem gr_setCells (B:Nat)(vs:List Value):∀(w:World) (o:Nat),w.grownBy (w.setCells B o vs) (some B):=by
 induction vs with
 | nil=>intro w o;exact⟨rfl,rfl,rfl,Nat.le_refl _,fun _ _ _=>rfl⟩
 | cons v vs ih =>
  intro w o
  have h1:w.grownBy (w.setCell ⟨B,o,none⟩ v) (some B):=⟨rfl,rfl,rfl,by simp[World.setCell],fun k _ hk=>Below.heap_setCell _ _ _ _ (fun e=>hk (by rw[e]))⟩
  exact h1.trans (ih (w.setCell ⟨B,o,none⟩ v) (o+1))
theorem putL_stc (n:Nat)(st:Nat→List UInt8)(i:Nat)(b:List UInt8)(hi:i<n)(hb:b.length=512):putL (stc n st) (i * 512) (bv b)=stc n (Pl.put st (i,b)):=by
 apply List.ext_getElem?
 intro k
 have hfit:i * 512+(bv b).length≤(stc n st).length:=by
  rw[bv_length,hb,stc_length]
  have:(i+1) * 512≤n * 512:=Nat.mul_le_mul_right _ hi
  omega
 rw[putL_at _ _ _ _ hfit,bv_length,hb]
 by_cases hk:k<n * 512
 ·rw[stc_at _ _ k hk,stc_at _ _ k hk]
  by_cases h1:i * 512≤k∧k<i * 512+512
  ·have e1:k/512=i:=by omega
   have e2:k-i * 512=k%512:=by omega
   rw[if_pos h1,e1,e2,bv_at _ _ (by rw[hb];omega)]
   simp[Pl.put]
  ·have e1:¬i=k/512:=by omega
   rw[if_neg h1]
   simp[Pl.put,e1]
 ·have h2:¬(i * 512≤k∧k<i * 512+512):=by
   have:(i+1) * 512≤n * 512:=Nat.mul_le_mul_right _ hi
   omega
  have h3:∀s2,(stc n s2)[k]?=none:=fun s2=>List.getElem?_eq_none (by rw[stc_length];exact Nat.le_of_not_lt hk)
  rw[if_neg h2,h3,h3]
theorem div512 (i j:Nat)(h:j<512):(i * 512+j)/512=i:=by omega
theorem mod512 (i j:Nat)(h:j<512):(i * 512+j)%512=j:=by omega
theorem Blk.sector {w:World}{S t n:Nat}{st:Nat→List UInt8}(h:Blk w S t (stc n st))(i:Nat)(hi:i<n)(hl:(st i).length=512):w.rangeAt S (i * 512) (bv (st i)):=by
 intro j v hv
 have hj:j<512:=by
  have:=(List.getElem?_eq_some_iff.1 hv).1
  rwa [bv_length,hl] at this
 have hk:i * 512+j<n * 512:=by
  have:(i+1) * 512≤n * 512:=Nat.mul_le_mul_right _ hi
  omega
 rw[h.cell,stc_at _ _ _ hk,←hv,div512 i j hj,mod512 i j hj,bv_at _ _ (by rw[hl];exact hj)]
theorem Blk.there9 {w:World}{B t:Nat}{cs:List Value}(h:Blk w B t cs)(o m:Nat)(hm:o+m≤cs.length):w.there B o m:=fun j hj =>
 ⟨by rw[h.cell,List.getElem?_eq_getElem (by omega)];rfl,h.frozen _⟩
def OwnC (w:World)(base:Nat)(v:Value)(l:List (Nat × List UInt8)):Prop:=w.ownsRow base 200 513 v l.length (wqs l)
theorem OwnC.nil (w:World)(base:Nat):OwnC w base (.slice none 0 0) []:=World.ownsRow_nil _ _ _ _
theorem OwnC.form {w:World}{base:Nat}{v:Value}{l:List (Nat × List UInt8)}(h:OwnC w base v l)(h5:∀g∈l,g.2.length=512):∃a cap,v=.slice a l.length cap∧l.length≤cap∧cap≤maxLen∧(a=none→cap=0) ∧
  (0<l.length→∃g,a=some ⟨g,0,none⟩∧base≤g∧g<w.heap.size∧∀i,i<l.length→w.rangeAt g (i * 513) (wq (nthQ l i))):=by
 obtain⟨h1,h2⟩:=h
 rcases h2 with⟨rfl,h0⟩|⟨g,cap,cur,rfl,hb,hg,hle,hmax,hsz,htk⟩
 ·have:l=[]:=List.eq_nil_of_length_eq_zero h0
  subst this
  exact⟨none,0,rfl,Nat.le_refl _,Nat.zero_le _,fun _=>rfl,fun h=>absurd h (Nat.lt_irrefl 0)⟩
 ·refine⟨_,cap,rfl,hle,hmax,fun e=>(by cases e),fun hp=>⟨g,rfl,hb,(Array.getElem?_eq_some_iff.1 hg).1,fun i hi j u hu=>?_⟩⟩
  have hown:w.ownsRow base 200 513 (.slice (some ⟨g,0,none⟩) l.length cap) l.length (wqs l):=⟨h1,.inr ⟨g,cap,cur,rfl,hb,hg,hle,hmax,hsz,htk⟩⟩
  have hj:j<513:=by
   have:=(List.getElem?_eq_some_iff.1 hu).1
   rwa [wq_length (h5 _ (nthQ_mem l i hi))] at this
  have hk:i * 513+j<l.length * 513:=by
   have:(i+1) * 513≤l.length * 513:=Nat.mul_le_mul_right _ hi
   omega
  rw[World.ownsRow.cellAt hown _ hk,wqs_at l h5 i j hi hj,hu]
def pdc (S:Nat)(vC:Value)(arm:Int)(p:Pl):List Value:=[.slice (some ⟨S,0,none⟩) p.n p.n,vC,.int .i64 arm,.int .u32 (flag p.off),.int .u64 (p.wr:Int),.int .u64 (p.fl:Int)]
def armOf (arm:Int):Option Nat:=if 0≤arm then some arm.toNat else none
structure IsPd (X:Nat→Prop)(w:World)(P base S:Nat)(vC:Value)(arm:Int)(p:Pl):Prop where
 blk:Blk w P 109 (pdc S vC arm p)
 low:base≤P
 st:Blk w S 159 (stc p.n p.st)
 lowS:base≤S
 len:∀i,i<p.n→(p.st i).length=512
 ca:OwnC w base vC p.ca
 armd:p.arm=armOf arm
 lo : -9223372036854775808≤arm
 hi:arm≤9223372036854775807
 pos:0<p.n
 xP:¬X P
 xS:¬X S
 xC:∀k,vC.ownBlock=some k→¬X k
 xlt:∀k,X k→k<w.heap.size
def IsD (X:Nat→Prop)(w:World)(P base:Nat)(p:Pl):Prop:=∃S vC arm,IsPd X w P base S vC arm p
theorem blk_ne {w:World}{B B' t t':Nat}{cs cs':List Value}(h:Blk w B t cs)(h':Blk w B' t' cs')(ht:t≠t'):B≠B':=fun e=>by
 subst e
 have:=Option.some.inj (h.symm.trans h')
 injection this with _ e2 _
 exact ht e2
theorem own_ne {w:World}{B t:Nat}{cs:List Value}(h:Blk w B t cs){e:TypeId}{base size n:Nat}{v:Value}{xs:List Value}(ho:w.ownsRow base e size v n xs)(ht:t≠e):v.ownBlock=none∨v.ownBlock≠some B:=by
 rcases ho.2 with⟨rfl,_⟩|⟨g,cap,cur,rfl,_,hg,_⟩
 ·exact .inl rfl
 ·refine .inr fun e2=>?_
  have e3:g=B:=by simpa [Value.ownBlock] using e2
  subst e3
  have:=Option.some.inj (h.symm.trans hg)
  injection this with _ e4 _
  exact ht e4
theorem IsPd.keep {X:Nat→Prop}{w w':World}{P base S:Nat}{vC:Value}{arm:Int}{p:Pl}(h:IsPd X w P base S vC arm p){ts:List TypeId}(hk:KeepT ts w w')(h1:109∉ts)(h2:159∉ts)(h3:200∉ts):IsPd X w' P base S vC arm p :=
 {h with blk:=hk.blk h.blk h1,st:=hk.blk h.st h2,ca:=own_keep hk h.ca h3,xlt:=fun k hx=>Nat.lt_of_lt_of_le (h.xlt k hx) hk.size }
theorem IsPd.on {X:Nat→Prop}{w w':World}{P base S:Nat}{vC:Value}{arm:Int}{p:Pl}(h:IsPd X w P base S vC arm p)(hb:Below w.heap.size w w'):IsPd X w' P base S vC arm p:=h.keep (ts:=[]) (KeepT.of_below hb) (by simp) (by simp) (by simp)
theorem IsPd.more {X:Nat→Prop}{w:World}{P base S:Nat}{vC:Value}{arm:Int}{p:Pl}(h:IsPd X w P base S vC arm p)(Y:Nat→Prop)(hP:¬Y P)(hS:¬Y S)(hC:∀k,vC.ownBlock=some k→¬Y k)(hl:∀k,Y k→k<w.heap.size):IsPd Y w P base S vC arm p :=
 {h with xP:=hP,xS:=hS,xC:=hC,xlt:=hl }
theorem IsPd.turn {X:Nat→Prop}{w w':World}{P base S:Nat}{vC:Value}{arm:Int}{p:Pl}(h:IsPd X w P base S vC arm p)(hg:w.grownBy w' (some P)){vC':Value}{arm':Int}{p':Pl}(hb:Blk w' P 109 (pdc S vC' arm' p'))(hn:p'.n=p.n)(hst:p'.st=p.st)
  (hca:OwnC w base vC' p'.ca) (hx:∀k,vC'.ownBlock=some k→¬X k) (ha:p'.arm=armOf arm') (hlo : -9223372036854775808≤arm') (hhi:arm'≤9223372036854775807):IsPd X w' P base S vC' arm' p' :=
 {blk:=hb,low:=h.low,st:=by rw[hn,hst];exact(hg.block S h.st.lt (fun e=>blk_ne h.blk h.st (by decide) (Option.some.inj e).symm)).trans h.st,lowS:=h.lowS,len:=by rw[hn,hst];exact h.len
  ca:=World.ownsRow.kept hca hg (own_ne h.blk hca (by decide)),armd:=ha,lo:=hlo,hi:=hhi,pos:=by rw[hn];exact h.pos,xP:=h.xP,xS:=h.xS,xC:=hx,xlt:=fun k hk=>Nat.lt_of_lt_of_le (h.xlt k hk) hg.size }
theorem IsPd.settle {X:Nat→Prop}{w:World}{P base S:Nat}{vC:Value}{arm:Int}{p:Pl}(h:IsPd X w P base S vC arm p)(g:Nat × List UInt8)(hi:g.1<p.n)(hb:g.2.length=512):IsPd X (w.setCells S (g.1 * 512) (bv g.2)) P base S vC arm { p with st:=Pl.put p.st g } :=
 {h with
  blk:=((gr_setCells S _ w _).block P h.blk.lt (fun e=>blk_ne h.blk h.st (by decide) (Option.some.inj e))).trans h.blk
  st:=by have:=h.st.setCells9 (bv g.2) (g.1 * 512);rw[putL_stc p.n p.st g.1 g.2 hi hb] at this;exact this
  len:=fun i hn=>by
   show (Pl.put p.st g i).length=512
   unfold Pl.put
   split
   ·exact hb
   ·exact h.len i hn
  ca:=World.ownsRow.kept h.ca (gr_setCells S _ w _) (own_ne h.st h.ca (by decide))
  xlt:=fun k hk=>Nat.lt_of_lt_of_le (h.xlt k hk) (gr_setCells S _ w _).size }
structure KeepB (X:Nat→Prop)(w w':World):Prop where
 size:w.heap.size≤w'.heap.size
 x:∀k,X k→k<w.heap.size→w'.heap[k]?=w.heap[k]?
theorem KeepB.of_below {X:Nat→Prop}{w w':World}(h:Below w.heap.size w w'):KeepB X w w':=⟨h.size,fun k _ hk=>h.5 k hk⟩
theorem KeepB.refl (X:Nat→Prop)(w:World):KeepB X w w:=KeepB.of_below (Below.refl _ w)
theorem KeepB.trans {X:Nat→Prop}{a b c:World}(h:KeepB X a b)(k:KeepB X b c):KeepB X a c:=⟨Nat.le_trans h.size k.size,fun i hi hl=>(k.x i hi (Nat.lt_of_lt_of_le hl h.size)).trans (h.x i hi hl)⟩
theorem KeepB.less {X Y:Nat→Prop}{w w':World}(h:KeepB X w w')(hy:∀k,Y k→X k):KeepB Y w w':=⟨h.size,fun k hk=>h.x k (hy k hk)⟩
theorem KeepB.one {X:Nat→Prop}{w w':World}{B:Nat}(hg:w.grownBy w' (some B))(hx:¬X B):KeepB X w w' :=
 ⟨hg.size,fun k hk hl=>hg.block k hl (fun e=>hx ((Option.some.inj e)▸hk))⟩
theorem KeepB.none {X:Nat→Prop}{w w':World}(hg:w.grownBy w' none):KeepB X w w':=⟨hg.size,fun k _ hl=>hg.block k hl (by simp)⟩
theorem bel_one {w w':World}{B base:Nat}(hg:w.grownBy w' (some B))(hb:base≤B)(hl:B<w.heap.size):Below base w w' :=
 (Below.refl _ w).grown hg (by omega) (fun k e=>by have:=Option.some.inj e;omega)
attribute [local go_sem ↓] Go.wp_at_zero Go.wp_at_succ
def beAt (n size j:Nat):UInt8:=UInt8.ofNat (n/2 ^ (8 * (size-1-j)))
def beL (n size k:Nat):List UInt8:=(List.range k).map (beAt n size)
theorem beL_length (n size k:Nat):(beL n size k).length=k:=by simp[beL]
theorem beL_succ (n size k:Nat):beL n size (k+1)=beL n size k++[beAt n size k]:=by
 unfold beL;rw[List.range_succ,List.map_append];rfl
theorem beAt_val (n size j:Nat):(n:Int)/2 ^ (8 * (size-1-j))%256=((beAt n size j).toNat:Int):=by
 unfold beAt
 rw[UInt8.toNat_ofNat',Int.natCast_emod,Int.natCast_ediv,Int.natCast_pow];rfl
def behL (l:List UInt8)(mark:UInt8)(n size k:Nat):List UInt8:=l++mark::beL n size k
theorem behL_length (l:List UInt8)(mark:UInt8)(n size k:Nat):(behL l mark n size k).length=l.length+1+k:=by simp[behL,beL_length];omega
theorem behL_succ (l:List UInt8)(mark:UInt8)(n size k:Nat):behL l mark n size (k+1)=behL l mark n size k++[beAt n size k]:=by
 simp[behL,beL_succ]
theorem canBehind (a:Option Addr)(len cap:Nat)(l:List UInt8)(mark:UInt8)(n size more:Nat)(w:World)(h:IsB w a len cap l)(hs:size≤8)(hl:len≤140737488351232)(hm:more≤140737488351232):
  Calls Tryz.prog 164 #[.slice a len cap,.int .u8 (mark.toNat:Int),.int .u64 (n:Int),.int .i64 (size:Int),.int .i64 (more:Int)] w fun e w'=>∃v,e=.returned v∧OwnB w' w.heap.size v (behL l mark n size size)∧Below w.heap.size w w':=by
 have H:Hid (IsB w a len cap l):=h
 have HE:Hid (l.length=len):=h.len_eq
 have hle:=h.le
 have hmx:=h.max
 unfold maxLen at hmx
 clear h
 go_enter Tryz.func164,Tryz.ntmps164
 go_wp2_with (first
  | (at_make;refine make_own8 _ rfl _ _ rfl w.heap.size .i64 .i64 _ (len+1+size+more) rfl rfl (by omega) (by omega) (Nat.le_refl _) ?_;intro w1 hown1 hgrow1)
  | (at_builtin;refine list_appS _ rfl (.tmp 21) (.tmp 22) rfl w.heap.size _ [] rfl hown1 a len cap l rfl (H.out.below ((Below.refl _ _).grown hgrow1 (Nat.le_refl _) (fun k h=>by cases h)) rfl) (by simp;omega) (by have:=hgrow1.size;omega) ?_;intro v2 w2 hown2 hgrow2)
  | (at_builtin;refine list_app8 _ rfl (.tmp 24) (.tmp 26) rfl w.heap.size v2 ([]++l) rfl (hown2.alloc _) w2.heap.size 1 1 [mark] rfl rfl (heap_alloc_new w2 _) (by omega) (by have:=HE.out;simp;omega) (by have:=hgrow1.size;have:=hgrow2.size;simp;omega) _ rfl ?_;intro g3 cap3 w3 hown3 hgrow3 hat3 hlt3))
 have hbel1:Below w.heap.size w w1:=(Below.refl _ _).grown hgrow1 (Nat.le_refl _) (fun k h=>by cases h)
 have hbel2:Below w.heap.size w w2:=hbel1.grown hgrow2 hbel1.size (fun k hk=>(hown1.blk k hk).1)
 have hbel3:Below w.heap.size w w3:=(hbel2.alloc hbel2.size _).grown hgrow3 (by have:=hbel2.size;simp;omega) (fun k hk=>(hown2.blk k hk).1)
 have hown0:OwnB w3 w.heap.size (.slice (some ⟨g3,0,none⟩) (([]++l).length+1) cap3) (behL l mark n size 0):=hown3
 clear hown1 hgrow1 hown2 hgrow2 hown3 hgrow3 hbel1 hbel2 hat3 hlt3
 go_loopw [11,12] (fun v i wr=>∃j:Nat,j≤size∧i=.int .i64 (8 * ((size:Int)-1-(j:Int)))∧OwnB wr w.heap.size v (behL l mark n size j)∧Below w.heap.size w wr) (fun _ i _=>(intOf i+8).toNat)
 case atStart=>exact⟨0,Nat.zero_le _,by go_num,hown0,hbel3⟩
 case round =>
  clear hown0 hbel3
  obtain⟨j,hj,rfl,hown,hbel⟩:=hrel
  have HL4:Hid ((behL l mark n size j).length=len+1+j):=by unfold Hid;rw[behL_length,HE.out]
  by_cases hlt:j<size
  ·obtain⟨t,ht⟩:∃t:Nat,(size:Int)-1-(j:Int)=(t:Int):=⟨size-1-j,by omega⟩
   have HT:Hid ((size:Int)-1-(j:Int)=(t:Int)):=ht
   have ht8:t<8:=by omega
   have htj:size-1-j=t:=by omega
   have HV:Hid ((n:Int)/2 ^ (8 * t)%256=((beAt n size j).toNat:Int)):=by
    have:=beAt_val n size j
    unfold Hid;rw[←this,htj]
   have HVw:IntKind.u8.wrap ((n:Int)/2 ^ (8 * t))=((beAt n size j).toNat:Int):=by rw[wrap8_mod];exact HV.out
   have HO:Hid (behL l mark n size (j+1)=behL l mark n size j++[beAt n size j]):=behL_succ l mark n size j
   have HB:=hown.blk
   clear htj
   rw[ht]
   clear ht
   have h8:(8 * (t:Int)).toNat=8 * t:=by omega
   go_wp2_with (at_builtin;refine list_app8 _ rfl (.tmp 35) (.tmp 40) rfl w.heap.size _ (behL l mark n size j) rfl (hown.alloc _) wr.heap.size 1 1 [beAt n size j] rfl rfl (heap_alloc_new wr _) (by omega) (by rw[HL4.out];omega) (by have:=hbel.size;simp;omega) _ rfl ?_;intro g4 cap4 w4 hown4 hgrow4 hat4 hlt4)
   go_roundw
   case rel=>exact⟨j+1,by omega,by have:=HT.out;go_num,by rw[HO.out];exact hown4,(hbel.alloc hbel.size _).grown hgrow4 (by have:=hbel.size;simp;omega) (fun q hq=>(HB q hq).1)⟩
   case measure=>simp[intOf];omega
  ·have e:j=size:=by omega
   have hge:¬((0:Int)≤8 * ((size:Int)-1-(j:Int))):=by omega
   have HO:Hid (OwnB wr w.heap.size u11 (behL l mark n size size)):=by
    have:=hown
    rw[e] at this;exact this
   clear hown e
   go_wp2
   go_ret
   exact⟨_,rfl,HO.out,hbel⟩
end Go.Proofs.YtpecobmfabmpkaaGreatDoor
namespace Go.Proofs.YtpecobmfabmpkaaGreatDoor
open Go.RowKit
attribute [local go_sem ↓] Go.wp_at_zero Go.wp_at_succ
def uintL (l:List UInt8)(n:Nat):List UInt8:=behL l 117 n 8 8
def bytesL (l b:List UInt8):List UInt8:=behL l 98 b.length 4 4++b
def textL (l b:List UInt8):List UInt8:=behL l 115 b.length 4 4++b
def listL (l:List UInt8)(n:Int):List UInt8:=behL l 108 (if n<0∨2147483647<n then 0 else n.toNat) 4 4
theorem canUint (a:Option Addr)(len cap:Nat)(l:List UInt8)(n:Nat)(w:World)(h:IsB w a len cap l)(hl:len≤140737488351232):
  Calls Tryz.prog 125 #[.slice a len cap,.int .u64 (n:Int)] w fun e w'=>∃v,e=.returned v∧OwnB w' w.heap.size v (uintL l n)∧Below w.heap.size w w':=by
 have H:Hid (IsB w a len cap l):=h
 clear h
 go_enter Tryz.func125,Tryz.ntmps125
 go_wp2_with fail
 refine(canBehind a len cap l 117 n 8 0 w H.out (by omega) hl (by omega)).mono ?_
 rintro e w1 ⟨v,rfl,ho,hb⟩
 go_wp2_with fail
 go_ret
 exact⟨_,rfl,ho,hb⟩
theorem canList (a:Option Addr)(len cap:Nat)(l:List UInt8)(n:Int)(w:World)(h:IsB w a len cap l)(hl:len≤140737488351232):
  Calls Tryz.prog 127 #[.slice a len cap,.int .i64 n] w fun e w'=>∃v,e=.returned v∧OwnB w' w.heap.size v (listL l n)∧Below w.heap.size w w':=by
 have H:Hid (IsB w a len cap l):=h
 clear h
 by_cases h0:n<0
 ·go_enter Tryz.func127,Tryz.ntmps127
  go_wp2_with fail
  refine(canBehind a len cap l 108 0 4 0 w H.out (by omega) hl (by omega)).mono ?_
  rintro e w1 ⟨v,rfl,ho,hb⟩
  have e1:listL l n=behL l 108 0 4 4:=by unfold listL;rw[if_pos (.inl h0)]
  have HO:Hid (OwnB w1 w.heap.size v (listL l n)):=by rw[e1];exact ho
  clear ho e1
  go_wp2_with fail
  go_ret
  exact⟨_,rfl,HO.out,hb⟩
 ·by_cases h1:2147483647<n
  ·go_enter Tryz.func127,Tryz.ntmps127
   go_wp2_with fail
   refine(canBehind a len cap l 108 0 4 0 w H.out (by omega) hl (by omega)).mono ?_
   rintro e w1 ⟨v,rfl,ho,hb⟩
   have e1:listL l n=behL l 108 0 4 4:=by unfold listL;rw[if_pos (.inr h1)]
   have HO:Hid (OwnB w1 w.heap.size v (listL l n)):=by rw[e1];exact ho
   clear ho e1
   go_wp2_with fail
   go_ret
   exact⟨_,rfl,HO.out,hb⟩
  ·obtain⟨m,rfl⟩:∃m:Nat,n=(m:Int):=⟨n.toNat,by omega⟩
   have hm:(m:Int)≤2147483647:=by omega
   go_enter Tryz.func127,Tryz.ntmps127
   go_wp2_with fail
   refine(canBehind a len cap l 108 m 4 0 w H.out (by omega) hl (by omega)).mono ?_
   rintro e w1 ⟨v,rfl,ho,hb⟩
   have e1:listL l (m:Int)=behL l 108 m 4 4:=by unfold listL;rw[if_neg (by omega)];rfl
   have HO:Hid (OwnB w1 w.heap.size v (listL l (m:Int))):=by rw[e1];exact ho
   clear ho e1
   go_wp2_with fail
   go_ret
   exact⟨_,rfl,HO.out,hb⟩
theorem canBytes (a:Option Addr)(len cap:Nat)(l:List UInt8)(a1:Option Addr)(len1 cap1:Nat)(b:List UInt8)(w:World)(h:IsB w a len cap l)(h1:IsB w a1 len1 cap1 b)(hl:len≤1099511627776)(hl1:len1≤1099511627776):
  Calls Tryz.prog 130 #[.slice a len cap,.slice a1 len1 cap1] w fun e w'=>∃v,e=.returned v∧OwnB w' w.heap.size v (bytesL l b)∧Below w.heap.size w w':=by
 have H:Hid (IsB w a len cap l):=h
 have H1:Hid (IsB w a1 len1 cap1 b):=h1
 have HE:Hid (l.length=len):=h.len_eq
 have HE1:Hid (b.length=len1):=h1.len_eq
 clear h h1
 go_enter Tryz.func130,Tryz.ntmps130
 go_wp2_with fail
 refine(canBehind a len cap l 98 len1 4 len1 w H.out (by omega) (by omega) (by omega)).mono ?_
 rintro e w1 ⟨v,rfl,ho,hb⟩
 go_wp2_with (at_builtin;refine list_appS _ rfl (.tmp 11) (.tmp 12) rfl w.heap.size v (behL l 98 len1 4 4) rfl ho a1 len1 cap1 b rfl (H1.out.below hb rfl) (by rw[behL_length,HE.out];omega) hb.size ?_;intro v2 w2 ho2 hg2)
 go_ret
 refine⟨_,rfl,?_,grow_bel hb ho hg2⟩
 unfold bytesL;rw[HE1.out];exact ho2
theorem canText (a:Option Addr)(len cap:Nat)(l:List UInt8)(s:ByteArray)(w:World)(h:IsB w a len cap l)(hl:len≤1099511627776)(hl1:s.size≤1099511627776):
  Calls Tryz.prog 126 #[.slice a len cap,.string s] w fun e w'=>∃v,e=.returned v∧OwnB w' w.heap.size v (textL l (sL s))∧Below w.heap.size w w':=by
 have H:Hid (IsB w a len cap l):=h
 have HE:Hid (l.length=len):=h.len_eq
 have HE1:Hid ((sL s).length=s.size):=sL_length s
 clear h
 go_enter Tryz.func126,Tryz.ntmps126
 go_wp2_with fail
 refine(canBehind a len cap l 115 s.size 4 s.size w H.out (by omega) (by omega) (by omega)).mono ?_
 rintro e w1 ⟨v,rfl,ho,hb⟩
 go_wp2_with (at_builtin;refine list_appT _ rfl (.tmp 11) (.tmp 12) rfl w.heap.size v (behL l 115 s.size 4 4) rfl ho s rfl (by rw[behL_length,HE.out];omega) hb.size ?_;intro v2 w2 ho2 hg2)
 go_ret
 refine⟨_,rfl,?_,grow_bel hb ho hg2⟩
 unfold textL;rw[HE1.out];exact ho2
end Go.Proofs.YtpecobmfabmpkaaGreatDoor
namespace Go.Proofs.YtpecobmfabmpkaaGreatDoor
open Go.RowKit
attribute [local go_sem ↓] Go.wp_at_zero Go.wp_at_succ
def rcell (a:Option Addr)(len cap:Nat)(br:Bool):List Value:=[.slice a len cap,.int .u32 (flag br)]
theorem atLoad (B:Nat)(f:Bool)(w:World)(h:w.cell? ⟨B,1,none⟩=some (.int .u32 (flag f))):
  Calls Tryz.prog 85 #[.pointer (some ⟨B,1,none⟩)] w fun e w'=>e=.returned (.bool f)∧w'=w:=atLoadAt B 1 f w h
theorem atStore (B:Nat)(v:Value)(w:World)(h:w.cell? ⟨B,1,none⟩=some v)(hf:w.frozen? ⟨B,1,none⟩=false):
  Calls Tryz.prog 97 #[.pointer (some ⟨B,1,none⟩),.bool true] w fun e w'=>e=.returned (.tuple #[])∧w'=w.drew.setCell ⟨B,1,none⟩ (.int .u32 1):=atStoreAt B 1 true v w h hf
def IsR (w:World)(B:Nat)(l:List UInt8)(br:Bool):Prop :=
 ∃a cap,Blk w B 188 (rcell a l.length cap br)∧IsB w a l.length cap l∧∀x,a=some x→x.block<B
theorem gr_set (w:World)(B j:Nat)(v:Value):w.grownBy (w.setCell ⟨B,j,none⟩ v) (some B):=
 ⟨rfl,rfl,rfl,by simp[World.setCell],fun k _ hk=>Below.heap_setCell _ _ _ _ (fun e=>hk (by rw[e]))⟩
theorem gr_trans {w w1 w2:World}{o:Option Nat}(h:w.grownBy w1 o)(h1:w1.grownBy w2 o):w.grownBy w2 o:=h.trans h1
def markOf (l:List UInt8)(br:Bool):UInt8:=if br then 0 else nth l 0
theorem cmark (B:Nat)(l:List UInt8)(br:Bool)(w:World)(h:IsR w B l br):
  Calls Tryz.prog 163 #[.pointer (some ⟨B,0,none⟩)] w fun e w'=>e=.returned (.int .u8 ((markOf l br).toNat:Int))∧w'=w:=by
 obtain⟨a,cap,hb,hi,hne⟩:=h
 have c0:=hb.cell 0
 have c1:=hb.cell 1
 have HI:Hid (IsB w a l.length cap l):=hi
 clear hb hi hne
 simp only[rcell,gZ0,gZ1] at c0 c1
 generalize hn:l.length=n at *
 have HN:Hid (l.length=n):=hn
 clear hn
 cases br
 ·by_cases h0:n=0
  ·have hz:markOf l false=0:=by
    have:l=[]:=List.eq_nil_of_length_eq_zero (HN.out.trans h0)
    subst this;rfl
   have h0':((n:Int)==0)=true:=by simp[h0]
   rw[hz]
   clear h0 hz
   go_enter Tryz.func163,Tryz.ntmps163
   go_wp2_with fail
   refine(atLoad B false w c1).mono ?_
   rintro e w1 ⟨rfl,rfl⟩
   go_wp2_with fail
   go_ret
   exact⟨rfl,rfl⟩
  ·have hz:markOf l false=nth l 0:=rfl
   have h0':((n:Int)==0)=false:=by simp;omega
   rw[hz]
   clear hz
   obtain⟨b,off,rfl,hc⟩:=HI.out.cells (by omega)
   have g0:=hc 0 (by omega)
   rw[Nat.add_zero] at g0
   have hpos:(0:Int)<(n:Int):=by omega
   clear hc h0
   go_enter Tryz.func163,Tryz.ntmps163
   go_wp2_with fail
   refine(atLoad B false w c1).mono ?_
   rintro e w1 ⟨rfl,rfl⟩
   go_wp2_with fail
   go_ret
   exact⟨rfl,rfl⟩
 ·have hz:markOf l true=0:=rfl
  rw[hz]
  go_enter Tryz.func163,Tryz.ntmps163
  go_wp2_with fail
  refine(atLoad B true w c1).mono ?_
  rintro e w1 ⟨rfl,rfl⟩
  go_wp2_with fail
  go_ret
  exact⟨rfl,rfl⟩
theorem isR_fail {w:World}{B:Nat}{l:List UInt8}{br:Bool}(h:IsR w B l br):IsR (w.drew.setCell ⟨B,1,none⟩ (.int .u32 1)) B l true:=by
 obtain⟨a,cap,hb,hi,hne⟩:=h
 refine⟨a,cap,Blk.set (w:=w.drew) (cs:=rcell a l.length cap br) hb 1 (.int .u32 1),⟨hi.len_eq,hi.le,hi.max,hi.nil,fun hp=>?_⟩,hne⟩
 obtain⟨b,off,e,hc⟩:=hi.cells hp
 refine⟨b,off,e,fun i hl=>?_⟩
 rw[World.cell?_setCell_other _ _ _ _ (fun e'=>Nat.ne_of_lt (hne _ e) (by injection e' with e1;exact e1.symm))]
 exact hc i hl
theorem cfail (B:Nat)(l:List UInt8)(br:Bool)(w:World)(h:IsR w B l br):
  Calls Tryz.prog 124 #[.pointer (some ⟨B,0,none⟩)] w fun e w'=>e=.returned (.tuple #[])∧IsR w' B l true∧w.grownBy w' (some B):=by
 have H:Hid (IsR w B l br):=h
 obtain⟨a,cap,hb,hi,hne⟩:=h
 have c1:=hb.cell 1
 have f1:=hb.frozen 1
 clear hb hi hne
 simp only[rcell,gZ0,gZ1] at c1
 go_enter Tryz.func124,Tryz.ntmps124
 go_wp2_with fail
 refine(atStore B _ w c1 f1).mono ?_
 rintro e w1 ⟨rfl,rfl⟩
 go_wp2_with fail
 go_end0
 exact⟨rfl,isR_fail H.out,gr_trans (gr_set w B 1 (.int .u32 1)) ⟨rfl,rfl,rfl,Nat.le_refl _,fun _ _ _=>rfl⟩⟩
end Go.Proofs.YtpecobmfabmpkaaGreatDoor
namespace Go.Proofs.YtpecobmfabmpkaaGreatDoor
open Go.RowKit
def cutA (b off cap m:Nat):Option Addr:=some (if cap=m then ⟨b,off,none⟩ else ⟨b,off+m,none⟩)
theorem slB (b off r cap m:Nat)(hm:m≤r)(w:World):(Instr.slice 33 (.slice (some ⟨b,off,none⟩) r cap) (some (.int .i64 (m:Int))) none none).run Tryz.prog w=.ok (.slice (cutA b off cap m) (r-m) (cap-m)) w:=by
 have he:Tryz.prog.elem 33=5:=by kernel_rfl
 have hz:(sizeOf 5).run Tryz.prog w=.ok 1 w:=by
  obtain⟨i0,hi,hz0,hz1,hz2⟩:=info_parts info8
  simp[sizeOf,typeInfo,hi,hz1]
 rw[run_slice_l w 33 _ r cap (by rw[he];exact Tryz.underlying33) .i64 (m:Int) (by omega) (by omega),he,hz]
 simp only[Result.andThen,sliced,Int.toNat_natCast,Nat.mul_one,Option.map_some,Addr.add_lit,cutA]
 split<;>rfl
end Go.Proofs.YtpecobmfabmpkaaGreatDoor
