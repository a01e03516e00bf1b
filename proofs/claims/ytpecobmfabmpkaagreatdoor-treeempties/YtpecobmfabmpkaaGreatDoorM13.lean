/- PtD PtE PtF PtG PtH PtI -/
import Derived.Test.YtpecobmfabmpkaaGreatDoorM12
import Derived.Lib.BytesEntry
import Derived.Laws.Externs
import Derived.Deep.LoopGhost
set_option maxRecDepth 20000
set_option maxHeartbeats 4000000
namespace Go.Proofs.YtpecobmfabmpkaaGreatDoor
open Go.RowKit
theorem bytesOf_map (l:List UInt8):Lib.bytesOf (l.map fun b=>((b.toNat:Nat):Int))=l:=by
 unfold Lib.bytesOf
 rw[List.map_map]
 conv=>rhs;rw[←List.map_id l]
 refine List.map_congr_left (fun b _=>?_)
 simp
theorem load_isB {w:World}{a:Option Addr}{n c:Nat}{l:List UInt8}(h:IsB w a n c l):(Extern.Bytes.bytesOf (.slice a n c)).run Tryz.prog w=.ok ⟨l.toArray⟩ w:=by
 cases a with
 | none =>
  have h0:=h.nil rfl
  have h1:=h.le
  have h2:=h.len_eq
  have:l=[]:=List.eq_nil_of_length_eq_zero (by omega)
  subst this
  rfl
 | some ad =>
  by_cases hp:0<n
  ·obtain⟨b,off,e,hc⟩:=h.cells hp
   have e2:=Option.some.inj e
   subst e2
   have hl:=Lib.run_loadBytesX (P:=Tryz.prog) w (l.map fun b=>((b.toNat:Nat):Int)) ⟨b,off,none⟩ .empty (fun j x hj=>by
    rw[List.getElem?_map] at hj
    obtain⟨y,hy,rfl⟩:=Option.map_eq_some_iff.1 hj
    have hjl:j<l.length:=(List.getElem?_eq_some_iff.1 hy).1
    rw[Addr.add_lit,hc j (by rw[←h.len_eq];exact hjl)]
    unfold nth
    rw[List.getD_eq_getElem?_getD,hy]
    rfl)
   rw[List.length_map,h.len_eq,bytesOf_map] at hl
   refine hl.trans ?_
   congr 1
   apply ByteArray.ext
   show (#[]:Array UInt8)++l.toArray=l.toArray
   simp
  ·have h2:=h.len_eq
   have h3:n=0:=by omega
   have:l=[]:=List.eq_nil_of_length_eq_zero (by omega)
   subst this h3
   rfl
theorem run_cmpB (w:World){a1 a2:Option Addr}{n1 c1 n2 c2:Nat}{l m:List UInt8}(h1:IsB w a1 n1 c1 l)(h2:IsB w a2 n2 c2 m):
  (callFunc 156 #[.slice a1 n1 c1,.slice a2 n2 c2]).run Tryz.prog w=.ok (.value (.int .i64 (Lib.compareBytes l m))) w:=by
 rw[run_callFunc_extern (P:=Tryz.prog) (e:=Extern.BytealgCompare.compare) Tryz.func156 (by kernel_rfl) (by kernel_rfl) (by kernel_rfl) (by kernel_rfl)]
 have hs:(Extern.BytealgCompare.compare #[.slice a1 n1 c1,.slice a2 n2 c2]).run Tryz.prog w=.ok (.int .i64 (Lib.compareBytes l m)) w:=by
  change Sem.run Tryz.prog (do pure (goInt (Extern.BytealgCompare.cmp (←Extern.Bytes.bytesOf (.slice a1 n1 c1)) (←Extern.Bytes.bytesOf (.slice a2 n2 c2))))) w=_
  simp only[Sem.run_bind,Sem.run_pure,load_isB h1,load_isB h2,Result.andThen]
  rw[Lib.cmp_eq]
  rfl
 rw[hs]
 rfl
theorem codCompare (a1 a2:Option Addr)(n1 n2 c1 c2:Nat)(l m:List UInt8)(w:World)(h1:IsB w a1 n1 c1 l)(h2:IsB w a2 n2 c2 m):
  Calls Tryz.prog 111 #[.slice a1 n1 c1,.slice a2 n2 c2] w fun e w'=>e=.returned (.int .i64 (Lib.compareBytes l m))∧w'=w:=by
 have hr:=run_cmpB w h1 h2
 clear h1 h2
 generalize Lib.compareBytes l m=z at *
 go_enter Tryz.func111,Tryz.ntmps111
 go_wp2
 go_ret
 exact⟨rfl,rfl⟩
theorem cb_lt (x y:List UInt8):Lib.compareBytes x y<0↔Op.bytesLess x y=true:=by
 induction x generalizing y with
 | nil=>cases y<;>simp[Lib.compareBytes,Op.bytesLess]
 | cons a x ih =>
  cases y with
  | nil=>simp[Lib.compareBytes,Op.bytesLess]
  | cons b y =>
   rw[Lib.compareBytes,lt_cons,Bool.or_eq_true,decide_eq_true_eq,Bool.and_eq_true,beq_iff_eq]
   by_cases h:a<b
   ·simp[h]
   ·rw[if_neg h]
    by_cases h2:b<a
    ·rw[if_pos h2]
     have h3:¬a=b:=fun e=>by subst e;exact h h2
     simp[h,h3]
    ·rw[if_neg h2,ih]
     have e:a=b:=by
      have h3:¬a.toNat<b.toNat:=fun h'=>h (UInt8.lt_iff_toNat_lt.2 h')
      have h4:¬b.toNat<a.toNat:=fun h'=>h2 (UInt8.lt_iff_toNat_lt.2 h')
      exact UInt8.toNat_inj.1 (by omega)
     subst e
     simp[h]
theorem cb_swap (x y:List UInt8):0<Lib.compareBytes x y↔Lib.compareBytes y x<0:=by
 induction x generalizing y with
 | nil=>cases y<;>simp[Lib.compareBytes]
 | cons a x ih =>
  cases y with
  | nil=>simp[Lib.compareBytes]
  | cons b y =>
   rw[Lib.compareBytes,Lib.compareBytes]
   by_cases h:a<b
   ·have h2:¬b<a:=fun h'=>UInt8.lt_irrefl _ (UInt8.lt_trans h h')
    simp[h,h2]
   ·by_cases h2:b<a
    ·simp[h,h2]
    ·simp[h,h2,ih]
theorem cb_gt (x y:List UInt8):0<Lib.compareBytes x y↔Op.bytesLess y x=true:=(cb_swap x y).trans (cb_lt y x)
theorem cb_eq (x y:List UInt8):Lib.compareBytes x y=0↔x=y:=by
 constructor
 ·intro h
  rcases lt_tot x y with h1|h1|h1
  ·have:=(cb_lt x y).2 h1;omega
  ·exact h1
  ·have:=(cb_gt x y).2 h1;omega
 ·rintro rfl
  have h1:¬Lib.compareBytes x x<0:=fun h=>by have:=(cb_lt x x).1 h;rw[lt_irr] at this;cases this
  have h2:¬0<Lib.compareBytes x x:=fun h=>by have:=(cb_gt x x).1 h;rw[lt_irr] at this;cases this
  omega
variable {fl:Nat}
theorem codFind1 (x:Eq3)(b:Option Addr)(m d:Nat)(key:List UInt8)(w:World)(hx:EtQ fl w x.1 x.2)(hb:IsB w b m d key):
  Calls Tryz.prog 114 #[.agg #[.slice x.2.a x.1.k.length x.2.c,.slice x.2.b x.1.v.length x.2.d],.slice b m d] w fun e w'=>e=.returned (.int .i64 (Lib.compareBytes x.1.k key))∧Below w.heap.size w w':=by
 have hY:Below w.heap.size w (w.alloc (.cells #[.slice x.2.a x.1.k.length x.2.c,.slice x.2.b x.1.v.length x.2.d] 64)):=(Below.refl _ w).alloc (Nat.le_refl _) _
 have kb:=Blk.new w 64 [.slice x.2.a x.1.k.length x.2.c,.slice x.2.b x.1.v.length x.2.d]
 have c0:=kb.cell 0
 simp only[List.getElem?_cons_zero] at c0
 have HC:=codCompare x.2.a b x.1.k.length m x.2.c d x.1.k key _ (hx.is.below hY).k (hb.below hY rfl)
 have HY:=mkHid hY
 clear kb hY hx hb
 generalize Lib.compareBytes x.1.k key=z at *
 generalize x.1.k.length=n1 at *
 generalize x.1.v.length=n2 at *
 generalize x.2.a=qa at *
 generalize x.2.b=qb at *
 generalize x.2.c=qc at *
 generalize x.2.d=qd at *
 go_enter Tryz.func114,Tryz.ntmps114
 go_wp2_with (go_at_call 111;refine HC.mono ?_;rintro e y1 ⟨rfl,hw1⟩;rw[hw1];clear hw1)
 go_ret
 exact⟨rfl,HY.out⟩
theorem getD_map (L:List Eq3)(k:Nat)(x:Eq3)(h:L[k]?=some x):(L.map Prod.fst).getD k et0=x.1:=by rw[List.getD_eq_getElem?_getD,List.getElem?_map,h];rfl
theorem srt_at {l:List Et}(h:SrtE l){i k:Nat}(hi:i<k)(hk:k<l.length):Op.bytesLess (l.getD i et0).k (l.getD k et0).k=true:=by
 have h1:=List.pairwise_iff_getElem.1 h i k (by omega) hk hi
 rw[List.getD_eq_getElem?_getD,List.getD_eq_getElem?_getD,List.getElem?_eq_getElem hk,List.getElem?_eq_getElem (by omega)]
 exact h1
theorem codBsf (ve:Value)(L:List Eq3)(b:Option Addr)(m d:Nat)(key:List UInt8)(w:World)(hr:RdN fl w ve L)(hs:SrtE (L.map Prod.fst))(hb:IsB w b m d key)(hn:L.length≤1000):
  Calls Tryz.prog 113 #[ve,.slice b m d,.func (.func 114) #[] #[]] w fun e w'=>e=.returned (.tuple #[.int .i64 (atE (L.map Prod.fst) key:Int),.bool (hasE13 (L.map Prod.fst) key)])∧Below w.heap.size w w':=by
 obtain⟨a,cap,rfl,hc,_⟩:=hr.form
 have HR:Hid (∀W,Below w.heap.size w W→∀k,k<L.length→∃x g off,L[k]?=some x∧a=some ⟨g,off,none⟩∧W.cell? ⟨g,off+k * 2,none⟩=some (.slice x.2.a x.1.k.length x.2.c)∧W.cell? ⟨g,off+k * 2+1,none⟩=some (.slice x.2.b x.1.v.length x.2.d)∧Calls Tryz.prog 114 #[.agg #[.slice x.2.a x.1.k.length x.2.c,.slice x.2.b x.1.v.length x.2.d],.slice b m d] W fun e w'=>e=.returned (.int .i64 (Lib.compareBytes ((L.map Prod.fst).getD k et0).k key))∧Below W.heap.size W w'):=fun W hW k hk=>by
  have hx:L[k]?=some L[k]:=List.getElem?_eq_getElem hk
  obtain⟨_,_,g,off,e1,d0,d1,_⟩:=(hr.keep (KeepU.of_below hW)).at_ k _ hx
  refine⟨L[k],g,off,hx,e1,d0,d1,?_⟩
  rw[getD_map L k _ hx]
  exact codFind1 _ b m d key W (((hr.keep (KeepU.of_below hW)).is) _ (List.getElem_mem hk)) (hb.below hW rfl)
 have HU:Hid (∀k,k≤L.length→(∀t,t<k→Lib.compareBytes ((L.map Prod.fst).getD t et0).k key<0)→(∀t,k≤t→t<L.length→0≤Lib.compareBytes ((L.map Prod.fst).getD t et0).k key)→k=atE (L.map Prod.fst) key):=fun k hk h1 h2=>atE_uniq (by rw[List.length_map];exact hk) (fun i hi=>(cb_lt _ _).1 (h1 i hi)) (fun hi=>by
  rw[List.length_map] at hi
  have:=h2 k (Nat.le_refl _) hi
  exact Bool.eq_false_iff.2 (fun h=>by have:=(cb_lt _ _).2 h;omega))
 have HH:Hid (∀k,k=atE (L.map Prod.fst) key→hasE13 (L.map Prod.fst) key=(decide (k<L.length)&&decide (Lib.compareBytes ((L.map Prod.fst).getD k et0).k key=0))):=fun k hk=>by
  unfold hasE13 isE
  rw[←hk,List.length_map]
  congr 1
  rw[Bool.eq_iff_iff,decide_eq_true_eq,cb_eq,beq_iff_eq]
 have HM1:Hid (∀i k,i<k→k<L.length→Lib.compareBytes ((L.map Prod.fst).getD k et0).k key<0→Lib.compareBytes ((L.map Prod.fst).getD i et0).k key<0):=fun i k h1 h2 h3=>by
  rw[cb_lt] at h3 ⊢
  exact lt_tr _ _ _ (srt_at hs h1 (by rw[List.length_map];exact h2)) h3
 generalize L.length=n at *
 generalize atE (L.map Prod.fst) key=A at *
 generalize hasE13 (L.map Prod.fst) key=Hh at *
 generalize hcf:(fun k=>Lib.compareBytes ((L.map Prod.fst).getD k et0).k key)=cf
 have hcf':∀k,Lib.compareBytes ((L.map Prod.fst).getD k et0).k key=cf k:=fun k=>by rw[←hcf]
 simp only[hcf'] at HR HU HH HM1
 clear hr hs hb hcf hcf'
 go_enter Tryz.func113,Tryz.ntmps113
 go_wp2
 go_loopg [9,10] n (fun kx s9 s10 wr=>∃lo hi:Nat,s9=.int .i64 (lo:Int)∧s10=.int .i64 (hi:Int)∧lo≤hi∧hi≤n∧hi-lo≤kx∧Hid (Below w.heap.size w wr)∧Hid (∀t,t<lo→cf t<0)∧Hid (∀t,hi≤t→t<n→0≤cf t))
 case atStart=>exact⟨0,n,rfl,rfl,Nat.zero_le _,Nat.le_refl _,by omega,Below.refl _ _,fun t ht=>absurd ht (Nat.not_lt_zero _),fun t h1 h2=>absurd h2 (by omega)⟩
 case round =>
  obtain⟨lo,hi,rfl,rfl,hlh,hin,hg,HB,HI,HJ⟩:=hrel
  by_cases hlt:lo<hi
  ·obtain⟨x,g,off,hx,hae,d0,d1,HC⟩:=HR.out wr HB.out ((lo+hi)/2) (by omega)
   subst hae
   clear hx
   generalize x.1.k.length=n1 at *
   generalize x.1.v.length=n2 at *
   generalize x.2.a=qa at *
   generalize x.2.b=qb at *
   generalize x.2.c=qc at *
   generalize x.2.d=qd at *
   generalize hcz:cf ((lo+hi)/2)=z at *
   have HCz:=mkHid hcz
   clear hcz
   by_cases hz:z<0
   ·go_wp2_with (go_at_call 114;refine HC.mono ?_;rintro e w' ⟨rfl,hb1⟩)
    go_roundg (hi-((lo+hi)/2+1))
    case measure=>omega
    case rel =>
     refine⟨(lo+hi)/2+1,hi,by rw[show ((lo:Int)+(hi:Int))/2+1=(((lo+hi)/2+1:Nat):Int) by omega],rfl,by omega,hin,Nat.le_refl _,HB.out.trans (hb1.mono HB.out.size),fun t ht=>?_,HJ⟩
     by_cases e:t=(lo+hi)/2
     ·rw[e,HCz.out];exact hz
     ·exact HM1.out t ((lo+hi)/2) (by omega) (by omega) (by rw[HCz.out];exact hz)
   ·go_wp2_with (go_at_call 114;refine HC.mono ?_;rintro e w' ⟨rfl,hb1⟩)
    go_roundg ((lo+hi)/2-lo)
    case measure=>omega
    case rel =>
     refine⟨lo,(lo+hi)/2,rfl,by rw[show ((lo:Int)+(hi:Int))/2=(((lo+hi)/2:Nat):Int) by omega],by omega,by omega,Nat.le_refl _,HB.out.trans (hb1.mono HB.out.size),HI,fun t h1 h2=>Int.not_lt.1 (fun h3=>?_)⟩
     by_cases e:t=(lo+hi)/2
     ·rw[e,HCz.out] at h3;omega
     ·have:=HM1.out ((lo+hi)/2) t (by omega) h2 h3
      rw[HCz.out] at this
      omega
  ·obtain rfl:hi=lo:=by omega
   have hA:=HU.out hi hin HI.out HJ.out
   have hH:=HH.out hi hA
   subst hA
   by_cases hn2:hi<n
   ·obtain⟨x,g,off,hx,hae,d0,d1,HC⟩:=HR.out wr HB.out hi hn2
    subst hae
    clear hx
    generalize x.1.k.length=n1 at *
    generalize x.1.v.length=n2 at *
    generalize x.2.a=qa at *
    generalize x.2.b=qb at *
    generalize x.2.c=qc at *
    generalize x.2.d=qd at *
    generalize hcz:cf hi=z at *
    have HHz:=mkHid hH
    clear hcz hH
    by_cases hz:z=0
    ·go_wp2_with (go_at_call 114;refine HC.mono ?_;rintro e w' ⟨rfl,hb1⟩)
     go_ret2
     exact⟨by rw[HHz.out];simp[hn2,hz],HB.out.trans (hb1.mono HB.out.size)⟩
    ·go_wp2_with (go_at_call 114;refine HC.mono ?_;rintro e w' ⟨rfl,hb1⟩)
     go_ret2
     exact⟨by rw[HHz.out];simp[hn2,hz],HB.out.trans (hb1.mono HB.out.size)⟩
   ·have HHz:=mkHid hH
    clear hH
    go_wp2
    go_ret2
    exact⟨by rw[HHz.out];simp[hn2],HB.out⟩
theorem codFind13 (at_:Int)(lv:Nat)(ve vk:Value)(L:List Eq3)(b:Option Addr)(m d:Nat)(key:List UInt8)(w:World)(hr:RdN fl w ve L)(hs:SrtE (L.map Prod.fst))(hb:IsB w b m d key)(hn:L.length≤1000):
  Calls Tryz.prog 74 #[.agg (pgc at_ lv ve vk).toArray,.slice b m d] w fun e w'=>e=.returned (.tuple #[.int .i64 (atE (L.map Prod.fst) key:Int),.bool (hasE13 (L.map Prod.fst) key)])∧Below w.heap.size w w':=by
 have hY:Below w.heap.size w (w.alloc (.cells (pgc at_ lv ve vk).toArray 133)):=(Below.refl _ w).alloc (Nat.le_refl _) _
 have kb:=Blk.new w 133 (pgc at_ lv ve vk)
 have HS:=codBsf ve L b m d key _ (hr.keep (KeepU.of_below hY)) hs (hb.below hY rfl) hn
 unfold pgc at *
 have c2:=kb.cell 2
 simp only[gZ0,gZ1] at c2
 have HY:=mkHid hY
 clear hr hs hb kb hY
 generalize atE (L.map Prod.fst) key=A at *
 generalize hasE13 (L.map Prod.fst) key=Hh at *
 go_enter Tryz.func74,Tryz.ntmps74
 go_wp2_with (go_at_call 113;refine HS.mono ?_;rintro e y1 ⟨rfl,hb1⟩)
 go_ret2
 exact⟨rfl,HY.out.trans (hb1.mono HY.out.size)⟩
end Go.Proofs.YtpecobmfabmpkaaGreatDoor
namespace Go.Proofs.YtpecobmfabmpkaaGreatDoor
open Go.RowKit
theorem zeros_app (a b:List UInt8):zerosL (a++b)=(zerosL a&&zerosL b):=by unfold zerosL;exact List.all_append
theorem drop_nth (l:List UInt8)(k:Nat)(hk:k<l.length):l.drop k=nth l k::l.drop (k+1):=by
 rw[List.drop_eq_getElem_cons hk];unfold nth;simp[hk]
theorem zeros_cons (b:UInt8)(l:List UInt8):zerosL (b::l)=(b==0&&zerosL l):=rfl
theorem codTrimR (a:Option Addr)(n c:Nat)(l:List UInt8)(w:World)(h:IsB w a n c l)(hn:n≤1000000):
  Calls Tryz.prog 172 #[.slice a n c,.int .u8 0] w fun e w'=>(∃k,e=.returned (.slice a k c)∧IsB w a k c (l.take k)∧k≤n∧zerosL l=zerosL (l.take k)∧(zerosL (l.take k)=true→k=0))∧w'=w:=by
 have hl:=h.len_eq
 have HI:Hid (∀k,k≤n→IsB w a k c (l.take k)):=fun k hk=>by
  by_cases h0:0<n
  ·obtain⟨b,off,e,_⟩:=h.cells h0
   subst e
   exact h.head k hk
  ·have:k=n:=by omega
   subst this
   rw[←hl,List.take_length,hl]
   exact h
 have HC:Hid (0<n→∃b off,a=some ⟨b,off,none⟩∧∀i,i<n→w.cell? ⟨b,off+i,none⟩=some (.int .u8 ((nth l i).toNat:Int))):=h.cells
 have hc:=h.le
 have hmx:=h.max
 unfold maxLen at hmx
 have HSn:Hid (∀k,k<n→zerosL (l.drop k)=(nth l k==0&&zerosL (l.drop (k+1)))):=fun k hk=>by rw[drop_nth l k (by omega),zeros_cons]
 have HSt:Hid (∀k,k<n→zerosL (l.take (k+1))=(zerosL (l.take k)&&nth l k==0)):=fun k hk=>by
  rw[List.take_succ_eq_append_getElem (by omega:k<l.length),zeros_app]
  congr 1
  unfold nth zerosL
  simp[show k<l.length by omega]
 have HSa:Hid (∀k,k≤n→zerosL (l.drop k)=true→zerosL l=zerosL (l.take k)):=fun k _ h1=>by
  conv=>lhs;rw[←List.take_append_drop k l]
  rw[zeros_app,h1,Bool.and_true]
 have HS0:Hid (zerosL (l.drop n)=true):=by unfold Hid;rw[List.drop_of_length_le (by omega)];rfl
 generalize (fun i=>nth l i)=f at *
 clear h
 go_enter Tryz.func172,Tryz.ntmps172
 go_wp2
 go_loopg [0] n (fun kx s0 wr=>∃k:Nat,s0=.slice a k c∧k≤n∧k≤kx∧wr=w∧Hid (zerosL (l.drop k)=true))
 case atStart=>exact⟨n,rfl,Nat.le_refl _,Nat.le_refl _,rfl,HS0⟩
 case round =>
  obtain⟨k,rfl,hk,hkx,rfl,HZ⟩:=hrel
  by_cases h0:0<k
  ·obtain⟨q,rfl⟩:∃q,k=q+1:=⟨k-1,by omega⟩
   obtain⟨b,off,e,hcs⟩:=HC.out (by omega)
   subst e
   have c0:=hcs q (by omega)
   have hq1:((q+1:Nat):Int)-1=(q:Int):=by omega
   have hsl:=fun W=>slH .i64 b off (q+1) c q (by omega) W
   have HDq:=HSn.out q (by omega)
   have HTq:=HSt.out q (by omega)
   clear hcs
   by_cases hz:nth l q=0
   ·have hz':((nth l q).toNat:Int)=0:=by rw[hz];rfl
    rw[hz'] at c0
    go_wp2_with fail
    go_roundg q
    case measure=>omega
    case rel=>exact⟨q,rfl,by omega,Nat.le_refl _,rfl,by unfold Hid;rw[HDq,hz,HZ.out];rfl⟩
   ·have hz':¬((nth l q).toNat:Int)=0:=fun e=>hz (UInt8.toNat_inj.1 (by simpa using e))
    go_wp2_with fail
    go_ret
    refine⟨⟨q+1,rfl,HI.out _ hk,hk,HSa.out _ hk HZ.out,fun h1=>?_⟩,rfl⟩
    rw[HTq,Bool.and_eq_true,beq_iff_eq] at h1
    exact absurd h1.2 hz
  ·have hk0:k=0:=by omega
   subst hk0
   go_wp2_with fail
   go_ret
   exact⟨⟨0,rfl,HI.out _ hk,hk,HSa.out _ hk HZ.out,fun _=>rfl⟩,rfl⟩
theorem codTrimL (a:Option Addr)(n c:Nat)(l:List UInt8)(w:World)(h:IsB w a n c l)(hn:n≤1000000):
  Calls Tryz.prog 171 #[.slice a n c,.int .u8 0] w fun e w'=>(∃a' n' c',e=.returned (.slice a' n' c')∧n'≤n∧(n'=0↔zerosL l=true))∧w'=w:=by
 have hl:=h.len_eq
 have HSa:Hid (∀k,zerosL (l.take k)=true→zerosL l=zerosL (l.drop k)):=fun k h1=>by
  conv=>lhs;rw[←List.take_append_drop k l]
  rw[zeros_app,h1,Bool.true_and]
 have HSn:Hid (∀k,k<n→zerosL (l.drop k)=(nth l k==0&&zerosL (l.drop (k+1)))):=fun k hk=>by rw[drop_nth l k (by omega),zeros_cons]
 have HSt:Hid (∀k,k<n→zerosL (l.take (k+1))=(zerosL (l.take k)&&nth l k==0)):=fun k hk=>by
  rw[List.take_succ_eq_append_getElem (by omega:k<l.length),zeros_app]
  congr 1
  unfold nth zerosL
  simp[show k<l.length by omega]
 have HSz:Hid (zerosL (l.drop n)=true):=by unfold Hid;rw[List.drop_of_length_le (by omega)];rfl
 have HN:Hid (∀k,nth (l.drop k) 0=nth l k):=fun k=>by unfold nth;rw[List.getD_eq_getElem?_getD,List.getElem?_drop,Nat.add_zero,←List.getD_eq_getElem?_getD]
 have HIb:Hid (IsB w a n c (l.drop 0)):=by unfold Hid;rw[List.drop_zero];exact h
 have hmx:=h.max
 unfold maxLen at hmx
 clear h
 go_enter Tryz.func171,Tryz.ntmps171
 go_wp2
 go_loopg [0] n (fun kx s0 wr=>∃(k:Nat) (a':Option Addr),s0=.slice a' (n-k) (c-k)∧k≤n∧n-k≤kx∧wr=w∧Hid (IsB w a' (n-k) (c-k) (l.drop k))∧Hid (zerosL (l.take k)=true))
 case atStart=>exact⟨0,a,by rw[Nat.sub_zero,Nat.sub_zero],Nat.zero_le _,by omega,rfl,by rw[Nat.sub_zero,Nat.sub_zero];exact HIb,rfl⟩
 case round =>
  obtain⟨k,a',rfl,hk,hkx,rfl,HI,HZ⟩:=hrel
  clear HIb
  by_cases h0:0<n-k
  ·obtain⟨b,off,e,hcs⟩:=HI.out.cells h0
   subst e
   have c0:=hcs 0 h0
   rw[Nat.add_zero,HN.out k] at c0
   have h0':(0:Int)<((n-k:Nat):Int):=by omega
   have hle:=HI.out.le
   have hsl:=fun W=>slB b off (n-k) (c-k) 1 (by omega) W
   have HDq:=HSn.out k (by omega)
   have HTq:=HSt.out k (by omega)
   have HCt:Hid (IsB wr (cutA b off (c-k) 1) (n-(k+1)) (c-(k+1)) (l.drop (k+1))):=by
    have:=HI.out.cut 1 (by omega)
    rw[List.drop_drop,Nat.sub_sub,Nat.sub_sub] at this
    exact this
   clear hcs
   by_cases hz:nth l k=0
   ·have hz':((nth l k).toNat:Int)=0:=by rw[hz];rfl
    rw[hz'] at c0
    simp only[Int.natCast_one] at hsl
    have HT2:Hid (zerosL (l.take (k+1))=true):=by unfold Hid;rw[HTq,HZ.out,hz];rfl
    rw[show n-k-1=n-(k+1) by omega,show c-k-1=c-(k+1) by omega] at hsl
    generalize cutA b off (c-k) 1=ct at *
    clear HDq HTq hz
    go_wp2_with fail
    go_roundg (n-(k+1))
    case measure=>omega
    case rel=>exact⟨k+1,ct,rfl,by omega,Nat.le_refl _,rfl,HCt,HT2⟩
   ·have hz':¬((nth l k).toNat:Int)=0:=fun e=>hz (UInt8.toNat_inj.1 (by simpa using e))
    have h1:¬((n-k:Nat):Int)=0:=by omega
    have HR:Hid (n-k=0↔zerosL l=true):=by
     unfold Hid
     rw[HSa.out k HZ.out,HDq]
     constructor
     ·intro h;omega
     ·intro h
      rw[Bool.and_eq_true,beq_iff_eq] at h
      exact absurd h.1 hz
    clear hsl HDq HTq HCt
    generalize hnk:n-k=r at *
    go_wp2_with fail
    go_ret
    exact⟨⟨_,r,_,rfl,by omega,HR.out⟩,rfl⟩
  ·have hk0:n-k=0:=by omega
   have hkn:k=n:=by omega
   have HR:Hid (zerosL l=true):=by unfold Hid;rw[HSa.out k HZ.out,hkn];exact HSz.out
   rw[hk0] at HI ⊢
   go_wp2_with fail
   go_ret
   exact⟨⟨none,0,0,rfl,Nat.zero_le _,⟨fun _=>HR.out,fun _=>rfl⟩⟩,rfl⟩
theorem zeros_nil:zerosL []=true:=rfl
theorem codTrim (a:Option Addr)(n c:Nat)(l:List UInt8)(w:World)(h:IsB w a n c l)(hn:n≤1000000):
  Calls Tryz.prog 143 #[.slice a n c,.string ⟨#[0]⟩] w fun e w'=>(∃a' n' c',e=.returned (.slice a' n' c')∧n'≤n∧(n'=0↔zerosL l=true))∧Below w.heap.size w w':=by
 by_cases h0:n=0
 ·have:l=[]:=List.eq_nil_of_length_eq_zero (by rw[h.len_eq];exact h0)
  subst this h0
  clear h
  go_enter Tryz.func143,Tryz.ntmps143
  go_wp2_with fail
  go_ret
  exact⟨⟨none,0,0,rfl,Nat.le_refl _,⟨fun _=>zeros_nil,fun _=>rfl⟩⟩,Below.refl _ _⟩
 ·have h0':¬(n:Int)=0:=by omega
  have HR:∀W,Below w.heap.size w W→Calls Tryz.prog 172 #[.slice a n c,.int .u8 0] W fun e w'=>(∃k,e=.returned (.slice a k c)∧IsB W a k c (l.take k)∧k≤n∧zerosL l=zerosL (l.take k)∧(zerosL (l.take k)=true→k=0))∧w'=W:=fun W hW=>codTrimR a n c l W (h.below hW rfl) hn
  have HB0:∀W,Below w.heap.size w W→Below w.heap.size w W:=fun W hW=>hW
  have HL:=fun W k (hI:IsB W a k c (l.take k)) (hk:k≤n)=>codTrimL a k c (l.take k) W hI (by omega)
  clear h
  generalize zerosL l=Z at *
  go_enter Tryz.func143,Tryz.ntmps143
  go_wp2_with fail
  go_region_held3 (fun w'=>Below w.heap.size w w')
   (first|exact(Below.refl _ w).drew|assumption)
   (first
    | (go_at_call 172;have hq0:=‹Below _ _ _›;refine(HR _ hq0).mono ?_;rintro e w8 ⟨⟨k8,rfl,hi8,hk8,hz8,hy8⟩,hw8⟩;rw[hw8] at *;clear hw8)
    | (go_at_call 171;refine(HL _ _ hi8 hk8).mono ?_;rintro e w9 ⟨⟨a9,n9,c9,rfl,hn9,hz9⟩,hw9⟩;rw[hw9] at *;clear hw9))
  all_goals
   have hq9:=‹Below _ _ _›
   go_wp2
   go_ret
   exact⟨⟨a9,n9,c9,rfl,by omega,by rw[hz8];exact hz9⟩,hq9⟩
variable {fl:Nat}
theorem ris_iff (l:List Et):risE l=true↔∀i,i+1<l.length→Op.bytesLess (l.getD i et0).k (l.getD (i+1) et0).k=true:=by
 induction l with
 | nil=>exact⟨fun _ i h=>absurd h (by simp),fun _=>rfl⟩
 | cons a l ih =>
  cases l with
  | nil=>exact⟨fun _ i h=>absurd h (by simp),fun _=>rfl⟩
  | cons b l =>
   rw[risE,Bool.and_eq_true,ih]
   constructor
   ·rintro⟨h1,h2⟩ i hi
    cases i with
    | zero=>exact h1
    | succ i=>exact h2 i (by simpa using hi)
   ·intro h
    exact⟨h 0 (by simp),fun i hi=>h (i+1) (by simpa using hi)⟩
def okAt (l:List Et)(i:Nat):Prop:=itemOk (l.getD i et0).k (l.getD i et0).v=true∧(0<i→Op.bytesLess (l.getD (i-1) et0).k (l.getD i et0).k=true)
theorem right_iff (l:List Et):rightE l=true↔(∀i,i<l.length→okAt l i)∧0<l.length:=by
 unfold rightE
 rw[Bool.and_eq_true,Bool.and_eq_true,decide_eq_true_eq,ris_iff,List.all_eq_true]
 constructor
 ·rintro⟨⟨h1,h2⟩,h3⟩
  refine⟨fun i hi=>⟨?_,fun h0=>?_⟩,h3⟩
  ·have:l.getD i et0=l[i]:=by simp[hi]
   rw[this]
   exact h1 _ (List.getElem_mem hi)
  ·have:=h2 (i-1) (by omega)
   rw[show i-1+1=i by omega] at this
   exact this
 ·rintro⟨h1,h2⟩
  refine⟨⟨fun e he=>?_,fun i hi=>?_⟩,h2⟩
  ·obtain⟨i,hi,rfl⟩:=List.getElem_of_mem he
   have:l.getD i et0=l[i]:=by simp[hi]
   have h3:=(h1 i hi).1
   rw[this] at h3
   exact h3
  ·exact(h1 (i+1) hi).2 (by omega)
theorem codRightUp (at_:Int)(lv:Nat)(ve:Value)(ka:Option Addr)(m kc:Nat)(w:World)(hl:0<lv):
  Calls Tryz.prog 142 #[.agg (pgc at_ lv ve (.slice ka m kc)).toArray] w fun e w'=>e=.returned (.bool (decide (1<m)))∧Below w.heap.size w w':=by
 have kb:=Blk.new w 133 (pgc at_ lv ve (.slice ka m kc))
 have hY:Below w.heap.size w (w.alloc (.cells (pgc at_ lv ve (.slice ka m kc)).toArray 133)):=(Below.refl _ w).alloc (Nat.le_refl _) _
 unfold pgc at *
 have c1:=kb.cell 1
 have c3:=kb.cell 3
 simp only[gZ0,gZ1] at c1 c3
 have HY:=mkHid hY
 have hl':(0:Int)<(lv:Int):=by omega
 clear kb hY
 by_cases hm:1<m
 ·have hm':(1:Int)<(m:Int):=by omega
  rw[decide_eq_true hm]
  go_enter Tryz.func142,Tryz.ntmps142
  go_wp2_with fail
  go_ret
  exact⟨by first|rfl|(simp;done)|(simp[hm'];done),HY.out⟩
 ·have hm':¬(1:Int)<(m:Int):=by omega
  rw[decide_eq_false hm]
  go_enter Tryz.func142,Tryz.ntmps142
  go_wp2_with fail
  go_ret
  exact⟨by first|rfl|(simp;done)|(simp[hm'];done),HY.out⟩
theorem ok_iff (l:List Et)(i:Nat)(x:Et)(hx:l.getD i et0=x):okAt l i↔((1≤x.k.length∧x.k.length≤100)∧x.k.length+x.v.length≤240)∧(0<i→Lib.compareBytes (l.getD (i-1) et0).k x.k<0):=by
 unfold okAt itemOk keyOk
 rw[hx,Bool.and_eq_true,decide_eq_true_eq,decide_eq_true_eq]
 refine and_congr_right fun _=>forall_congr' fun _=>?_
 rw[cb_lt]
theorem codRightLow (at_:Int)(ve vk:Value)(L:List Eq3)(w:World)(hr:RdN fl w ve L)(hn:L.length≤1000)(hz:∀x∈L,x.1.k.length≤1000∧x.1.v.length≤1000):
  Calls Tryz.prog 142 #[.agg (pgc at_ 0 ve vk).toArray] w fun e w'=>e=.returned (.bool (rightE (L.map Prod.fst)))∧Below w.heap.size w w':=by
 obtain⟨a,cap,rfl,hcap,_⟩:=hr.form
 have hY:Below w.heap.size w (w.alloc (.cells (pgc at_ 0 (.slice a L.length cap) vk).toArray 133)):=(Below.refl _ w).alloc (Nat.le_refl _) _
 have kb:=Blk.new w 133 (pgc at_ 0 (.slice a L.length cap) vk)
 have HE:Hid (∀W,Below w.heap.size w W→∀(k:Nat) (x:Eq3),L[k]?=some x→EtQ fl W x.1 x.2):=fun W hW k x hx=>(hr.keep (KeepU.of_below hW)).is x (List.mem_of_getElem? hx)
 have HR:Hid (∀W,Below w.heap.size w W→∀(k:Nat) (x:Eq3),L[k]?=some x→∃g off,a=some ⟨g,off,none⟩∧W.cell? ⟨g,off+k * 2,none⟩=some (.slice x.2.a x.1.k.length x.2.c)∧W.cell? ⟨g,off+k * 2+1,none⟩=some (.slice x.2.b x.1.v.length x.2.d)):=fun W hW k x hx=>by
  obtain⟨_,_,g,off,e1,d0,d1,_⟩:=(hr.keep (KeepU.of_below hW)).at_ k x hx
  exact⟨g,off,e1,d0,d1⟩
 have HZ:Hid (∀(k:Nat) (x:Eq3),L[k]?=some x→x.1.k.length≤1000∧x.1.v.length≤1000):=fun k x hx=>hz x (List.mem_of_getElem? hx)
 have HX:Hid (∀k,k<L.length→∃x,L[k]?=some x):=fun k hk=>⟨_,List.getElem?_eq_getElem hk⟩
 have HT:Hid ((∀i,i<L.length→okAt (L.map Prod.fst) i)→0<L.length→rightE (L.map Prod.fst)=true):=fun h1 h2=>(right_iff _).2 ⟨fun i hi=>h1 i (by simpa using hi),by simpa using h2⟩
 have HF:Hid (∀i,i<L.length→¬okAt (L.map Prod.fst) i→rightE (L.map Prod.fst)=false):=fun i hi h1=>Bool.eq_false_iff.2 (fun h=>h1 (((right_iff _).1 h).1 i (by simpa using hi)))
 have HF0:Hid (L.length=0→rightE (L.map Prod.fst)=false):=fun h0=>Bool.eq_false_iff.2 (fun h=>by have:=((right_iff _).1 h).2;rw[List.length_map] at this;omega)
 have HO:Hid (∀(k:Nat) (x:Eq3),L[k]?=some x→(okAt (L.map Prod.fst) k↔((1≤x.1.k.length∧x.1.k.length≤100)∧x.1.k.length+x.1.v.length≤240)∧(0<k→Lib.compareBytes ((L.map Prod.fst).getD (k-1) et0).k x.1.k<0))):=fun k x hx=>ok_iff _ k x.1 (getD_map L k x hx)
 have HG:Hid (∀(k:Nat) (x:Eq3),L[k]?=some x→(L.map Prod.fst).getD k et0=x.1):=fun k x hx=>getD_map L k x hx
 unfold pgc at *
 have c1:=kb.cell 1
 have c2:=kb.cell 2
 simp only[gZ0,gZ1] at c1 c2
 have HY:=mkHid hY
 have HKb:=mkHid kb
 clear hr hz kb hY
 generalize hes:L.map Prod.fst=es at *
 clear hes
 generalize L.length=n at *
 generalize rightE es=RR at *
 simp only[Int.natCast_zero] at *
 go_enter Tryz.func142,Tryz.ntmps142
 go_wp2_with fail
 clear c1 c2
 go_loopg [15] n (fun kx i wr=>∃(k:Nat),k≤n∧n-k≤kx∧i=.int .i64 (k:Int)∧Hid (∀i,i<k→okAt es i)∧Hid (Below w.heap.size w wr)∧Hid (Blk wr w.heap.size 133 [.int .i64 at_,.int .i64 0,.slice a n cap,vk]))
 case atStart=>exact⟨0,Nat.zero_le _,by omega,rfl,fun i hi=>absurd hi (Nat.not_lt_zero _),HY,HKb⟩
 case round =>
  obtain⟨k,hk,hkx,rfl,HD,HB,HK⟩:=hrel
  clear HY HKb
  have d2:wr.cell? ⟨w.heap.size,2,none⟩=some (.slice a n cap):=HK.out.cell 2
  by_cases hlt:k<n
  ·have hlt':(k:Int)<(n:Int):=by omega
   obtain⟨x,hx⟩:=HX.out k hlt
   obtain⟨g,off,hae,e0,e1⟩:=HR.out wr HB.out k x hx
   subst hae
   obtain⟨hz1,hz2⟩:=HZ.out k x hx
   have HOk:=mkHid (HO.out k x hx)
   have hA:Below wr.heap.size wr (wr.alloc (.cells #[.slice x.2.a x.1.k.length x.2.c,.slice x.2.b x.1.v.length x.2.d] 64)):=(Below.refl _ wr).alloc (Nat.le_refl _) _
   have HBA:=mkHid (HB.out.trans (hA.mono HB.out.size))
   have HKA:=mkHid (HK.out.on hA)
   have HX3:=mkHid (HE.out _ HBA.out k x hx)
   have hkb:=Blk.new wr 64 [.slice x.2.a x.1.k.length x.2.c,.slice x.2.b x.1.v.length x.2.d]
   have f0:=hkb.cell 0
   have f1:=hkb.cell 1
   simp only[gZ0,gZ1] at f0 f1
   have HIK:=codIsKey x.2.a x.1.k.length x.2.c
   have HII:=codIsItem x.2.a x.2.b x.1.k.length x.2.c x.1.v.length x.2.d
   clear hkb hA
   by_cases hkey:1≤x.1.k.length∧x.1.k.length≤100
   ·rw[decide_eq_true hkey] at HIK
    by_cases hit:x.1.k.length+x.1.v.length≤240
    ·rw[decide_eq_true hit] at HII
     by_cases hk0:0<k
     ·obtain⟨q,hkq⟩:∃q,k=q+1:=⟨k-1,by omega⟩
      have hq1:IntKind.i64.wrap ((k:Int)-1)=(q:Int):=by rw[show (k:Int)-1=(q:Int) by omega];exact wrapi64_in _ (by omega) (by omega)
      have hk0':(0:Int)<(k:Int):=by omega
      have hq0:(0:Int)≤(q:Int):=by omega
      obtain⟨y,hy⟩:=HX.out q (by omega)
      obtain⟨g2,off2,hae2,p0,p1⟩:=HR.out _ HBA.out q y hy
      have hae3:=Option.some.inj hae2
      injection hae3 with q1 q2 _
      subst q1 q2
      have HY3:=mkHid (HE.out _ HBA.out q y hy)
      have HGy:=HG.out q y hy
      have b2:(wr.alloc (.cells #[.slice x.2.a x.1.k.length x.2.c,.slice x.2.b x.1.v.length x.2.d] 64)).cell? ⟨w.heap.size,2,none⟩=some (.slice (some ⟨g,off,none⟩) n cap):=HKA.out.cell 2
      have HC:=codCompare y.2.a x.2.a y.1.k.length x.1.k.length y.2.c x.2.c y.1.k x.1.k _ (HY3.out.is.k.drewN 1) (HX3.out.is.k.drewN 1)
      have hqi:(q:Int)<(n:Int):=by omega
      have HOr:Hid (Lib.compareBytes y.1.k x.1.k<0→okAt es k):=fun h=>HOk.out.2 ⟨⟨hkey,hit⟩,fun _=>by rw[show k-1=q by omega,HGy];exact h⟩
      have HOn:Hid (¬Lib.compareBytes y.1.k x.1.k<0→¬okAt es k):=fun h1 h2=>h1 (by have:=(HOk.out.1 h2).2 (by omega);rw[show k-1=q by omega,HGy] at this;exact this)
      generalize Lib.compareBytes y.1.k x.1.k=z at *
      clear HOk HX3 HY3 hae2 HGy hx hy hkey hit hkq
      generalize x.1.k.length=n1 at *
      generalize x.1.v.length=n2 at *
      generalize x.2.a=qa at *
      generalize x.2.b=qb at *
      generalize x.2.c=qc at *
      generalize x.2.d=qd at *
      generalize y.1.k.length=m1 at *
      generalize y.1.v.length=m2 at *
      generalize y.2.a=ra at *
      generalize y.2.b=rb at *
      generalize y.2.c=rc at *
      generalize y.2.d=rd at *
      by_cases hzz:z<0
      ·have HO2:=HOr.out hzz
       have hzg:¬(0:Int)≤z:=by omega
       clear HOr HOn
       go_wp2_with (first|(go_at_call 39;refine(HIK _).mono ?_;rintro e w8 ⟨rfl,hw8⟩;rw[hw8];clear hw8)|(go_at_call 40;refine(HII _ (by omega)).mono ?_;rintro e w9 ⟨rfl,hw9⟩;rw[hw9];clear hw9))
       go_region_held3 (fun w'=>w'=(wr.alloc (.cells #[.slice qa n1 qc,.slice qb n2 qd] 64)).drew)
        (first|rfl|assumption|exact hw7)
        (first|(go_at_call 111;have hq9:=‹_=World.drew _›;rw[hq9];refine HC.mono ?_;rintro e w7 ⟨rfl,hw7⟩;clear hq9))
       all_goals
        go_wp2
        go_roundg (n-(k+1))
       all_goals first|omega|skip
       all_goals exact⟨k+1,by omega,Nat.le_refl _,by go_num,fun i hi=>by
         by_cases e:i=k
         ·rw[e];exact HO2
         ·exact HD.out i (by omega),HBA.out.drew,HKA.out⟩
      ·have hzg:(0:Int)≤z:=by omega
       have HRR:Hid (RR=false):=HF.out k hlt (HOn.out hzz)
       clear HOr HOn
       go_wp2_with (first|(go_at_call 39;refine(HIK _).mono ?_;rintro e w8 ⟨rfl,hw8⟩;rw[hw8];clear hw8)|(go_at_call 40;refine(HII _ (by omega)).mono ?_;rintro e w9 ⟨rfl,hw9⟩;rw[hw9];clear hw9))
       go_region_held3 (fun w'=>w'=(wr.alloc (.cells #[.slice qa n1 qc,.slice qb n2 qd] 64)).drew)
        (first|rfl|assumption|exact hw7)
        (first|(go_at_call 111;have hq9:=‹_=World.drew _›;rw[hq9];refine HC.mono ?_;rintro e w7 ⟨rfl,hw7⟩;clear hq9))
       all_goals
        go_wp2
        go_ret
        exact⟨by rw[HRR.out];rfl,HBA.out.drew⟩
     ·have hk0':¬(0:Int)<(k:Int):=by omega
      have HO2:Hid (okAt es k):=HOk.out.2 ⟨⟨hkey,hit⟩,fun h=>absurd h hk0⟩
      clear HOk HX3 hx hkey hit
      generalize x.1.k.length=n1 at *
      generalize x.1.v.length=n2 at *
      generalize x.2.a=qa at *
      generalize x.2.b=qb at *
      generalize x.2.c=qc at *
      generalize x.2.d=qd at *
      go_wp2_with (first|(go_at_call 39;refine(HIK _).mono ?_;rintro e w8 ⟨rfl,hw8⟩;rw[hw8];clear hw8)|(go_at_call 40;refine(HII _ (by omega)).mono ?_;rintro e w9 ⟨rfl,hw9⟩;rw[hw9];clear hw9))
      go_region
      all_goals
       go_wp2
       go_roundg (n-(k+1))
      all_goals first|omega|skip
      all_goals exact⟨k+1,by omega,Nat.le_refl _,by go_num,fun i hi=>by
        by_cases e:i=k
        ·rw[e];exact HO2.out
        ·exact HD.out i (by omega),HBA.out.drew,HKA.out⟩
    ·rw[decide_eq_false hit] at HII
     have HRR:Hid (RR=false):=HF.out k hlt (fun h=>hit (HOk.out.1 h).1.2)
     clear HOk HX3 hx hkey hit
     generalize x.1.k.length=n1 at *
     generalize x.1.v.length=n2 at *
     generalize x.2.a=qa at *
     generalize x.2.b=qb at *
     generalize x.2.c=qc at *
     generalize x.2.d=qd at *
     go_wp2_with (first|(go_at_call 39;refine(HIK _).mono ?_;rintro e w8 ⟨rfl,hw8⟩;rw[hw8];clear hw8)|(go_at_call 40;refine(HII _ (by omega)).mono ?_;rintro e w9 ⟨rfl,hw9⟩;rw[hw9];clear hw9))
     go_ret
     exact⟨by rw[HRR.out];rfl,HBA.out⟩
   ·rw[decide_eq_false hkey] at HIK
    have HRR:Hid (RR=false):=HF.out k hlt (fun h=>hkey (HOk.out.1 h).1.1)
    clear HOk HX3 hx hkey
    generalize x.1.k.length=n1 at *
    generalize x.1.v.length=n2 at *
    generalize x.2.a=qa at *
    generalize x.2.b=qb at *
    generalize x.2.c=qc at *
    generalize x.2.d=qd at *
    go_wp2_with (first|(go_at_call 39;refine(HIK _).mono ?_;rintro e w8 ⟨rfl,hw8⟩;rw[hw8];clear hw8)|(go_at_call 40;refine(HII _ (by omega)).mono ?_;rintro e w9 ⟨rfl,hw9⟩;rw[hw9];clear hw9))
    go_ret
    exact⟨by rw[HRR.out];rfl,HBA.out⟩
  ·have hlt':¬(k:Int)<(n:Int):=by omega
   have hkn:k=n:=by omega
   by_cases h0:0<n
   ·have h0':(0:Int)<(n:Int):=by omega
    have HRR:Hid (RR=true):=HT.out (fun i hi=>HD.out i (by omega)) h0
    clear hkn
    go_wp2_with fail
    go_ret
    exact⟨by rw[HRR.out];rfl,HB.out⟩
   ·have h0':¬(0:Int)<(n:Int):=by omega
    have HRR:Hid (RR=false):=HF0.out (by omega)
    clear hkn
    go_wp2_with fail
    go_ret
    exact⟨by rw[HRR.out];rfl,HB.out⟩
end Go.Proofs.YtpecobmfabmpkaaGreatDoor
namespace Go.Proofs.YtpecobmfabmpkaaGreatDoor
open Go.RowKit
def SB (w:World)(v:Value)(l:List UInt8):Prop:=∃g off c,v=.slice (some ⟨g,off,none⟩) l.length c∧∀W,KeepO UB w W→IsB W (some ⟨g,off,none⟩) l.length c l
theorem SB.keep {w w':World}{v:Value}{l:List UInt8}(h:SB w v l)(hk:KeepO UB w w'):SB w' v l:=by
 obtain⟨g,off,c,e,hi⟩:=h
 exact⟨g,off,c,e,fun W hW=>hi W (hk.trans hW)⟩
theorem SB.head {w:World}{v:Value}{l:List UInt8}(h:SB w v l)(n:Nat)(hn:n≤l.length):∃g off c,v=.slice (some ⟨g,off,none⟩) l.length c∧l.length≤c∧SB w (.slice (some ⟨g,off,none⟩) n c) (l.take n)∧SB w (.slice (cutA g off c n) (l.length-n) (c-n)) (l.drop n):=by
 obtain⟨g,off,c,e,hi⟩:=h
 have hl:(l.take n).length=n:=by rw[List.length_take];omega
 have hd:(l.drop n).length=l.length-n:=List.length_drop
 refine⟨g,off,c,e,(hi w (KeepO.refl _ _)).le,⟨g,off,c,by rw[hl],fun W hW=>by rw[hl];exact(hi W hW).head n hn⟩,?_⟩
 by_cases hc:c=n
 ·refine⟨g,off,c-n,by unfold cutA;rw[if_pos hc,hd],fun W hW=>?_⟩
  have:=(hi W hW).cut n hn
  unfold cutA at this
  rw[if_pos hc] at this
  rw[hd]
  exact this
 ·refine⟨g,off+n,c-n,by unfold cutA;rw[if_neg hc,hd],fun W hW=>?_⟩
  have:=(hi W hW).cut n hn
  unfold cutA at this
  rw[if_neg hc] at this
  rw[hd]
  exact this
theorem SB.isB {w:World}{v:Value}{l:List UInt8}(h:SB w v l):∃g off c,v=.slice (some ⟨g,off,none⟩) l.length c∧IsB w (some ⟨g,off,none⟩) l.length c l:=by
 obtain⟨g,off,c,e,hi⟩:=h
 exact⟨g,off,c,e,hi w (KeepO.refl _ _)⟩
theorem nextYes (B:Nat)(v:Value)(l:List UInt8)(n:Nat)(w w0:World)(hB:Blk w B 33 [v])(hs:SB w0 v l)(hnl:n≤l.length):
  Calls Tryz.prog 141 #[.int .i64 (n:Int),.pointer (some ⟨B,0,none⟩)] w fun e w'=>∃u v',e=.returned u∧SB w0 u (l.take n)∧SB w0 v' (l.drop n)∧w'=w.setCell ⟨B,0,none⟩ v':=by
 have c0:w.cell? ⟨B,0,none⟩=some v:=hB.cell 0
 have f0:=hB.frozen 0
 obtain⟨g,off,c,rfl,hc,h1,h2⟩:=hs.head n hnl
 have hnl':(n:Int)≤(l.length:Int):=by omega
 have hs1:=fun W=>slH .i64 g off l.length c n (by omega) W
 have hs2:=fun W=>slB g off l.length c n hnl W
 have HN:=needYes13 4
 have H1:=mkHid h1
 have H2:=mkHid h2
 clear h1 h2 hs hB
 generalize cutA g off c n=ca at *
 generalize l.length=r at *
 go_enter Tryz.func141,Tryz.ntmps141
 go_wp2_with (go_at_call 99;refine(HN _).mono ?_;rintro x w2 ⟨rfl,hww⟩;rw[hww];clear hww w2)
 go_ret
 exact⟨_,_,rfl,H1.out,H2.out,rfl⟩
theorem nextNo (B:Nat)(v:Value)(l:List UInt8)(n:Nat)(w w0:World)(hB:Blk w B 33 [v])(hs:SB w0 v l)(hnl:¬n≤l.length):
  Calls Tryz.prog 141 #[.int .i64 (n:Int),.pointer (some ⟨B,0,none⟩)] w fun e w'=>e=.panicked [{ v:=.iface 30 (.int .i64 4),recovered:=false }]∧w'=w:=by
 have c0:w.cell? ⟨B,0,none⟩=some v:=hB.cell 0
 obtain⟨g,off,c,rfl,_⟩:=hs
 have hnl':¬(n:Int)≤(l.length:Int):=by omega
 have HN:=needNo13 4
 clear hB
 generalize l.length=r at *
 go_enter Tryz.func141,Tryz.ntmps141
 go_wp2_with (go_at_call 99;refine(HN _).mono ?_;rintro x w2 ⟨rfl,hww⟩;rw[hww];clear hww w2)
 exact bp_panic ⟨rfl,rfl⟩
theorem pgSize:(Tryz.prog.info? 133).map (·.size)=some 4:=by kernel_rfl
theorem retPg {fn:Func}{p:Tmp}(h:fn.results=#[.cell p 133])(tmps:Array Value)(w:World)(g:Nat)(c0 c1 c2 c3:Value)(hp:tmps.getD p undef=.pointer (some ⟨g,0,none⟩))(hg:Blk w g 133 [c0,c1,c2,c3]):
  (results fn tmps).run Tryz.prog w=.ok (.agg #[c0,c1,c2,c3]) w :=
 results_cellrow h tmps w g 133 #[c0,c1,c2,c3] (0,0) _ hp hg Tryz.underlying133 rfl pgSize
theorem grown_set (w:World)(b i:Nat)(v:Value):w.grownBy (w.setCell ⟨b,i,none⟩ v) (some b):=
 ⟨rfl,rfl,rfl,by simp[World.setCell],fun k _ hk=>Below.heap_setCell _ _ _ _ (fun e=>hk (by simp[e]))⟩
structure PaAt (w wr:World)(v:Value)(r:List UInt8)(lv:Nat)(ve vk:Value)(L:List Eq3)(ks:List Int):Prop where
 b:Blk wr w.heap.size 33 [v]
 r:SB w v r
 res:Blk wr (w.heap.size+1) 133 [.int .i64 0,.int .i64 0,.slice none 0 0,.slice none 0 0]
 p:Blk wr (w.heap.size+2) 133 [.int .i64 0,.int .i64 (lv:Int),ve,vk]
 e:OwnN wr (w.heap.size+3) ve L
 k:OwnZ wr (w.heap.size+3) vk ks
 x:∀x∈L,EtP w x.1 x.2
 low:Below w.heap.size w wr
theorem PaAt.lt {w wr:World}{v:Value}{r:List UInt8}{lv:Nat}{ve vk:Value}{L:List Eq3}{ks:List Int}(h:PaAt w wr v r lv ve vk L ks):w.heap.size+3≤wr.heap.size:=h.p.lt
theorem PaAt.on {w wr wr':World}{v:Value}{r:List UInt8}{lv:Nat}{ve vk:Value}{L:List Eq3}{ks:List Int}(h:PaAt w wr v r lv ve vk L ks)(hb:Below wr.heap.size wr wr'):PaAt w wr' v r lv ve vk L ks :=
 ⟨h.b.on hb,h.r,h.res.on hb,h.p.on hb,h.e.on hb,own_keepO (us:=[3]) (KeepO.of_below hb) h.k (by decide),h.x,h.low.trans (hb.mono h.low.size)⟩
theorem PaAt.cut {w wr:World}{v v':Value}{r r':List UInt8}{lv:Nat}{ve vk:Value}{L:List Eq3}{ks:List Int}(h:PaAt w wr v r lv ve vk L ks)(hr:SB w v' r'):PaAt w (wr.setCell ⟨w.heap.size,0,none⟩ v') v' r' lv ve vk L ks:=by
 have hg:wr.grownBy (wr.setCell ⟨w.heap.size,0,none⟩ v') (some w.heap.size):=grown_set wr w.heap.size 0 v'
 refine⟨h.b.set 0 v',hr,h.res.other _ _ (by show w.heap.size+1≠w.heap.size;omega),h.p.other _ _ (by show w.heap.size+2≠w.heap.size;omega),World.ownsRow.kept h.e hg ?_,World.ownsRow.kept h.k hg ?_,h.x,h.low.setCell (Nat.le_refl _) _⟩
 ·cases hv:ve.ownBlock with
  | none=>exact .inl rfl
  | some k=>exact .inr (fun e=>by have:=(World.ownsRow.lt h.e k hv).1;have:=Option.some.inj e;omega)
 ·cases hv:vk.ownBlock with
  | none=>exact .inl rfl
  | some k=>exact .inr (fun e=>by have:=(World.ownsRow.lt h.k k hv).1;have:=Option.some.inj e;omega)
theorem grown_tr {a b c:World}{r:Option Nat}(h:a.grownBy b r)(k:b.grownBy c r):a.grownBy c r :=
 ⟨k.os.trans h.os,k.tape.trans h.tape,k.output.trans h.output,Nat.le_trans h.size k.size,fun i hi hne=>(k.block i (Nat.lt_of_lt_of_le hi h.size) hne).trans (h.block i hi hne)⟩
theorem grown4 (w:World)(B:Nat)(a b c d:Value):w.grownBy ((((w.setCell ⟨B,0,none⟩ a).setCell ⟨B,1,none⟩ b).setCell ⟨B,2,none⟩ c).setCell ⟨B,3,none⟩ d) (some B):=
 grown_tr (grown_tr (grown_tr (grown_set w B 0 a) (grown_set _ B 1 b)) (grown_set _ B 2 c)) (grown_set _ B 3 d)
theorem own_low {w:World}{base base' e size n:Nat}{v:Value}{xs:List Value}(h:w.ownsRow base e size v n xs)(hb:base'≤base):w.ownsRow base' e size v n xs:=by
 rcases h with⟨h1,h2|⟨g,cap,cur,h3,h4,h5⟩⟩
 ·exact⟨h1,.inl h2⟩
 ·exact⟨h1,.inr ⟨g,cap,cur,h3,Nat.le_trans hb h4,h5⟩⟩
theorem own_apart {w w':World}{base e size n B:Nat}{v:Value}{xs:List Value}(h:w.ownsRow base e size v n xs)(hg:w.grownBy w' (some B))(hB:B<base):w'.ownsRow base e size v n xs:=by
 refine World.ownsRow.kept h hg ?_
 cases hv:v.ownBlock with
 | none=>exact .inl rfl
 | some k=>exact .inr (fun e=>by have:=(World.ownsRow.lt h k hv).1;have:=Option.some.inj e;omega)
theorem PaAt.done {w wr wr':World}{v:Value}{r:List UInt8}{lv:Nat}{ve vk:Value}{L:List Eq3}{ks:List Int}(h:PaAt w wr v r lv ve vk L ks)(hg:wr.grownBy wr' (some (w.heap.size+1))):
  OwnN wr' w.heap.size ve L∧OwnZ wr' w.heap.size vk ks∧(∀x∈L,EtP wr' x.1 x.2)∧Below w.heap.size w wr':=by
 have hb:Below w.heap.size w wr':=h.low.grown hg h.low.size (fun k e=>by have:=Option.some.inj e;omega)
 exact⟨own_low (own_apart h.e hg (by omega)) (by omega),own_low (own_apart h.k hg (by omega)) (by omega),fun x hx=>(h.x x hx).keep (KeepO.of_below hb),hb⟩
theorem PaAt.app {w wr wr':World}{v:Value}{r:List UInt8}{lv:Nat}{ve vk ve':Value}{L:List Eq3}{ks:List Int}{x:Eq3}(h:PaAt w wr v r lv ve vk L ks)(ho:OwnN wr' (w.heap.size+3) ve' (L++[x]))(hg:wr.grownBy wr' ve.ownBlock)(hx:EtP w x.1 x.2):
  PaAt w (wr'.setCell ⟨w.heap.size+2,2,none⟩ ve') v r lv ve' vk (L++[x]) ks∧Blk wr' (w.heap.size+2) 133 [.int .i64 0,.int .i64 (lv:Int),ve,vk]:=by
 have hk:=KeepT.grownN h.e hg
 have hlt:∀k,ve.ownBlock=some k→w.heap.size+3≤k:=fun k e=>(World.ownsRow.lt h.e k e).1
 have hp:=hk.blk h.p (by decide)
 have hg2:=grown_set wr' (w.heap.size+2) 2 ve'
 refine⟨⟨(hk.blk h.b (by decide)).other _ _ (by show w.heap.size≠w.heap.size+2;omega),h.r,(hk.blk h.res (by decide)).other _ _ (by show w.heap.size+1≠w.heap.size+2;omega),hp.set 2 ve',World.ownsRow.kept ho hg2 ?_,?_,fun y hy=>?_,?_⟩,hp⟩
 ·cases hv:ve'.ownBlock with
  | none=>exact .inl rfl
  | some k=>exact .inr (fun e=>by have:=(World.ownsRow.lt ho k hv).1;have:=Option.some.inj e;omega)
 ·have hz:OwnZ wr' (w.heap.size+3) vk ks:=own_keepO (us:=[3]) (KeepO.ofT hk (by decide)) h.k (by decide)
  refine World.ownsRow.kept hz hg2 ?_
  cases hv:vk.ownBlock with
  | none=>exact .inl rfl
  | some k=>exact .inr (fun e=>by have:=(World.ownsRow.lt hz k hv).1;have:=Option.some.inj e;omega)
 ·rcases List.mem_append.1 hy with h1|h1
  ·exact h.x y h1
  ·rw[List.mem_singleton.1 h1];exact hx
 ·exact(h.low.grown hg h.low.size (fun k e=>by have:=hlt k e;omega)).setCell (p:=⟨w.heap.size+2,2,none⟩) (by show w.heap.size≤w.heap.size+2;omega) _
theorem PaAt.appK {w wr wr':World}{v:Value}{r:List UInt8}{lv:Nat}{ve vk vk':Value}{L:List Eq3}{ks:List Int}{z:Int}(h:PaAt w wr v r lv ve vk L ks)(ho:OwnZ wr' (w.heap.size+3) vk' (ks++[z]))(hg:wr.grownBy wr' vk.ownBlock):
  PaAt w (wr'.setCell ⟨w.heap.size+2,3,none⟩ vk') v r lv ve vk' L (ks++[z])∧Blk wr' (w.heap.size+2) 133 [.int .i64 0,.int .i64 (lv:Int),ve,vk]:=by
 have hk:=KeepT.grownZ h.k hg
 have hlt:∀k,vk.ownBlock=some k→w.heap.size+3≤k:=fun k e=>(World.ownsRow.lt h.k k e).1
 have hp:=hk.blk h.p (by decide)
 have hg2:=grown_set wr' (w.heap.size+2) 3 vk'
 refine⟨⟨(hk.blk h.b (by decide)).other _ _ (by show w.heap.size≠w.heap.size+2;omega),h.r,(hk.blk h.res (by decide)).other _ _ (by show w.heap.size+1≠w.heap.size+2;omega),hp.set 3 vk',?_,own_apart ho hg2 (by omega),h.x,?_⟩,hp⟩
 ·have hz:OwnN wr' (w.heap.size+3) ve L:=own_keepO (us:=[64]) (KeepO.ofT hk (by decide)) h.e (by decide)
  exact own_apart hz hg2 (by omega)
 ·exact(h.low.grown hg h.low.size (fun k e=>by have:=hlt k e;omega)).setCell (p:=⟨w.heap.size+2,3,none⟩) (by show w.heap.size≤w.heap.size+2;omega) _
end Go.Proofs.YtpecobmfabmpkaaGreatDoor
