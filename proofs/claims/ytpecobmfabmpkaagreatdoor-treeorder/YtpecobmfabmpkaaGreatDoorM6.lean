/- SpM SpN Pj5 Pj1 Pj2 Pj6 SpO Tr1 Tr0 Tp0 ResCell Bl0 Bl1 Bl5 Bl8 Tp1 -/
import Derived.Test.YtpecobmfabmpkaaGreatDoorM5
import Derived.Laws.ResultCell
import Derived.Laws.Rows
set_option maxRecDepth 20000
set_option maxHeartbeats 4000000
namespace Go.Proofs.YtpecobmfabmpkaaGreatDoor
section
open Go.RowKit
theorem flip_all:∀y:Fin 256,∀r:Fin 8,∀s:Fin 8,decide ((y.val ^^^ 2 ^ r.val)/2 ^ s.val%2=1)=(if s.val=r.val then !decide (y.val/2 ^ s.val%2=1) else decide (y.val/2 ^ s.val%2=1)):=by decide +kernel
theorem nth_setX (b:List UInt8)(q x:Nat)(y:UInt8)(h:q<b.length):nth (b.set q y) x=if q=x then y else nth b x:=by
 unfold nth
 rw[List.getD_eq_getElem?_getD,List.getElem?_set,List.getD_eq_getElem?_getD]
 by_cases e:q=x
 ·rw[if_pos e,if_pos h,if_pos e];rfl
 ·rw[if_neg e,if_neg e]
theorem flip_bit (b:List UInt8)(k x:Nat)(hk:k/8<b.length):bitN (flipL b k) x=if x=k then !bitN b k else bitN b x:=by
 unfold bitN flipL
 rw[nth_setX b _ _ _ hk]
 by_cases e:k/8=x/8
 ·rw[if_pos e]
  have hp:2 ^ (k%8)<256:=Nat.lt_of_lt_of_le (Nat.pow_lt_pow_right (by omega) (Nat.mod_lt k (by omega:8>0))) (by decide)
  have h1:(nth b (k/8) ^^^ UInt8.ofNat (2 ^ (k%8))).toNat=(nth b (k/8)).toNat ^^^ 2 ^ (k%8):=by
   rw[UInt8.toNat_xor,UInt8.toNat_ofNat',Nat.mod_eq_of_lt hp]
  rw[h1]
  have h2:=flip_all ⟨(nth b (k/8)).toNat,(nth b (k/8)).toNat_lt⟩ ⟨k%8,Nat.mod_lt _ (by omega)⟩ ⟨x%8,Nat.mod_lt _ (by omega)⟩
  simp only at h2
  rw[h2]
  by_cases hx:x=k
  ·subst hx;rw[if_pos rfl,if_pos rfl]
  ·rw[if_neg (by omega),if_neg hx,e]
 ·rw[if_neg e,if_neg (fun h=>e (by rw[h]))]
theorem find_put (l:Qs)(i:Nat)(b:List UInt8)(z:Int):Tl.find (putQ l i b) z=if z=(i:Int) then some b else Tl.find l z:=by
 unfold Tl.find
 induction l with
 | nil =>
  rw[putQ]
  by_cases e:z=(i:Int)
  ·subst e;simp
  ·rw[if_neg e]
   have h1:(((i:Int)==z):Bool)=false:=beq_eq_false_iff_ne.2 (fun h=>e h.symm)
   simp[List.find?,h1]
 | cons g l ih =>
  rw[putQ]
  split
  ·rename_i h1
   rw[List.find?_cons,List.find?_cons]
   by_cases e:(g.1:Int)=z
   ·have hb:(((g.1:Int)==z):Bool)=true:=by simp[e]
    rw[hb,if_neg (by omega)]
   ·have hb:(((g.1:Int)==z):Bool)=false:=beq_eq_false_iff_ne.2 e
    rw[hb]
    exact ih
  ·split
   ·rename_i h1 h2
    rw[List.find?_cons,List.find?_cons]
    by_cases e:z=(i:Int)
    ·have hb:(((i:Int)==z):Bool)=true:=by simp[e]
     simp only[hb,if_pos e]
     rfl
    ·have hb:(((i:Int)==z):Bool)=false:=beq_eq_false_iff_ne.2 (fun h=>e h.symm)
     have hb2:(((g.1:Int)==z):Bool)=false:=by rw[h2];exact hb
     simp only[hb,hb2,if_neg e]
   ·rw[List.find?_cons]
    by_cases e:z=(i:Int)
    ·have hb:(((i:Int)==z):Bool)=true:=by simp[e]
     simp only[hb,if_pos e]
     rfl
    ·have hb:(((i:Int)==z):Bool)=false:=beq_eq_false_iff_ne.2 (fun h=>e h.symm)
     simp only[hb,if_neg e]
theorem map_write {t:Tl}{j:Jl}{b:List UInt8}(hz:t.wrE j 49 b=0):mapL (t.write j 49 b) j=b:=by
 have h:Tl.find (t.write j 49 b).l 49=some b:=by
  unfold Tl.write
  rw[if_pos hz]
  show Tl.find (putQ t.l 49 b) 49=some b
  rw[find_put]
  exact if_pos rfl
 unfold mapL Tl.rdB
 rw[h]
theorem map_other {t:Tl}{j:Jl}{i:Int}{b:List UInt8}(hk:i≠49):mapL (t.write j i b) j=mapL t j:=by
 have h:Tl.find (t.write j i b).l 49=Tl.find t.l 49:=by
  unfold Tl.write
  split
  ·show Tl.find (putQ t.l i.toNat b) 49=_
   rw[find_put,if_neg (by omega)]
  ·rfl
 unfold mapL Tl.rdB
 rw[h]
theorem own_isB {W:World}{base n cap:Nat}{A:Option Addr}{l:List UInt8}(h:OwnB W base (.slice A n cap) l):IsB W A l.length cap l:=by
 obtain⟨a,c,e,hI⟩:=h.isB
 injection e with e1 e2 e3
 subst e1 e3
 exact hI
theorem tkGo_spec (b:List UInt8):∀(f i:Nat),(tkGo b f i=i+f∧∀x,i≤x→x<i+f→bitN b x=true)∨(i≤tkGo b f i∧tkGo b f i<i+f∧bitN b (tkGo b f i)=false):=by
 intro f
 induction f with
 | zero=>intro i;exact .inl ⟨rfl,fun x h1 h2=>by omega⟩
 | succ f ih =>
  intro i
  rw[tkGo]
  cases hb:bitN b i with
  | false=>rw[if_neg (by simp)];exact .inr ⟨Nat.le_refl _,by omega,hb⟩
  | true =>
   rw[if_pos rfl]
   rcases ih (i+1) with⟨h1,h2⟩|⟨h1,h2,h3⟩
   ·refine .inl ⟨by omega,fun x hx hy=>?_⟩
    by_cases e:x=i
    ·rw[e];exact hb
    ·exact h2 x (by omega) (by omega)
   ·exact .inr ⟨by omega,by omega,h3⟩
def lowN (L:List Int)(a:Int):Nat:=(L.filter fun z=>decide (z<a)).length
theorem low_step (L:List Int)(a:Int)(hn:L.Nodup):lowN L (a+1)=lowN L a+(if a∈L then 1 else 0):=by
 unfold lowN
 induction L with
 | nil=>simp
 | cons z L ih =>
  have hn':=List.nodup_cons.1 hn
  have ih':=ih hn'.2
  rw[List.filter_cons,List.filter_cons]
  by_cases e:z=a
  ·subst e
   rw[if_pos (decide_eq_true (by omega)),if_neg (by simp),List.length_cons,ih',if_neg hn'.1,if_pos (List.mem_cons_self ..)]
  ·have hm:(a∈z::L)=(a∈L):=propext ⟨fun h=>by rcases List.mem_cons.1 h with h|h;exact absurd h.symm e;exact h,fun h=>List.mem_cons_of_mem _ h⟩
   by_cases h:z<a
   ·rw[if_pos (decide_eq_true (by omega)),if_pos (decide_eq_true h),List.length_cons,List.length_cons,ih']
    simp only[hm]
    omega
   ·rw[if_neg (by simp;omega),if_neg (by simp;omega),ih']
    simp only[hm]
theorem write_l {t:Tl}{j:Jl}{i:Nat}{b:List UInt8}(hz:t.wrE j (i:Int) b=0):(t.write j (i:Int) b).l=putQ t.l i b:=by
 unfold Tl.write
 rw[if_pos hz]
 rfl
theorem zero_len:zero512.length=512:=by unfold zero512;exact List.length_replicate
def nthL (l:Qs)(i:Nat):Nat × List UInt8:=l.getD i (0,[])
structure IsIs (w:World)(a:Option Addr)(len cap:Nat)(l:Qs):Prop where
 len_eq:l.length=len
 cells:0<len→∃B off,a=some ⟨B,off,none⟩∧(∃c fz,w.heap[B]?=some (.cells c 3 fz))∧∀i,i<len→w.cell? ⟨B,off+i,none⟩=some (.int .i64 ((nthL l i).1:Int))
structure IsDt (w:World)(a:Option Addr)(len cap:Nat)(l:Qs):Prop where
 len_eq:l.length=len
 cells:0<len→∃B off,a=some ⟨B,off,none⟩∧(∃c fz,w.heap[B]?=some (.cells c 33 fz))∧∀i,i<len→(nthL l i).2.length=512∧∃g t,w.cell? ⟨B,off+i,none⟩=some (.slice (some ⟨g,0,none⟩) 512 512)∧Blk w g t (bv (nthL l i).2)∧t∈[5,152]
abbrev DT:List TypeId:=[3,33,5,152]
theorem cell_keep {w w':World}{B t o:Nat}{c:Array Value}{fz:Nat × Nat}(hb:w.heap[B]?=some (.cells c t fz)){ts:List TypeId}(hk:KeepT ts w w')(ht:t∉ts):w'.cell? ⟨B,o,none⟩=w.cell? ⟨B,o,none⟩∧w'.heap[B]?=some (.cells c t fz):=by
 have:=hk.same B _ hb (fun c' t' fz' e=>by injection e with _ h2 _;rw[←h2];exact ht)
 refine⟨?_,this⟩
 unfold World.cell?
 rw[this,hb]
theorem IsIs.keep {w w':World}{a:Option Addr}{len cap:Nat}{l:Qs}(h:IsIs w a len cap l){ts:List TypeId}(hk:KeepT ts w w')(ht:∀t∈DT,t∉ts):IsIs w' a len cap l :=
 ⟨h.len_eq,fun hp=>by
  obtain⟨B,off,e,⟨c,fz,hb⟩,hc⟩:=h.cells hp
  have h1:=ht 3 (by simp)
  exact⟨B,off,e,⟨c,fz,(cell_keep (o:=0) hb hk h1).2⟩,fun i hi=>(cell_keep hb hk h1).1.trans (hc i hi)⟩⟩
theorem IsDt.keep {w w':World}{a:Option Addr}{len cap:Nat}{l:Qs}(h:IsDt w a len cap l){ts:List TypeId}(hk:KeepT ts w w')(ht:∀t∈DT,t∉ts):IsDt w' a len cap l :=
 ⟨h.len_eq,fun hp=>by
  obtain⟨B,off,e,⟨c,fz,hb⟩,hc⟩:=h.cells hp
  have h1:=ht 33 (by simp)
  refine⟨B,off,e,⟨c,fz,(cell_keep (o:=0) hb hk h1).2⟩,fun i hi=>?_⟩
  obtain⟨h5,g,t,h6,h7,h8⟩:=hc i hi
  refine⟨h5,g,t,(cell_keep hb hk h1).1.trans h6,hk.blk h7 (ht t ?_),h8⟩
  rcases List.mem_cons.1 h8 with rfl|h9
  ·simp
  ·rw[List.mem_singleton.1 h9];simp⟩
theorem IsIs.on {w w':World}{a:Option Addr}{len cap:Nat}{l:Qs}(h:IsIs w a len cap l)(hb:Below w.heap.size w w'):IsIs w' a len cap l:=h.keep (ts:=[]) (KeepT.of_below hb) (by simp)
theorem IsDt.on {w w':World}{a:Option Addr}{len cap:Nat}{l:Qs}(h:IsDt w a len cap l)(hb:Below w.heap.size w w'):IsDt w' a len cap l:=h.keep (ts:=[]) (KeepT.of_below hb) (by simp)
theorem blk_isB {w:World}{g t:Nat}{b:List UInt8}(h:Blk w g t (bv b))(hb:b.length=512):IsB w (some ⟨g,0,none⟩) 512 512 b :=
 ⟨hb,Nat.le_refl _,by decide,fun e=>(by cases e),fun _=>⟨g,0,rfl,fun i hi=>by rw[h.cell,Nat.zero_add,bv_at b i (by omega)]⟩⟩
theorem codPut (P base m:Nat)(p:Pl)(l:Qs)(pa da:Option Addr)(n pc dc:Nat)(w:World)(h:IsD0 w P base p)(hf:FewM p m)(hm:m+n≤90000)(hp:IsIs w pa n pc l)(hd:IsDt w da n dc l):
  Calls Tryz.prog 60 #[.pointer (some ⟨P,0,none⟩),.slice pa n pc,.slice da n dc] w fun e w'=>e=.returned (.int .i64 (stepsE p l))∧IsD0 w' P base (stepsP p l)∧KeepT PD w w'∧Below base w w':=by
 have HI0:=mkHid h
 have HF0:=mkHid hf
 have HP:=mkHid hp
 have HD:=mkHid hd
 have HN:=mkHid hp.len_eq
 clear h hf hp hd
 go_enter Tryz.func60,Tryz.ntmps60
 go_wp2_with fail
 go_loopw [12] (fun i wr=>∃(k:Nat) (pk:Pl),k≤n∧i=.int .i64 (k:Int)∧Hid (IsD0 wr P base pk)∧Hid (FewM pk (m+k))∧Hid (stepsP p l=stepsP pk (l.drop k)∧stepsE p l=stepsE pk (l.drop k))∧Hid (KeepT PD w wr)∧Hid (Below base w wr)) (fun i _=>n-(Go.RowKit.intOf i).toNat)
 case atStart=>exact⟨0,p,Nat.zero_le _,rfl,HI0,HF0,⟨by rw[List.drop_zero],by rw[List.drop_zero]⟩,KeepT.refl _ _,Below.refl _ _⟩
 case round =>
  obtain⟨k,pk,hk,rfl,HI,HF,HS,HT,HB⟩:=hrel
  by_cases hlt:k<n
  ·obtain⟨B1,o1,rfl,⟨_,_,_⟩,hc1⟩:=(HP.out.keep HT.out (by decide)).cells (by omega)
   obtain⟨B2,o2,rfl,⟨_,_,_⟩,hc2⟩:=(HD.out.keep HT.out (by decide)).cells (by omega)
   have c1:=hc1 k hlt
   obtain⟨h512,g,ty,c2,hbk,hty⟩:=hc2 k hlt
   have hlt':(k:Int)<(n:Int):=by omega
   have hk0:(0:Int)≤(k:Int):=by omega
   have HDr:Hid (l.drop k=nthL l k::l.drop (k+1)):=drop_cons _ k (by rw[HN.out];exact hlt)
   rw[HDr.out] at HS
   have HTy:Hid (ty∉PD):=by
    unfold Hid
    rcases List.mem_cons.1 hty with rfl|h9
    ·decide
    ·rw[List.mem_singleton.1 h9];decide
   have HWr:=writeT (fun _=>False) wr P base pk ((nthL l k).1:Int) (some ⟨g,0,none⟩) 512 (nthL l k).2 HI.out (HF.out.few (by omega)) (fun W hW _=>by rw[h512];exact blk_isB (hW.blk hbk HTy.out) h512)
   rw[h512] at HWr
   have HFn:Hid (FewM (pk.write ((nthL l k).1:Int) (nthL l k).2) (m+(k+1))):=HF.out.write _ _
   have HSy:Hid (pk.wrE ((nthL l k).1:Int) (nthL l k).2=0→stepsP p l=stepsP (pk.write ((nthL l k).1:Int) (nthL l k).2) (l.drop (k+1))∧stepsE p l=stepsE (pk.write ((nthL l k).1:Int) (nthL l k).2) (l.drop (k+1))):=fun hz0=>by
    have:=HS.out
    simp only[stepsP,stepsE,hz0,if_true] at this
    exact this
   have HSn:Hid (¬pk.wrE ((nthL l k).1:Int) (nthL l k).2=0→stepsP p l=pk.write ((nthL l k).1:Int) (nthL l k).2∧stepsE p l=pk.wrE ((nthL l k).1:Int) (nthL l k).2):=fun hz0=>by
    have:=HS.out
    simp only[stepsP,stepsE,hz0,if_false] at this
    exact this
   clear hc1 hc2 hbk hty h512 HTy HDr HS
   generalize (nthL l k).1=ak at *
   generalize (nthL l k).2=bb at *
   cases hz:decide (pk.wrE (ak:Int) bb=0) with
   | true =>
    have hz0:pk.wrE (ak:Int) bb=0:=of_decide_eq_true hz
    have HS2:Hid (stepsP p l=stepsP (pk.write (ak:Int) bb) (l.drop (k+1))∧stepsE p l=stepsE (pk.write (ak:Int) bb) (l.drop (k+1))):=HSy.out hz0
    rw[hz0] at HWr
    clear HSy HSn hz hz0
    go_wp2_with fail
    refine HWr.mono ?_
    rintro e x1 ⟨rfl,hi1,ht1,_,hb1⟩
    have HI1:=mkHid hi1
    have HT1:=mkHid (HT.out.trans ht1)
    have HB1:=mkHid (HB.out.trans hb1)
    clear hi1 ht1 hb1
    go_wp2_with fail
    go_roundw
    case rel=>exact⟨k+1,pk.write (ak:Int) bb,by omega,by go_num,HI1,HFn,HS2,HT1,HB1⟩
    case measure=>simp[Go.RowKit.intOf];omega
   | false =>
    have hz0:¬pk.wrE (ak:Int) bb=0:=of_decide_eq_false hz
    have HS2:Hid (stepsP p l=pk.write (ak:Int) bb∧stepsE p l=pk.wrE (ak:Int) bb):=HSn.out hz0
    clear HSy HSn hz
    generalize pk.wrE (ak:Int) bb=z at *
    have hzb:(z==0)=false:=by rw[beq_eq_false_iff_ne];exact hz0
    go_wp2_with fail
    refine HWr.mono ?_
    rintro e x1 ⟨rfl,hi1,ht1,_,hb1⟩
    have HI1:=mkHid hi1
    have HT1:=mkHid (HT.out.trans ht1)
    have HB1:=mkHid (HB.out.trans hb1)
    clear hi1 ht1 hb1
    go_wp2_with fail
    go_ret
    refine⟨by rw[HS2.out.2];rfl,by rw[HS2.out.1];exact HI1.out,HT1.out,HB1.out⟩
  ·have hge:¬(k:Int)<(n:Int):=by omega
   have hkn:k=n:=by omega
   subst hkn
   have HS2:Hid (stepsP p l=pk.flush∧stepsE p l=pk.flE):=by
    have:=HS.out
    rw[List.drop_of_length_le (by rw[HN.out];exact Nat.le_refl _)] at this
    exact this
   have HFl:=flushT (fun _=>False) wr P base pk HI.out (HF.out.few (by omega))
   clear HS
   go_wp2_with fail
   refine HFl.mono ?_
   rintro e x1 ⟨rfl,hi1,ht1,_,hb1⟩
   have HI1:=mkHid hi1
   have HT1:=mkHid (HT.out.trans ht1)
   have HB1:=mkHid (HB.out.trans hb1)
   clear hi1 ht1 hb1
   go_wp2_with fail
   go_ret
   exact⟨by rw[HS2.out.2];rfl,by rw[HS2.out.1];exact HI1.out,HT1.out,HB1.out⟩
end
section
open Go.RowKit Go.Maps
theorem codInArea (i:Int)(n:Nat)(w:World):
  Calls Tryz.prog 61 #[.int .i64 i,.int .i64 (n:Int)] w fun e w'=>e=.returned (.bool (areaI n i))∧w'=w:=by
 by_cases h0:49≤i
 ·have d0:decide (49≤i)=true:=decide_eq_true h0
  have HV:Hid (decide (i<(n:Int))=areaI n i):=by
   unfold Hid areaI;congr 1;exact propext ⟨fun h=>⟨h0,h⟩,fun h=>h.2⟩
  go_enter Tryz.func61,Tryz.ntmps61
  go_wp2
  go_ret
  exact⟨ret_b (by first|rfl|exact HV.out),rfl⟩
 ·have d0:decide (49≤i)=false:=decide_eq_false h0
  have h0':i<49:=by omega
  have HV:Hid (false=areaI n i):=by unfold Hid areaI;exact(decide_eq_false (fun h=>h0 h.1)).symm
  go_enter Tryz.func61,Tryz.ntmps61
  go_wp2
  go_ret
  exact⟨ret_b (by first|rfl|exact HV.out),rfl⟩
theorem codJSize (w:World)(J P base:Nat)(j:Jl)(h:JAt w J P base j):
  Calls Tryz.prog 38 #[.pointer (some ⟨J,0,none⟩)] w fun e w'=>e=.returned (.int .i64 (j.p.n:Int))∧w'=w:=by
 have c0:w.cell? ⟨J,0,none⟩=some (.pointer (some ⟨P,0,none⟩)):=h.blk.cell 0
 have HS:Calls Tryz.prog 59 #[.pointer (some ⟨P,0,none⟩)] w fun e w'=>e=.returned (.int .i64 (j.p.n:Int))∧w'=w:=by
  obtain⟨S,vC,arm,h⟩:=h.d
  exact codSize P S j.p.n w (h.blk.cell 0)
 clear h
 generalize j.p.n=n at *
 go_enter Tryz.func38,Tryz.ntmps38
 go_wp2_with fail
 refine HS.mono ?_
 rintro e w1 ⟨rfl,rfl⟩
 go_wp2_with fail
 go_ret
 exact⟨rfl,rfl⟩
theorem mkMap (t:TypeId)(w:World):(Instr.makeMap t none).run Tryz.prog w=.ok (.map (some w.heap.size)) (w.alloc (.map #[] 0)):=rfl
theorem codBegin (w:World)(J P base:Nat)(j:Jl)(h:JAt w J P base j)(hbs:base≤w.heap.size):
  Calls Tryz.prog 37 #[.pointer (some ⟨J,0,none⟩)] w fun e w'=>(∃T M,e=.returned (.pointer (some ⟨T,0,none⟩))∧TAt w' T J P base ⟨[],false⟩ j M false)∧Below w.heap.size w w':=by
 have HJ:=mkHid h
 clear h
 have hb:Tryz.prog.built 129 [(0,.pointer (some ⟨J,0,none⟩)),(1,.map (some w.heap.size))]=some #[.pointer (some ⟨J,0,none⟩),.map (some w.heap.size),.int .u32 0,.int .i32 0,.int .u32 0,.bool false]:=by kernel_rfl
 have hM:Hid (OwnM (w.alloc (.map #[] 0)) w.heap.size []):=World.ownsMap_made w Tryz.prog 3 secR
 have hb1:Hid (Below w.heap.size w (w.alloc (.map #[] 0))):=(Below.refl _ w).alloc (Nat.le_refl _) _
 have hmk:=mkMap 120 w
 go_enter Tryz.func37,Tryz.ntmps37
 go_wp2_with fail
 go_ret
 have hb2:=hb1.out.alloc hb1.out.size (.cells #[.pointer (some ⟨J,0,none⟩),.map (some w.heap.size),.int .u32 0,.int .i32 0,.int .u32 0,.bool false] 129)
 refine⟨⟨_,w.heap.size,rfl,HJ.out.on hb2,Blk.newAt _ _ _ _ _ (by simp) rfl,Nat.le_succ_of_le hbs,hbs,ownM_on hM.out ((Below.refl _ _).alloc (Nat.le_refl _) _),List.Pairwise.nil,fun g hg=>(by cases hg),fun _=>rfl⟩,hb2⟩
theorem codHeed0 (J:Nat)(w:World):Calls Tryz.prog 63 #[.pointer (some ⟨J,0,none⟩),.int .i64 0] w fun e w'=>(∃x,e=.returned x)∧w'=w:=by
 go_enter Tryz.func63,Tryz.ntmps63
 go_wp2_with fail
 go_end0
 exact⟨⟨_,rfl⟩,rfl⟩
theorem codHeed (w:World)(J P base:Nat)(j:Jl)(z:Int)(hz:¬z=0)(h:JAt w J P base j):
  Calls Tryz.prog 63 #[.pointer (some ⟨J,0,none⟩),.int .i64 z] w fun e w'=>(∃x,e=.returned x)∧w'=w.drew.setCell ⟨J,2,none⟩ (.int .u32 1):=by
 have c2:w.cell? ⟨J,2,none⟩=some (.int .u32 (flag j.dead)):=h.blk.cell 2
 have HS:=atStoreAt J 2 true _ w c2 (h.blk.frozen 2)
 clear h
 go_enter Tryz.func63,Tryz.ntmps63
 go_wp2_with fail
 refine HS.mono ?_
 rintro e w1 ⟨rfl,rfl⟩
 go_wp2_with fail
 go_end0
 exact⟨⟨_,rfl⟩,rfl⟩
theorem jrd {j:Jl}{i:Int}(ho:j.p.off=false)(ha:areaI j.p.n i=true):jrE j.p i=0∧j.p.rdE i=0∧jrB j.p i=j.p.rdB i:=by
 have hin:inR j.p.n i=true:=by
  unfold areaI at ha
  have:=of_decide_eq_true ha
  exact decide_eq_true ⟨by omega,this.2⟩
 have h1:j.p.rdE i=0:=by unfold Pl.rdE Pl.stE;simp[ho,hin]
 refine⟨?_,h1,?_⟩
 ·unfold jrE;rw[ha];simpa using h1
 ·unfold jrB;rw[ha];rfl
theorem codJRead (w:World)(J P base:Nat)(j:Jl)(i:Int)(h:JAt w J P base j)(hf:FewP j.p)(ho:j.p.off=false):
  Calls Tryz.prog 36 #[.pointer (some ⟨J,0,none⟩),.int .i64 i] w fun e w'=>(∃v,e=.returned (.tuple #[v,.int .i64 (jrE j.p i)])∧IsV w' v (jrB j.p i))∧Below w.heap.size w w':=by
 have HZ:=codJSize w J P base j h
 have HA:=codInArea i j.p.n w
 have c0:w.cell? ⟨J,0,none⟩=some (.pointer (some ⟨P,0,none⟩)):=h.blk.cell 0
 have HR:=codRead (fun _=>False) P base j.p i w h.d hf
 have HJ:=mkHid h
 clear h
 cases ha:areaI j.p.n i with
 | false =>
  have HE:Hid (jrE j.p i=50∧jrB j.p i=[]):=by unfold Hid jrE jrB;simp[ha]
  rw[ha] at HA
  clear HR ha
  generalize j.p.n=n at *
  go_enter Tryz.func36,Tryz.ntmps36
  go_wp2_with fail
  refine HZ.mono ?_
  rintro e w1 ⟨rfl,rfl⟩
  go_wp2_with fail
  refine HA.mono ?_
  rintro e w2 ⟨rfl,hw2⟩
  obtain rfl:=hw2.symm
  go_wp2_with fail
  go_ret2
  refine⟨⟨.slice none 0 0,ret_v4 rfl HE.out.1.symm,?_⟩,Below.refl _ _⟩
  rw[HE.out.2];exact⟨none,0,rfl,isB_none _⟩
 | true =>
  obtain⟨h1,h2,h3⟩:=jrd ho ha
  rw[ha] at HA
  rw[h2] at HR
  have HE:=mkHid (And.intro h1 h3)
  have HH:=codHeed0 J
  clear h1 h2 h3 ha
  generalize j.p.n=n at *
  generalize j.p.rdB i=bb at *
  go_enter Tryz.func36,Tryz.ntmps36
  go_wp2_with fail
  refine HZ.mono ?_
  rintro e w1 ⟨rfl,rfl⟩
  go_wp2_with fail
  refine HA.mono ?_
  rintro e w2 ⟨rfl,hw2⟩
  obtain rfl:=hw2.symm
  go_wp2_with fail
  refine HR.mono ?_
  rintro e w3 ⟨⟨a,c,rfl,hB,_⟩,hb3⟩
  have HB:=mkHid hB
  clear hB
  go_wp2_with fail
  refine(HH w3).mono ?_
  rintro e w4 ⟨⟨y,rfl⟩,rfl⟩
  go_wp2_with fail
  go_ret2
  exact⟨⟨.slice a bb.length c,ret_v4 rfl HE.out.1.symm,by rw[HE.out.2];exact⟨a,c,rfl,HB.out⟩⟩,hb3⟩
theorem zeroJ:(Tryz.prog.info? 152).map (·.zero)=some (some (.agg zSec.toArray)):=by kernel_rfl
theorem zvJ (w:World):(zeroValue 152).run Tryz.prog w=.ok (.agg zSec.toArray) w:=by
 have h:=zeroJ
 cases hq:Tryz.prog.info? 152 with
 | none=>rw[hq] at h;cases h
 | some i =>
  rw[hq] at h
  have hz:i.zero=some (.agg zSec.toArray):=by simpa using h
  simp[zeroValue,typeInfo,hq,hz]
theorem infoJ:(Tryz.prog.info? 152).map (·.size)=some 512:=by kernel_rfl
theorem infoJOf {b:List UInt8}(h:b.length=512):(Tryz.prog.info? 152).map (·.size)=some (bv b).length:=by rw[bv_length,h];exact infoJ
theorem infoJOf' {b:List UInt8}(h:b.length=512):(Tryz.prog.info? 152).map (·.size)=some (bv b).toArray.size:=by rw[List.size_toArray];exact infoJOf h
theorem slJ (G:Nat)(w:World):(Instr.sliceAt 152 (.pointer (some ⟨G,0,none⟩)) none none none).run Tryz.prog w=.ok (.slice (some ⟨G,0,none⟩) 512 512) w:=by
 have he:Tryz.prog.elem 152=5:=by kernel_rfl
 have hn:Tryz.prog.arrayLen 152=512:=by kernel_rfl
 have hz:(sizeOf 5).run Tryz.prog w=.ok 1 w:=by
  obtain⟨i0,hi,hz0,hz1,hz2⟩:=info_parts info8
  simp[sizeOf,typeInfo,hi,hz1]
 rw[run_sliceAt_array_all w 152 ⟨G,0,none⟩ (by rw[he,hn];exact Tryz.underlying152),he,hn,hz]
 simp only[Result.andThen,slicedAt,Nat.zero_mul,Addr.add_lit]
 rfl
theorem arrJ (a:Option Addr)(c:Nat)(w:World):(Instr.arrayAt 152 (.slice a 512 c)).run Tryz.prog w=.ok (.pointer a) w:=by
 simp[Instr.arrayAt,run_underlying Tryz.underlying152]
theorem keyI {i:Int}(h0 : -9223372036854775808≤i)(h1:i≤9223372036854775807):keyOf Tryz.prog 3 (.int .i64 i)=some (.int .i64 i):=by
 refine Maps.keyOf_int_mk Tryz.underlying3 ?_
 simp[Lit.wf,IntKind.min,IntKind.max,IntKind.signed,IntKind.bits]
 omega
theorem lookOk {w:World}{M:Nat}{l:Qs}(h:OwnM w M l){i:Int}(h0 : -9223372036854775808≤i)(h1:i≤9223372036854775807):
  (Instr.lookup 120 (.map (some M)) (.int .i64 i) true).run Tryz.prog w=.ok (.tuple #[(Tl.find l i).elim (.agg zSec.toArray) secV,.bool (Tl.find l i).isSome]) w:=by
 obtain⟨v,ps,hr,hv⟩:=h.look_ok (Maps.int_keyed Tryz.underlying3) Tryz.underlying120 (zvJ w) (zd:=.held (.agg zSec.toArray)) (zp:=[]) rfl (keyI h0 h1)
 rw[mapD_at,mapD_has] at *
 have hv2:(DataW.held v:DataW Value)=.held ((Tl.find l i).elim (.agg zSec.toArray) secV):=congrArg Prod.fst (Option.some.inj hv)
 have hv2:=DataW.held.inj hv2
 rw[hr,hv2]
theorem look1 {w:World}{M:Nat}{l:Qs}(h:OwnM w M l){i:Int}(h0 : -9223372036854775808≤i)(h1:i≤9223372036854775807):
  (Instr.lookup 120 (.map (some M)) (.int .i64 i) false).run Tryz.prog w=.ok ((Tl.find l i).elim (.agg zSec.toArray) secV) w:=by
 obtain⟨v,ps,hr,hv⟩:=h.lookup (Maps.int_keyed Tryz.underlying3) Tryz.underlying120 (zvJ w) (zd:=.held (.agg zSec.toArray)) (zp:=[]) rfl (keyI h0 h1)
 rw[mapD_at] at *
 have hv2:(DataW.held v:DataW Value)=.held ((Tl.find l i).elim (.agg zSec.toArray) secV):=congrArg Prod.fst (Option.some.inj hv)
 have hv2:=DataW.held.inj hv2
 rw[hr,hv2]
theorem zAll:zSec.toArray.all (·.oneCell')=true:=by unfold zSec;exact bvAll9 _
theorem zInfo:(Tryz.prog.info? 152).map (·.size)=some zSec.toArray.size:=by rw[List.size_toArray,zSec_length];exact infoJ
theorem find_len {l:Qs}{i:Int}{b:List UInt8}(h:Tl.find l i=some b)(hl:∀g∈l,g.2.length=512∧49≤g.1∧g.1<4096):b.length=512:=by
 unfold Tl.find at h
 obtain⟨g,hg,rfl⟩:=Option.map_eq_some_iff.1 h
 exact(hl g (List.mem_of_find?_eq_some hg)).1
attribute [local go_sem ↓] zvJ slJ
theorem codTRead (w:World)(T J P base:Nat)(t:Tl)(j:Jl)(M:Nat)(tr:Bool)(i:Int)(h:TAt w T J P base t j M tr)(hf:FewP j.p)(ho:j.p.off=false)(h0 : -9223372036854775808≤i)(h1:i≤9223372036854775807):
  Calls Tryz.prog 140 #[.pointer (some ⟨T,0,none⟩),.int .i64 i] w fun e w'=>(∃v,e=.returned (.tuple #[v,.int .i64 (t.rdE j i)])∧IsV w' v (t.rdB j i))∧Below w.heap.size w w':=by
 have c0:w.cell? ⟨T,0,none⟩=some (.pointer (some ⟨J,0,none⟩)):=h.blk.cell 0
 have c1:w.cell? ⟨T,1,none⟩=some (.map (some M)):=h.blk.cell 1
 have hlk:=lookOk h.own h0 h1
 have HT:=mkHid h
 clear h
 have HD0:Hid (Below w.heap.size w (w.alloc (.cells zSec.toArray 152))):=(Below.refl _ w).alloc (Nat.le_refl _) _
 have HR:Hid (Blk (w.alloc (.cells zSec.toArray 152)) w.heap.size 152 zSec):=Blk.new w _ _
 cases hfd:Tl.find t.l i with
 | none =>
  have HE:Hid (t.rdE j i=jrE j.p i∧t.rdB j i=jrB j.p i):=by unfold Hid Tl.rdE Tl.rdB jrE jrB;rw[hfd];exact⟨rfl,rfl⟩
  rw[hfd] at hlk
  have HDW:Hid (Below w.heap.size w ((w.alloc (.cells zSec.toArray 152)).setRow w.heap.size zSec.toArray)):=bel_row HD0.out (Nat.le_refl _) _
  have d0:((w.alloc (.cells zSec.toArray 152)).setRow w.heap.size zSec.toArray).cell? ⟨T,0,none⟩=some (.pointer (some ⟨J,0,none⟩)):=(HDW.out.cell (p:=⟨T,0,none⟩) (cell_lt c0)).trans c0
  have HJR:=codJRead _ J P base j i (HT.out.ja.on HDW.out) hf ho
  clear hfd
  go_enter Tryz.func140,Tryz.ntmps140
  go_wp2_with (refine wpList_store_row rfl 152 _ _ rfl w.heap.size zSec.toArray rfl rfl _ _ HR.out zInfo rfl zAll ?_)
  refine HJR.mono ?_
  rintro e w2 ⟨⟨v,rfl,hv⟩,hb2⟩
  have HV:=mkHid hv
  clear hv
  go_wp2_with fail
  go_ret2
  exact⟨⟨v,by rw[HE.out.1];rfl,by rw[HE.out.2];exact HV.out⟩,HDW.out.trans (hb2.mono HDW.out.size)⟩
 | some b =>
  have HE:Hid (t.rdE j i=0∧t.rdB j i=b):=by unfold Hid Tl.rdE Tl.rdB;rw[hfd];exact⟨rfl,rfl⟩
  have HL:Hid (b.length=512):=find_len hfd HT.out.ok
  rw[hfd] at hlk
  have hlk2:(Instr.lookup 120 (.map (some M)) (.int .i64 i) true).run Tryz.prog w=.ok (.tuple #[.agg (bv b).toArray,.bool true]) w:=hlk
  clear hlk hfd
  have HS6:Hid ((Tryz.prog.info? 152).map (·.size)=some (bv b).toArray.size):=infoJOf' HL.out
  have HS7:Hid (zSec.toArray.size=(bv b).toArray.size):=by unfold Hid;rw[List.size_toArray,List.size_toArray,zSec_length,bv_length,HL.out]
  have HDW:Hid (Below w.heap.size w ((w.alloc (.cells zSec.toArray 152)).setRow w.heap.size (bv b).toArray)):=bel_row HD0.out (Nat.le_refl _) _
  have HBW:Hid (Blk ((w.alloc (.cells zSec.toArray 152)).setRow w.heap.size (bv b).toArray) w.heap.size 152 (bv b)):=HR.out.row _
  go_enter Tryz.func140,Tryz.ntmps140
  go_wp2_with (refine wpList_store_row rfl 152 _ _ rfl w.heap.size (bv b).toArray rfl rfl _ _ HR.out HS6.out HS7.out (bvAll9 b) ?_)
  go_ret2
  refine⟨⟨.slice (some ⟨w.heap.size,0,none⟩) b.length 512,by rw[HE.out.1,HL.out];rfl,?_⟩,HDW.out⟩
  rw[HE.out.2]
  refine⟨_,512,rfl,rfl,Nat.le_of_eq HL.out,by decide,fun e=>(by cases e),fun _=>⟨_,0,rfl,fun i hi=>?_⟩⟩
  rw[HBW.out.cell,Nat.zero_add,bv_at b i hi]
end
section
open Go.RowKit
attribute [local go_sem ↓] zvJ slJ
theorem infoI3:(Tryz.prog.info? 3).map (fun i=>(i.zero,i.size,i.bytes))=some (some (.int .i64 0),1,8):=by kernel_rfl
theorem infoS3:(Tryz.prog.info? 33).map (fun i=>(i.zero,i.size,i.bytes))=some (some (.slice none 0 0),1,24):=by kernel_rfl
theorem made_ints (n:Nat):(madeCells (Value.int .i64 0).cells (n * 1)).toList=List.replicate n (.int .i64 0):=by
 simp only[madeCells,Value.cells]
 rw[List.eq_replicate_iff]
 simp[Nat.mod_one]
theorem made_slices (n:Nat):(madeCells (Value.slice none 0 0).cells (n * 1)).toList=List.replicate n (.slice none 0 0):=by
 simp only[madeCells,Value.cells]
 rw[List.eq_replicate_iff]
 simp[Nat.mod_one]
theorem make_ints {ops:Array Oper}{rest:List Oper}{o:Oper}{a:Act}{Q:Exit→Act→World→Prop}(w:World)
  (hg:o.guard=none) (l c:Operand) (hop:o.op=Op.makeSlice 58 l c)
  (n:Nat) (hl:a.eval l=.int .i64 (n:Int)) (hc:a.eval c=.int .i64 (n:Int)) (hn:n≤4096)
  (hK:∀w',Blk w' w.heap.size 3 (List.replicate n (.int .i64 0))→w.grownBy w' none→wpList Tryz.prog ops Q rest (a.put o.dst (.slice (some ⟨w.heap.size,0,none⟩) n n)) w'):
  wpList Tryz.prog ops Q (o::rest) a w:=by
 obtain⟨i0,hi,hz0,hz1,hz2⟩:=info_parts infoI3
 refine wpList_make_full w hg l c 58 hop w.heap.size 3 i0 (.int .i64 0) 1 Tryz.underlying58 hi hz0 hz1 .i64 .i64 n n n hl hc rfl rfl (by rw[hz2];omega) (by unfold maxLen;omega) (Nat.le_refl _) (fun w' h g=>hK w' ?_ g)
 rw[made_ints] at h
 rcases h.2 with⟨h,_⟩|⟨g,cap,cur,e,_,hgb,_,_,hsz,ht⟩
 ·cases h
 ·injection e with e1 _ e3
  have e4:w.heap.size=g:=by injection e1 with e1;injection e1 with e1
  subst e4
  unfold Blk
  rw[hgb,←ht,List.take_of_length_le (by rw[Array.length_toList,hsz,←e3];omega)]
theorem make_slices {ops:Array Oper}{rest:List Oper}{o:Oper}{a:Act}{Q:Exit→Act→World→Prop}(w:World)
  (hg:o.guard=none) (l c:Operand) (hop:o.op=Op.makeSlice 59 l c)
  (n:Nat) (hl:a.eval l=.int .i64 (n:Int)) (hc:a.eval c=.int .i64 (n:Int)) (hn:n≤4096)
  (hK:∀w',Blk w' w.heap.size 33 (List.replicate n (.slice none 0 0))→w.grownBy w' none→wpList Tryz.prog ops Q rest (a.put o.dst (.slice (some ⟨w.heap.size,0,none⟩) n n)) w'):
  wpList Tryz.prog ops Q (o::rest) a w:=by
 obtain⟨i0,hi,hz0,hz1,hz2⟩:=info_parts infoS3
 refine wpList_make_full w hg l c 59 hop w.heap.size 33 i0 (.slice none 0 0) 1 Tryz.underlying59 hi hz0 hz1 .i64 .i64 n n n hl hc rfl rfl (by rw[hz2];omega) (by unfold maxLen;omega) (Nat.le_refl _) (fun w' h g=>hK w' ?_ g)
 rw[made_slices] at h
 rcases h.2 with⟨h,_⟩|⟨g,cap,cur,e,_,hgb,_,_,hsz,ht⟩
 ·cases h
 ·injection e with e1 _ e3
  have e4:w.heap.size=g:=by injection e1 with e1;injection e1 with e1
  subst e4
  unfold Blk
  rw[hgb,←ht,List.take_of_length_le (by rw[Array.length_toList,hsz,←e3];omega)]
def laidTo (f:Nat→Value)(z:Value)(n k:Nat):List Value:=(List.range n).map fun i=>if i<k then f i else z
theorem laidTo_zero (f:Nat→Value)(z:Value)(n:Nat):laidTo f z n 0=List.replicate n z:=by
 unfold laidTo
 rw[List.eq_replicate_iff]
 simp
theorem laidTo_at (f:Nat→Value)(z:Value)(n k i:Nat)(h:i<n):(laidTo f z n k)[i]?=some (if i<k then f i else z):=by
 unfold laidTo
 simp[h]
theorem laidTo_set (f:Nat→Value)(z:Value)(n k:Nat)(h:k<n):(laidTo f z n k).set k (f k)=laidTo f z n (k+1):=by
 apply List.ext_getElem?
 intro i
 by_cases hi:i<n
 ·rw[laidTo_at _ _ _ _ _ hi]
  by_cases e:i=k
  ·subst e
   rw[List.getElem?_set_self (by unfold laidTo;simpa using h),if_pos (by omega)]
  ·rw[List.getElem?_set_ne (by omega),laidTo_at _ _ _ _ _ hi]
   by_cases h2:i<k
   ·rw[if_pos h2,if_pos (by omega)]
   ·rw[if_neg h2,if_neg (by omega)]
 ·rw[List.getElem?_eq_none (by rw[List.length_set];unfold laidTo;simp;omega),List.getElem?_eq_none (by unfold laidTo;simp;omega)]
theorem laidTo_congr {f f':Nat→Value}{z:Value}{n k:Nat}(h:∀i,i<k→f i=f' i):laidTo f z n k=laidTo f' z n k:=by
 unfold laidTo
 refine List.map_congr_left (fun i _=>?_)
 by_cases hi:i<k
 ·rw[if_pos hi,if_pos hi,h i hi]
 ·rw[if_neg hi,if_neg hi]
theorem gr_below {w w':World}(hg:w.grownBy w' none):Below w.heap.size w w':=(Below.refl _ w).grown hg (Nat.le_refl _) (fun k e=>by cases e)
theorem slotQ_nth (l:Qs)(i:Nat)(h:i<l.length):nthL (slotQ l) i=(1+i,(nthL l i).2):=by
 unfold slotQ nthL
 rw[List.getD_eq_getElem?_getD]
 simp[h]
theorem slotQ_len (l:Qs):(slotQ l).length=l.length:=by simp[slotQ]
theorem codSlots (l:Qs)(n:Nat)(hn:l.length=n)(h48:n≤48)(w:World):
  Calls Tryz.prog 192 #[.int .i64 (n:Int)] w fun e w'=>∃S,e=.returned (.slice (some ⟨S,0,none⟩) n n)∧IsIs w' (some ⟨S,0,none⟩) n n (slotQ l)∧Below w.heap.size w w':=by
 have HN:=mkHid hn
 clear hn
 have h48':(n:Int)≤48:=by omega
 go_enter Tryz.func192,Tryz.ntmps192
 go_wp2_with (at_make;refine make_ints w rfl _ _ rfl n rfl rfl (by omega) ?_;intro w1 hB1 hg1;have HB1:=mkHid hB1;have HG1:=mkHid (gr_below hg1);clear hB1 hg1)
 obtain⟨S,hS⟩:∃S,S=w.heap.size:=⟨_,rfl⟩
 have HS:=mkHid hS
 rw[←hS] at HB1 ⊢
 clear hS
 go_loopw [9] (fun i wr=>∃k:Nat,k≤n∧i=.int .i64 (k:Int)∧Hid (Blk wr S 3 (laidTo (fun i=>.int .i64 ((1+i:Nat):Int)) (.int .i64 0) n k))∧Hid (Below w.heap.size w wr)) (fun i _=>n-(Go.RowKit.intOf i).toNat)
 case atStart=>exact⟨0,Nat.zero_le _,rfl,by rw[laidTo_zero];exact HB1,HG1⟩
 case round =>
  obtain⟨k,hk,rfl,HB,HW⟩:=hrel
  clear HB1 HG1
  by_cases hlt:k<n
  ·have hlt':(k:Int)<(n:Int):=by omega
   have hc:wr.cell? ⟨S,k,none⟩=some (.int .i64 0):=by rw[HB.out.cell,laidTo_at _ _ _ _ _ hlt,if_neg (by omega)]
   have hfz:=HB.out.frozen k
   have hk0:(0:Int)≤(k:Int):=by omega
   have HB2:Hid (Blk (wr.setCell ⟨S,k,none⟩ (.int .i64 (1+(k:Int)))) S 3 (laidTo (fun i=>.int .i64 ((1+i:Nat):Int)) (.int .i64 0) n (k+1))):=by
    have:=HB.out.set k (.int .i64 ((1+k:Nat):Int))
    rw[laidTo_set (fun i=>.int .i64 ((1+i:Nat):Int)) _ _ _ hlt] at this
    exact this
   have HW2:Hid (Below w.heap.size w (wr.setCell ⟨S,k,none⟩ (.int .i64 (1+(k:Int))))):=HW.out.trans (bel_one (gr_cell wr S k _) (Nat.le_of_eq HS.out.symm) HB.out.lt)
   clear HB HW
   go_wp2_with fail
   go_roundw
   case rel=>exact⟨k+1,by omega,by go_num,by simpa using HB2,by simpa using HW2⟩
   case measure=>simp[Go.RowKit.intOf];omega
  ·have hge:¬(k:Int)<(n:Int):=by omega
   have hkn:k=n:=by omega
   subst hkn
   go_wp2_with fail
   go_ret
   refine⟨S,rfl,⟨by rw[slotQ_len];exact HN.out,fun _=>⟨S,0,rfl,⟨_,_,HB.out⟩,fun i hi=>?_⟩⟩,HW.out⟩
   rw[HB.out.cell,Nat.zero_add,laidTo_at _ _ _ _ _ hi,if_pos hi,slotQ_nth l i (by rw[HN.out];exact hi)]
def dtv (gs:Nat→Nat)(i:Nat):Value:=.slice (some ⟨gs i,0,none⟩) 512 512
theorem find_nth (l:Qs)(hs:SortQ l)(k:Nat)(hk:k<l.length):Tl.find l ((nthL l k).1:Int)=some (nthL l k).2:=by
 unfold Tl.find nthL
 induction l generalizing k with
 | nil=>simp at hk
 | cons g l ih =>
  obtain⟨h1,h2⟩:=List.pairwise_cons.1 hs
  cases k with
  | zero=>simp[List.getD]
  | succ k =>
   have hk2:k<l.length:=by simpa using hk
   have:=ih h2 k hk2
   rw[List.find?_cons]
   have hm:l.getD k (0,[])∈l:=by rw[List.getD_eq_getElem?_getD,List.getElem?_eq_getElem hk2];exact List.getElem_mem hk2
   have hne:((g.1:Int)==(((g::l).getD (k+1) (0,[])).1:Int))=false:=by
    have:=h1 _ hm
    rw[List.getD_cons_succ]
    rw[beq_eq_false_iff_ne]
    omega
   rw[hne]
   simpa using this
theorem codData (w:World)(T J M:Nat)(l:Qs)(rest:List Value)(h:TIn w T J M l rest)(n pc:Nat)(pa:Option Addr)(hn:l.length=n)(h48:n≤48)(hp:IsIs w pa n pc l):
  Calls Tryz.prog 120 #[.pointer (some ⟨T,0,none⟩),.slice pa n pc] w fun e w'=>∃O,e=.returned (.slice (some ⟨O,0,none⟩) n n)∧IsDt w' (some ⟨O,0,none⟩) n n l∧Below w.heap.size w w':=by
 have HN:=mkHid hn
 have HT:=mkHid h
 have HP:=mkHid hp
 clear hn h hp
 have h48':(n:Int)≤48:=by omega
 go_enter Tryz.func120,Tryz.ntmps120
 go_wp2_with (at_make;refine make_slices w rfl _ _ rfl n rfl rfl (by omega) ?_;intro w1 hB1 hg1;have HB1:=mkHid hB1;have HG1:=mkHid (gr_below hg1);clear hB1 hg1)
 obtain⟨S,hS⟩:∃S,S=w.heap.size:=⟨_,rfl⟩
 have HS:=mkHid hS
 rw[←hS] at HB1 ⊢
 clear hS
 go_loopw [14] (fun i wr=>∃(k:Nat) (gs:Nat→Nat),k≤n∧i=.int .i64 (k:Int)∧Hid (Blk wr S 33 (laidTo (dtv gs) (.slice none 0 0) n k))∧Hid (∀i,i<k→S≠gs i∧Blk wr (gs i) 152 (bv (nthL l i).2))∧Hid (Below w.heap.size w wr)) (fun i _=>n-(Go.RowKit.intOf i).toNat)
 case atStart=>exact⟨0,fun _=>0,Nat.zero_le _,rfl,by rw[laidTo_zero];exact HB1,fun i hi=>absurd hi (Nat.not_lt_zero i),HG1⟩
 case round =>
  obtain⟨k,gs,hk,rfl,HB,HBs,HW⟩:=hrel
  clear HB1 HG1
  by_cases hlt:k<n
  ·have hlt':(k:Int)<(n:Int):=by omega
   have hk0:(0:Int)≤(k:Int):=by omega
   obtain⟨B1,o1,rfl,⟨_,_,_⟩,hc1⟩:=(HP.out.on HW.out).cells (by omega)
   have c1:=hc1 k hlt
   have m1:wr.cell? ⟨T,1,none⟩=some (.map (some M)):=(HT.out.on HW.out).blk.cell 1
   have hkl:k<l.length:=by rw[HN.out];exact hlt
   have hmem:nthL l k∈l:=by unfold nthL;rw[List.getD_eq_getElem?_getD,List.getElem?_eq_getElem hkl];exact List.getElem_mem hkl
   have hok:=HT.out.ok _ hmem
   have hlk:=look1 (HT.out.on HW.out).own (i:=((nthL l k).1:Int)) (by omega) (by omega)
   rw[find_nth l HT.out.sort k hkl] at hlk
   have hlk2:(Instr.lookup 120 (.map (some M)) (.int .i64 ((nthL l k).1:Int)) false).run Tryz.prog wr=.ok (.agg (bv (nthL l k).2).toArray) wr:=hlk
   have HL:Hid ((nthL l k).2.length=512):=hok.1
   have HX:Hid (∀W g,Below wr.heap.size wr W→wr.heap.size≤g→Blk W g 152 (bv (nthL l k).2)→∀i,i<k+1→S≠(fun i=>if i=k then g else gs i) i∧Blk W ((fun i=>if i=k then g else gs i) i) 152 (bv (nthL l i).2)):=fun W g hW hg hB i hi=>by
    have hSl:=HB.out.lt
    by_cases e:i=k
    ·subst e;simp only[if_true];exact⟨by omega,hB⟩
    ·simp only[if_neg e]
     have:=HBs.out i (by omega)
     exact⟨this.1,this.2.on hW⟩
   clear hlk hc1 hmem hok hkl
   generalize (nthL l k).1=ak at *
   generalize (nthL l k).2=bb at *
   have HRw:Hid (Blk (wr.alloc (.cells zSec.toArray 152)) wr.heap.size 152 zSec):=Blk.new wr _ _
   have HS6:Hid ((Tryz.prog.info? 152).map (·.size)=some (bv bb).toArray.size):=infoJOf' HL.out
   have HS7:Hid (zSec.toArray.size=(bv bb).toArray.size):=by unfold Hid;rw[List.size_toArray,List.size_toArray,zSec_length,bv_length,HL.out]
   have HD1:Hid (Below wr.heap.size wr ((wr.alloc (.cells zSec.toArray 152)).setRow wr.heap.size (bv bb).toArray)):=bel_row ((Below.refl _ wr).alloc (Nat.le_refl _) _) (Nat.le_refl _) _
   have HBW:Hid (Blk ((wr.alloc (.cells zSec.toArray 152)).setRow wr.heap.size (bv bb).toArray) wr.heap.size 152 (bv bb)):=HRw.out.row _
   go_upto_region 6 with(refine wpList_store_row rfl 152 _ _ rfl wr.heap.size (bv bb).toArray rfl rfl _ _ HRw.out HS6.out HS7.out (bvAll9 bb) ?_)
   clear HRw HS6 HS7 hlk2 m1 c1
   generalize (wr.alloc (.cells zSec.toArray 152)).setRow wr.heap.size (bv bb).toArray=W1 at *
   have hX1:=mkHid (HX.out W1 wr.heap.size HD1.out (Nat.le_refl _) HBW.out)
   have HB1:=mkHid (HB.out.on HD1.out)
   have HW1:=mkHid (HW.out.trans (HD1.out.mono HW.out.size))
   have hgS:Hid (S≠wr.heap.size):=by unfold Hid;have:=HB.out.lt;omega
   clear HX HBs HB HD1 HBW
   generalize wr.heap.size=g at *
   have hc:W1.cell? ⟨S,k,none⟩=some (.slice none 0 0):=by rw[HB1.out.cell,laidTo_at _ _ _ _ _ hlt,if_neg (by omega)]
   have hfz:=HB1.out.frozen k
   have HB2:Hid (Blk (W1.setCell ⟨S,k,none⟩ (.slice (some ⟨g,0,none⟩) 512 512)) S 33 (laidTo (dtv (fun i=>if i=k then g else gs i)) (.slice none 0 0) n (k+1))):=by
    have h1:=HB1.out
    rw[laidTo_congr (f':=dtv (fun i=>if i=k then g else gs i)) (fun i hi=>by unfold dtv;simp only[if_neg (show ¬i=k by omega)])] at h1
    have h2:=h1.set k (dtv (fun i=>if i=k then g else gs i) k)
    rw[laidTo_set _ _ _ _ hlt] at h2
    have e:dtv (fun i=>if i=k then g else gs i) k=.slice (some ⟨g,0,none⟩) 512 512:=by unfold dtv;simp only[if_true]
    rw[e] at h2
    exact h2
   have HX2:Hid (∀i,i<k+1→S≠(fun i=>if i=k then g else gs i) i∧Blk (W1.setCell ⟨S,k,none⟩ (.slice (some ⟨g,0,none⟩) 512 512)) ((fun i=>if i=k then g else gs i) i) 152 (bv (nthL l i).2)):=fun i hi=>by
    have:=hX1.out i hi
    exact⟨this.1,this.2.other _ _ (fun e=>this.1 e.symm)⟩
   have HW2:Hid (Below w.heap.size w (W1.setCell ⟨S,k,none⟩ (.slice (some ⟨g,0,none⟩) 512 512))):=HW1.out.trans (bel_one (gr_cell W1 S k _) (Nat.le_of_eq HS.out.symm) HB1.out.lt)
   clear HB1 HW1 HW hX1
   go_wp2_with fail
   go_roundw
   case rel=>exact⟨k+1,(fun i=>if i=k then g else gs i),by omega,by go_num,HB2,HX2,HW2⟩
   case measure=>simp[Go.RowKit.intOf];omega
  ·have hge:¬(k:Int)<(n:Int):=by omega
   have hkn:k=n:=by omega
   subst hkn
   go_wp2_with fail
   go_ret
   refine⟨S,rfl,⟨HN.out,fun _=>⟨S,0,rfl,⟨_,_,HB.out⟩,fun i hi=>?_⟩⟩,HW.out⟩
   have hil:i<l.length:=by rw[HN.out];exact hi
   have hmem:nthL l i∈l:=by unfold nthL;rw[List.getD_eq_getElem?_getD,List.getElem?_eq_getElem hil];exact List.getElem_mem hil
   refine⟨(HT.out.ok _ hmem).1,gs i,152,?_,(HBs.out i hi).2,by simp⟩
   rw[HB.out.cell,Nat.zero_add,laidTo_at _ _ _ _ _ hi,if_pos hi]
   rfl
end
section
open Go.RowKit
def zv (l:List Int):List Value:=l.map fun z=>.int .i64 z
theorem zv_append (l m:List Int):zv (l++m)=zv l++zv m:=by simp[zv]
theorem zv_at (l:List Int)(i:Nat)(h:i<l.length):(zv l)[i]?=some (.int .i64 (l.getD i 0)):=by
 simp[zv,List.getElem?_eq_getElem h]
def OwnZ (w:World)(base:Nat)(v:Value)(l:List Int):Prop:=w.ownsRow base 3 1 v l.length (zv l)
theorem OwnZ.nil (w:World)(base:Nat):OwnZ w base (.slice none 0 0) []:=World.ownsRow_nil _ _ _ _
structure IsZ (w:World)(a:Option Addr)(len:Nat)(l:List Int):Prop where
 len_eq:l.length=len
 cells:0<len→∃g off,a=some ⟨g,off,none⟩∧g<w.heap.size∧∀i,i<len→w.cell? ⟨g,off+i,none⟩=some (.int .i64 (l.getD i 0))
theorem OwnZ.isZ {w:World}{base:Nat}{v:Value}{l:List Int}(h:OwnZ w base v l):∃a cap,v=.slice a l.length cap∧IsZ w a l.length l:=by
 obtain⟨h1,h2⟩:=h
 rcases h2 with⟨rfl,h0⟩|⟨g,cap,cur,rfl,hb,hg,hle,hmax,hsz,htk⟩
 ·have:l=[]:=List.eq_nil_of_length_eq_zero h0
  subst this
  exact⟨none,0,rfl,rfl,fun hp=>absurd hp (Nat.lt_irrefl 0)⟩
 ·refine⟨_,cap,rfl,rfl,fun hp=>⟨g,0,rfl,(Array.getElem?_eq_some_iff.1 hg).1,fun i hi=>?_⟩⟩
  have hc:=World.ownsRow.cells (w:=w) (base:=base) (e:=3) (size:=1) (v:=.slice (some ⟨g,0,none⟩) l.length cap) (n:=l.length) (xs:=zv l) ⟨h1,.inr ⟨g,cap,cur,rfl,hb,hg,hle,hmax,hsz,htk⟩⟩ (g:=g) rfl i _ (zv_at l i hi)
  rw[Addr.add_lit] at hc;exact hc
theorem KeepT.grownZ {w w':World}{base:Nat}{v:Value}{l:List Int}(ho:OwnZ w base v l)(hg:w.grownBy w' v.ownBlock):KeepT [3] w w' :=
 ⟨hg.size,fun k o hk hno=>by
  refine(hg.block k (Array.getElem?_eq_some_iff.1 hk).1 (fun eb=>?_)).trans hk
  rcases ho.2 with⟨rfl,_⟩|⟨g,cap,cur,rfl,_,hgb,_⟩
  ·simp[Value.ownBlock] at eb
  ·have hkg:k=g:=by simpa [Value.ownBlock] using eb
   subst hkg
   have:o=.cells cur 3 (0,0):=Option.some.inj (hk.symm.trans hgb)
   exact hno _ _ _ this (by decide)⟩
structure Et where
 k:List UInt8
 v:List UInt8
 deriving DecidableEq
structure EtA where
 a:Option Addr
 c:Nat
 b:Option Addr
 d:Nat
def etc2 (e:Et)(q:EtA):List Value:=[.slice q.a e.k.length q.c,.slice q.b e.v.length q.d]
structure IsE (w:World)(e:Et)(q:EtA):Prop where
 k:IsB w q.a e.k.length q.c e.k
 v:IsB w q.b e.v.length q.d e.v
theorem IsE.below {w w':World}{e:Et}{q:EtA}(h:IsE w e q)(hb:Below w.heap.size w w'):IsE w' e q:=⟨h.k.below hb rfl,h.v.below hb rfl⟩
abbrev Eq3:=Et × EtA
def ets:List Eq3→List Value
 | []=>[]
 | x::l=>etc2 x.1 x.2++ets l
theorem etc_len (x:Eq3):(etc2 x.1 x.2).length=2:=rfl
theorem ets_length (l:List Eq3):(ets l).length=l.length * 2:=by
 induction l with
 | nil=>rfl
 | cons x l ih=>rw[ets,List.length_append,ih,etc_len,List.length_cons];omega
theorem ets_append (l m:List Eq3):ets (l++m)=ets l++ets m:=by
 induction l with
 | nil=>rfl
 | cons x l ih=>rw[List.cons_append,ets,ets,ih,List.append_assoc]
theorem ets_take (l:List Eq3)(k:Nat):ets (l.take k)=(ets l).take (k * 2):=by
 induction k generalizing l with
 | zero=>rfl
 | succ k ih =>
  cases l with
  | nil=>rfl
  | cons x l =>
   rw[List.take_succ_cons,ets,ets,ih,List.take_append,etc_len,List.take_of_length_le (l:=etc2 x.1 x.2) (by rw[etc_len];omega),show (k+1) * 2-2=k * 2 by omega]
theorem ets_drop (l:List Eq3)(k:Nat):ets (l.drop k)=(ets l).drop (k * 2):=by
 induction k generalizing l with
 | zero=>rfl
 | succ k ih =>
  cases l with
  | nil=>rfl
  | cons x l =>
   rw[List.drop_succ_cons,ets,ih,List.drop_append,etc_len,List.drop_of_length_le (l:=etc2 x.1 x.2) (by rw[etc_len];omega),List.nil_append,show (k+1) * 2-2=k * 2 by omega]
theorem ets_at (l:List Eq3)(k j:Nat)(hk:k<l.length)(hj:j<2):(ets l)[k * 2+j]?=(etc2 (l[k]).1 (l[k]).2)[j]?:=by
 have e:(ets l)[k * 2+j]?=((ets l).drop (k * 2))[j]?:=by rw[List.getElem?_drop]
 rw[e,←ets_drop,List.drop_eq_getElem_cons hk,ets,List.getElem?_append_left (by rw[etc_len];exact hj)]
theorem ets_one (l:List Eq3):∀u∈ets l,u.oneCell'=true:=by
 induction l with
 | nil=>intro u hu;cases hu
 | cons x l ih =>
  intro u hu
  rw[ets] at hu
  rcases List.mem_append.1 hu with hu|hu
  ·unfold etc2 at hu
   simp only[List.mem_cons,List.not_mem_nil,or_false] at hu
   rcases hu with rfl|rfl<;>rfl
  ·exact ih u hu
def etZ:Value:=.agg #[.slice none 0 0,.slice none 0 0]
def atE:List Et→List UInt8→Nat
 | [],_=>0
 | e::l,key=>if Op.bytesLess e.k key=true then atE l key+1 else 0
theorem atE_le (l:List Et)(key:List UInt8):atE l key≤l.length:=by
 induction l with
 | nil=>exact Nat.le_refl _
 | cons e l ih=>rw[atE];split<;>simp<;>omega
def et0:Et:=⟨[],[]⟩
theorem atE_lt {l:List Et}{key:List UInt8}:∀i,i<atE l key→Op.bytesLess (l.getD i et0).k key=true:=by
 induction l with
 | nil=>intro i hi;exact absurd hi (Nat.not_lt_zero _)
 | cons e l ih =>
  intro i hi
  rw[atE] at hi
  split at hi
  ·rename_i h
   cases i with
   | zero=>exact h
   | succ i=>exact ih i (by omega)
  ·exact absurd hi (Nat.not_lt_zero _)
theorem atE_at {l:List Et}{key:List UInt8}(h:atE l key<l.length):Op.bytesLess (l.getD (atE l key) et0).k key=false:=by
 induction l with
 | nil=>exact absurd h (Nat.not_lt_zero _)
 | cons e l ih =>
  rw[atE] at h ⊢
  split
  ·rename_i h2
   rw[if_pos h2] at h
   exact ih (by simpa using h)
  ·rename_i h2
   exact Bool.eq_false_iff.2 h2
theorem atE_uniq {l:List Et}{key:List UInt8}{k:Nat}(hk:k≤l.length)(h1:∀i,i<k→Op.bytesLess (l.getD i et0).k key=true)(h2:k<l.length→Op.bytesLess (l.getD k et0).k key=false):k=atE l key:=by
 rcases Nat.lt_trichotomy k (atE l key) with h|h|h
 ·have:=atE_lt k h
  rw[h2 (Nat.lt_of_lt_of_le h (atE_le _ _))] at this
  cases this
 ·exact h
 ·have:=h1 _ h
  rw[atE_at (Nat.lt_of_lt_of_le h hk)] at this
  cases this
def isE (l:List Et)(i:Nat)(key:List UInt8):Bool:=decide (i<l.length)&&((l.getD i et0).k==key)
def putE13 (l:List Et)(key value:List UInt8):List Et:=l.take (atE l key)++⟨key,value⟩::(if isE l (atE l key) key=true then l.drop (atE l key+1) else l.drop (atE l key))
def getE13 (l:List Et)(key:List UInt8):List UInt8:=if isE l (atE l key) key=true then (l.getD (atE l key) et0).v else []
def scanE13 (l:List Et)(from_:List UInt8)(most:Int):List Et:=(l.drop (atE l from_)).take most.toNat
def keyOk (k:List UInt8):Bool:=decide (1≤k.length∧k.length≤100)
def itemOk (k v:List UInt8):Bool:=keyOk k&&decide (k.length+v.length≤240)
theorem lt_irr (x:List UInt8):Op.bytesLess x x=false:=by
 induction x with
 | nil=>rfl
 | cons a x ih=>rw[Op.bytesLess,ih];simp
theorem lt_cons (a b:UInt8)(x y:List UInt8):Op.bytesLess (a::x) (b::y)=(decide (a<b)||(a==b&&Op.bytesLess x y)):=by rw[Op.bytesLess]
theorem lt_tr (x y z:List UInt8)(h1:Op.bytesLess x y=true)(h2:Op.bytesLess y z=true):Op.bytesLess x z=true:=by
 induction x generalizing y z with
 | nil =>
  cases z with
  | nil=>cases y with
   | nil=>exact h1
   | cons b y=>cases h2
  | cons c z=>rfl
 | cons a x ih =>
  cases y with
  | nil=>cases h1
  | cons b y =>
   cases z with
   | nil=>cases h2
   | cons c z =>
    rw[lt_cons,Bool.or_eq_true,Bool.and_eq_true,decide_eq_true_eq,beq_iff_eq] at h1 h2 ⊢
    rcases h1 with h1|⟨e1,h1⟩
    ·rcases h2 with h2|⟨e2,h2⟩
     ·exact .inl (UInt8.lt_trans h1 h2)
     ·exact .inl (e2▸h1)
    ·rcases h2 with h2|⟨e2,h2⟩
     ·exact .inl (e1▸h2)
     ·exact .inr ⟨e1.trans e2,ih y z h1 h2⟩
theorem lt_no {x y:List UInt8}(h:Op.bytesLess y x=true):Op.bytesLess x y=false:=by
 cases h2:Op.bytesLess x y with
 | false=>rfl
 | true=>have:=lt_tr x y x h2 h;rw[lt_irr] at this;cases this
theorem lt_ne {x y:List UInt8}(h:Op.bytesLess y x=true):x≠y:=fun e=>by rw[e,lt_irr] at h;cases h
theorem lt_tot (x y:List UInt8):Op.bytesLess x y=true∨x=y∨Op.bytesLess y x=true:=by
 induction x generalizing y with
 | nil=>cases y with
  | nil=>exact .inr (.inl rfl)
  | cons b y=>exact .inl rfl
 | cons a x ih =>
  cases y with
  | nil=>exact .inr (.inr rfl)
  | cons b y =>
   rw[lt_cons,lt_cons]
   by_cases h:a<b
   ·exact .inl (by rw[decide_eq_true h];rfl)
   ·by_cases h2:b<a
    ·exact .inr (.inr (by rw[decide_eq_true h2];rfl))
    ·have e:a=b:=by
      have h3:¬a.toNat<b.toNat:=fun h'=>h (UInt8.lt_iff_toNat_lt.2 h')
      have h4:¬b.toNat<a.toNat:=fun h'=>h2 (UInt8.lt_iff_toNat_lt.2 h')
      exact UInt8.toNat_inj.1 (by omega)
     subst e
     rcases ih y with h3|h3|h3
     ·exact .inl (by rw[h3];simp)
     ·exact .inr (.inl (by rw[h3]))
     ·exact .inr (.inr (by rw[h3];simp))
def hasE13 (l:List Et)(key:List UInt8):Bool:=isE l (atE l key) key
theorem has_cons (e:Et)(l:List Et)(k:List UInt8):hasE13 (e::l) k=if Op.bytesLess e.k k=true then hasE13 l k else (e.k==k):=by
 unfold hasE13
 rw[atE]
 split
 ·unfold isE;simp
 ·unfold isE;simp
theorem put_nil (k v:List UInt8):putE13 [] k v=[⟨k,v⟩]:=rfl
theorem put_cons (e:Et)(l:List Et)(k v:List UInt8):putE13 (e::l) k v=if Op.bytesLess e.k k=true then e::putE13 l k v else if e.k=k then ⟨k,v⟩::l else ⟨k,v⟩::e::l:=by
 unfold putE13
 by_cases h:Op.bytesLess e.k k=true
 ·have h2:atE (e::l) k=atE l k+1:=by rw[atE,if_pos h]
  have h3:isE (e::l) (atE l k+1) k=isE l (atE l k) k:=by unfold isE;simp
  rw[if_pos h,h2,h3]
  simp
 ·have h2:atE (e::l) k=0:=by rw[atE,if_neg h]
  have h3:isE (e::l) 0 k=(e.k==k):=by unfold isE;simp
  rw[if_neg h,h2,h3]
  by_cases h4:e.k=k
  ·rw[if_pos h4,if_pos (by rw[h4];simp)];rfl
  ·rw[if_neg h4,if_neg (by simpa using h4)];rfl
theorem get_cons (e:Et)(l:List Et)(k:List UInt8):getE13 (e::l) k=if Op.bytesLess e.k k=true then getE13 l k else if e.k=k then e.v else []:=by
 unfold getE13
 by_cases h:Op.bytesLess e.k k=true
 ·have h2:atE (e::l) k=atE l k+1:=by rw[atE,if_pos h]
  have h3:isE (e::l) (atE l k+1) k=isE l (atE l k) k:=by unfold isE;simp
  rw[if_pos h,h2,h3]
  simp
 ·have h2:atE (e::l) k=0:=by rw[atE,if_neg h]
  have h3:isE (e::l) 0 k=(e.k==k):=by unfold isE;simp
  rw[if_neg h,h2,h3]
  by_cases h4:e.k=k
  ·rw[if_pos h4,if_pos (by rw[h4];simp)];rfl
  ·rw[if_neg h4,if_neg (by simpa using h4)]
def AllLt (A:List Et)(k:List UInt8):Prop:=∀e∈A,Op.bytesLess e.k k=true
def AllGt (B:List Et)(k:List UInt8):Prop:=∀e∈B,Op.bytesLess k e.k=true
theorem gt_head {B:List Et}{k:List UInt8}(h:AllGt B k){e:Et}{B':List Et}(hB:B=e::B'):Op.bytesLess e.k k=false∧¬e.k=k:=by
 have:=h e (by rw[hB];exact List.mem_cons_self)
 exact⟨lt_no this,lt_ne this⟩
theorem put_gt {B:List Et}{k:List UInt8}(h:AllGt B k)(v:List UInt8):putE13 B k v=⟨k,v⟩::B:=by
 cases B with
 | nil=>rfl
 | cons e B=>rw[put_cons,if_neg (by rw[(gt_head h rfl).1];simp),if_neg (gt_head h rfl).2]
theorem has_gt {B:List Et}{k:List UInt8}(h:AllGt B k):hasE13 B k=false:=by
 cases B with
 | nil=>rfl
 | cons e B=>rw[has_cons,if_neg (by rw[(gt_head h rfl).1];simp)];simpa using (gt_head h rfl).2
theorem get_gt {B:List Et}{k:List UInt8}(h:AllGt B k):getE13 B k=[]:=by
 cases B with
 | nil=>rfl
 | cons e B=>rw[get_cons,if_neg (by rw[(gt_head h rfl).1];simp),if_neg (gt_head h rfl).2]
theorem AllLt.tail {e:Et}{A:List Et}{k:List UInt8}(h:AllLt (e::A) k):AllLt A k:=fun x hx=>h x (List.mem_cons_of_mem _ hx)
theorem mid_put {A M B:List Et}{k:List UInt8}(hA:AllLt A k)(hB:AllGt B k)(v:List UInt8):putE13 (A++(M++B)) k v=A++(putE13 M k v++B):=by
 induction A with
 | nil =>
  rw[List.nil_append,List.nil_append]
  induction M with
  | nil=>rw[List.nil_append,put_gt hB];rfl
  | cons e M ih =>
   rw[List.cons_append,put_cons,put_cons,ih]
   split
   ·rfl
   ·split<;>rfl
 | cons e A ih=>rw[List.cons_append,put_cons,if_pos (hA e List.mem_cons_self),ih hA.tail];rfl
theorem mid_has {A M B:List Et}{k:List UInt8}(hA:AllLt A k)(hB:AllGt B k):hasE13 (A++(M++B)) k=hasE13 M k:=by
 induction A with
 | nil =>
  rw[List.nil_append]
  induction M with
  | nil=>rw[List.nil_append,has_gt hB];rfl
  | cons e M ih=>rw[List.cons_append,has_cons,has_cons,ih]
 | cons e A ih=>rw[List.cons_append,has_cons,if_pos (hA e List.mem_cons_self),ih hA.tail]
theorem mid_get {A M B:List Et}{k:List UInt8}(hA:AllLt A k)(hB:AllGt B k):getE13 (A++(M++B)) k=getE13 M k:=by
 induction A with
 | nil =>
  rw[List.nil_append]
  induction M with
  | nil=>rw[List.nil_append,get_gt hB];rfl
  | cons e M ih=>rw[List.cons_append,get_cons,get_cons,ih]
 | cons e A ih=>rw[List.cons_append,get_cons,if_pos (hA e List.mem_cons_self),ih hA.tail]
def SrtE (l:List Et):Prop:=l.Pairwise (fun a b=>Op.bytesLess a.k b.k=true)
theorem mem_put {l:List Et}{k v:List UInt8}{x:Et}(h:x∈putE13 l k v):x=⟨k,v⟩∨x∈l:=by
 induction l with
 | nil=>rw[put_nil] at h;exact .inl (List.mem_singleton.1 h)
 | cons e l ih =>
  rw[put_cons] at h
  split at h
  ·rcases List.mem_cons.1 h with h|h
   ·exact .inr (h▸List.mem_cons_self)
   ·rcases ih h with h|h
    ·exact .inl h
    ·exact .inr (List.mem_cons_of_mem _ h)
  ·split at h
   ·rcases List.mem_cons.1 h with h|h
    ·exact .inl h
    ·exact .inr (List.mem_cons_of_mem _ h)
   ·rcases List.mem_cons.1 h with h|h
    ·exact .inl h
    ·exact .inr h
theorem SrtE.put {l:List Et}(h:SrtE l)(k v:List UInt8):SrtE (putE13 l k v):=by
 induction l with
 | nil=>exact List.pairwise_singleton _ _
 | cons e l ih =>
  obtain⟨h1,h2⟩:=List.pairwise_cons.1 h
  rw[put_cons]
  split
  ·rename_i hlt
   refine List.pairwise_cons.2 ⟨fun x hx=>?_,ih h2⟩
   rcases mem_put hx with h3|h3
   ·rw[h3];exact hlt
   ·exact h1 x h3
  ·rename_i hlt
   split
   ·rename_i he
    exact List.pairwise_cons.2 ⟨fun x hx=>by show Op.bytesLess k x.k=true;rw[←he];exact h1 x hx,h2⟩
   ·rename_i he
    have hk:Op.bytesLess k e.k=true:=by
     rcases lt_tot e.k k with h3|h3|h3
     ·exact absurd h3 hlt
     ·exact absurd h3 he
     ·exact h3
    refine List.pairwise_cons.2 ⟨fun x hx=>?_,h⟩
    rcases List.mem_cons.1 hx with h3|h3
    ·rw[h3];exact hk
    ·exact lt_tr _ _ _ hk (h1 x h3)
theorem put_ne (l:List Et)(k v:List UInt8):putE13 l k v≠[]:=by
 cases l with
 | nil=>rw[put_nil];exact List.cons_ne_nil _ _
 | cons e l=>rw[put_cons];split<;>(try split)<;>exact List.cons_ne_nil _ _
def szE (e:Et):Nat:=2+e.k.length+e.v.length
def szL:List Et→Nat
 | []=>0
 | e::l=>szE e+szL l
theorem szL_append (a b:List Et):szL (a++b)=szL a+szL b:=by
 induction a with
 | nil=>rw[List.nil_append,szL];omega
 | cons e a ih=>rw[List.cons_append,szL,szL,ih];omega
theorem szL_put (l:List Et)(k v:List UInt8):szL (putE13 l k v)≤szL l+szE ⟨k,v⟩:=by
 induction l with
 | nil=>rw[put_nil];simp[szL]
 | cons e l ih =>
  rw[put_cons]
  split
  ·rw[szL,szL];omega
  ·split
   ·rw[szL,szL];omega
   ·rw[szL,szL];omega
theorem szL_len {l:List Et}(h:∀e∈l,1≤e.k.length):3 * l.length≤szL l:=by
 induction l with
 | nil=>exact Nat.le_refl _
 | cons e l ih =>
  have h1:=ih (fun x hx=>h x (List.mem_cons_of_mem _ hx))
  have h2:=h e List.mem_cons_self
  rw[szL,List.length_cons]
  unfold szE
  omega
theorem put_len (l:List Et)(k v:List UInt8):(putE13 l k v).length≤l.length+1:=by
 induction l with
 | nil=>exact Nat.le_refl _
 | cons e l ih =>
  rw[put_cons]
  split
  ·rw[List.length_cons,List.length_cons];omega
  ·split
   ·rw[List.length_cons,List.length_cons];omega
   ·simp only[List.length_cons];omega
theorem results_cell1 {P:Program}{fn:Func}{p:Tmp}{ty:TypeId}(h:fn.results=#[.cell p ty])(tmps:Array Value)(w:World)(g:Nat)(x:Value)
  (hp:tmps.getD p undef=.pointer (some ⟨g,0,none⟩)) (hl:(loadVar ty ⟨g,0,none⟩).run P w=.ok x w):(results fn tmps).run P w=.ok x w:=by
 have q1:tmps[p]?.getD undef=.pointer (some ⟨g,0,none⟩):=by simpa using hp
 simp only[results,h]
 simp[q1,asAddr,hl]
theorem results_cellrow {P:Program}{fn:Func}{p:Tmp}{ty:TypeId}(h:fn.results=#[.cell p ty])(tmps:Array Value)(w:World)(g:Nat)(t:TypeId)(cs:Array Value)(fr:Nat × Nat)(d:TypeDesc)
  (hp:tmps.getD p undef=.pointer (some ⟨g,0,none⟩)) (hg:w.heap[g]?=some (.cells cs t fr))
  (hu:P.underlying ty=some d) (hd:(match d with | .struct _ | .array _ _=>true|_=>false)=true) (hi:(P.info? ty).map (·.size)=some cs.size):
  (results fn tmps).run P w=.ok (.agg cs) w:=results_cell1 h tmps w g _ hp (run_loadVar_row w g t ty cs fr d hg hu hd hi)
theorem results_cellrow_tmp {P:Program}{fn:Func}{p u:Tmp}{ty:TypeId}(h:fn.results=#[.cell p ty,.tmp u])(tmps:Array Value)(w:World)(g:Nat)(t:TypeId)(cs:Array Value)(fr:Nat × Nat)(d:TypeDesc)
  (hp:tmps.getD p undef=.pointer (some ⟨g,0,none⟩)) (hg:w.heap[g]?=some (.cells cs t fr))
  (hu:P.underlying ty=some d) (hd:(match d with | .struct _ | .array _ _=>true|_=>false)=true) (hi:(P.info? ty).map (·.size)=some cs.size):
  (results fn tmps).run P w=.ok (.tuple #[.agg cs,tmps.getD u undef]) w:=by
 rw[results_cell_tmp h,hp]
 simp[asAddr,Result.andThen,run_loadVar_row w g t ty cs fr d hg hu hd hi]
structure Rf where
 len:Int
 sum:List UInt8
 secs:List Int
def needL (n:Int):Int:=if n<1 then 0 else (n-1)/512+1
def secOk (l:List Int)(k:Nat):Prop:=∀i,i<k→(51≤l.getD i 0∧l.getD i 0<4096)∧∀x,x<i→l.getD x 0≠l.getD i 0
instance (l:List Int) (k:Nat):Decidable (secOk l k):=by unfold secOk;exact inferInstance
def headOk (r:Rf):Prop:=0≤r.len∧r.len≤6144∧r.sum.length=32∧(r.secs.length:Int)=needL r.len
instance (r:Rf):Decidable (headOk r):=by unfold headOk;exact inferInstance
def pad512 (k:List UInt8):List UInt8:=k.take 512++List.replicate (512-k.length) 0
theorem pad512_len (k:List UInt8):(pad512 k).length=512:=by unfold pad512;rw[List.length_append,List.length_take,List.length_replicate];omega
def roomOk (t:Tl)(j:Jl)(n:Nat):Prop:=n=0∨(n≤freeL (mapL t j) (j.p.n-51)∧(n:Int)≤48-(t.l.length:Int)-1)
instance (t:Tl) (j:Jl) (n:Nat):Decidable (roomOk t j n):=by unfold roomOk;exact inferInstance
def entB (e:Et):List UInt8:=UInt8.ofNat e.k.length::UInt8.ofNat e.v.length::(e.k++e.v)
def entsB:List Et→List UInt8
 | []=>[]
 | e::l=>entB e++entsB l
theorem entB_length (e:Et):(entB e).length=szE e:=by unfold entB szE;simp;omega
theorem entsB_length (l:List Et):(entsB l).length=szL l:=by
 induction l with
 | nil=>rfl
 | cons e l ih=>rw[entsB,List.length_append,entB_length,ih,szL]
theorem entsB_append (a b:List Et):entsB (a++b)=entsB a++entsB b:=by
 induction a with
 | nil=>rfl
 | cons e a ih=>rw[List.cons_append,entsB,entsB,ih,List.append_assoc]
def kidB (i:Nat):List UInt8:=[UInt8.ofNat (i/256),UInt8.ofNat (i%256)]
def kidsB:List Nat→List UInt8
 | []=>[]
 | i::l=>kidB i++kidsB l
theorem kidsB_length (l:List Nat):(kidsB l).length=2 * l.length:=by
 induction l with
 | nil=>rfl
 | cons e l ih=>rw[kidsB,List.length_append,ih,List.length_cons];unfold kidB;simp;omega
theorem kidsB_append (a b:List Nat):kidsB (a++b)=kidsB a++kidsB b:=by
 induction a with
 | nil=>rfl
 | cons e a ih=>rw[List.cons_append,kidsB,kidsB,ih,List.append_assoc]
structure Pg where
 lv:Nat
 es:List Et
 ks:List Nat
def parsE:Nat→List UInt8→Option (List Et × List UInt8)
 | 0,b=>some ([],b)
 | n+1,b =>
  if 2≤b.length∧2+(b.getD 0 0).toNat+(b.getD 1 0).toNat≤b.length then
   (parsE n (b.drop (2+(b.getD 0 0).toNat+(b.getD 1 0).toNat))).map fun x=>(⟨(b.drop 2).take (b.getD 0 0).toNat,(b.drop (2+(b.getD 0 0).toNat)).take (b.getD 1 0).toNat⟩::x.1,x.2)
  else none
def parsK:Nat→List UInt8→Option (List Nat × List UInt8)
 | 0,b=>some ([],b)
 | n+1,b =>
  if 2≤b.length then (parsK n (b.drop 2)).map fun x=>(((b.getD 0 0).toNat * 256+(b.getD 1 0).toNat):: x.1,x.2)
  else none
def zerosL (b:List UInt8):Bool:=b.all (· == 0)
def risE:List Et→Bool
 | []=>true
 | [_]=>true
 | a::b::l=>Op.bytesLess a.k b.k&&risE (b::l)
def rightE (l:List Et):Bool:=l.all (fun e=>itemOk e.k e.v)&&risE l&&decide (0<l.length)
def pgOf (b:List UInt8):Option Pg :=
 if 3≤b.length∧b.getD 0 0=116∧(b.getD 1 0).toNat≤11 then
  if (b.getD 1 0).toNat=0 then
   match parsE (b.getD 2 0).toNat (b.drop 3) with
   | some x=>if rightE x.1=true∧zerosL x.2=true then some ⟨0,x.1,[]⟩ else none
   | none=>none
  else
   match parsK (b.getD 2 0).toNat (b.drop 3) with
   | some x=>if 1<x.1.length∧zerosL x.2=true then some ⟨(b.getD 1 0).toNat,[],x.1⟩ else none
   | none=>none
 else none
def leafB (l:List Et):List UInt8:=pad512 (116::0::UInt8.ofNat l.length::entsB l)
def nodeB (ks:List Nat):List UInt8:=pad512 (116::1::UInt8.ofNat ks.length::kidsB ks)
structure LfOk (l:List Et):Prop where
 ne:l≠[]
 ok:∀e∈l,itemOk e.k e.v=true
 srt:SrtE l
 sz:szL l≤509
theorem item_facts {e:Et}(h:itemOk e.k e.v=true):1≤e.k.length∧e.k.length≤100∧e.k.length+e.v.length≤240:=by
 unfold itemOk keyOk at h
 simp only[Bool.and_eq_true,decide_eq_true_eq] at h
 omega
theorem szE_le {e:Et}(h:itemOk e.k e.v=true):szE e≤242:=by have:=item_facts h;unfold szE;omega
theorem ris_of {l:List Et}(h:SrtE l):risE l=true:=by
 induction l with
 | nil=>rfl
 | cons a l ih =>
  cases l with
  | nil=>rfl
  | cons b l =>
   obtain⟨h1,h2⟩:=List.pairwise_cons.1 h
   rw[risE,h1 b List.mem_cons_self,ih h2];rfl
theorem LfOk.len {l:List Et}(h:LfOk l):l.length≤169:=by
 have:=szL_len (fun e he=>(item_facts (h.ok e he)).1)
 have:=h.sz
 omega
theorem u8_of {n:Nat}(h:n<256):(UInt8.ofNat n).toNat=n:=by simp;omega
theorem pad_eq {b:List UInt8}(h:b.length≤512):pad512 b=b++List.replicate (512-b.length) 0:=by unfold pad512;rw[List.take_of_length_le h]
theorem zeros_rep (n:Nat):zerosL (List.replicate n 0)=true:=by unfold zerosL;simp
theorem parsE_ents (l:List Et)(hl:∀e∈l,itemOk e.k e.v=true)(r:List UInt8):parsE l.length (entsB l++r)=some (l,r):=by
 induction l with
 | nil=>rfl
 | cons e l ih =>
  have hf:=item_facts (hl e List.mem_cons_self)
  have e1:(UInt8.ofNat e.k.length).toNat=e.k.length:=u8_of (by omega)
  have e2:(UInt8.ofNat e.v.length).toNat=e.v.length:=u8_of (by omega)
  have hb:entsB (e::l)++r=UInt8.ofNat e.k.length::UInt8.ofNat e.v.length::(e.k++(e.v++(entsB l++r))):=by
   rw[entsB];unfold entB;simp
  rw[List.length_cons,parsE,hb]
  simp only[List.getD_cons_zero,List.getD_cons_succ,e1,e2]
  have hlen:(UInt8.ofNat e.k.length::UInt8.ofNat e.v.length::(e.k++(e.v++(entsB l++r)))).length=2+e.k.length+e.v.length+(entsB l++r).length:=by simp;omega
  rw[if_pos (by rw[hlen];omega)]
  have d1:(UInt8.ofNat e.k.length::UInt8.ofNat e.v.length::(e.k++(e.v++(entsB l++r)))).drop (2+e.k.length+e.v.length)=entsB l++r:=by
   rw[show 2+e.k.length+e.v.length=(e.k.length+e.v.length)+1+1 by omega,List.drop_succ_cons,List.drop_succ_cons,←List.append_assoc,List.drop_left' (by simp)]
  have d2:(UInt8.ofNat e.k.length::UInt8.ofNat e.v.length::(e.k++(e.v++(entsB l++r)))).drop 2=e.k++(e.v++(entsB l++r)):=rfl
  have d3:(UInt8.ofNat e.k.length::UInt8.ofNat e.v.length::(e.k++(e.v++(entsB l++r)))).drop (2+e.k.length)=e.v++(entsB l++r):=by
   rw[show 2+e.k.length=e.k.length+1+1 by omega,List.drop_succ_cons,List.drop_succ_cons,List.drop_left' rfl]
  rw[d1,d2,d3,ih (fun x hx=>hl x (List.mem_cons_of_mem _ hx)),List.take_left' rfl,List.take_left' rfl]
  rfl
theorem parsK_kids (l:List Nat)(hl:∀i∈l,i<65536)(r:List UInt8):parsK l.length (kidsB l++r)=some (l,r):=by
 induction l with
 | nil=>rfl
 | cons i l ih =>
  have hi:=hl i List.mem_cons_self
  have e1:(UInt8.ofNat (i/256)).toNat=i/256:=u8_of (by omega)
  have e2:(UInt8.ofNat (i%256)).toNat=i%256:=u8_of (by omega)
  have hb:kidsB (i::l)++r=UInt8.ofNat (i/256):: UInt8.ofNat (i%256):: (kidsB l++r):=by rw[kidsB];unfold kidB;simp
  rw[List.length_cons,parsK,hb]
  simp only[List.getD_cons_zero,List.getD_cons_succ,e1,e2]
  rw[if_pos (by simp)]
  rw[show (UInt8.ofNat (i/256):: UInt8.ofNat (i%256):: (kidsB l++r)).drop 2=kidsB l++r from rfl,ih (fun x hx=>hl x (List.mem_cons_of_mem _ hx))]
  simp only[Option.map_some,Option.some.injEq,Prod.mk.injEq,List.cons.injEq,and_true]
  omega
theorem pg_leaf {l:List Et}(h:LfOk l):pgOf (leafB l)=some ⟨0,l,[]⟩:=by
 have hl:=h.len
 have hs:=h.sz
 have hn:0<l.length:=List.length_pos_iff.2 h.ne
 have e3:(UInt8.ofNat l.length).toNat=l.length:=u8_of (by omega)
 have hr:rightE l=true:=by
  unfold rightE
  rw[ris_of h.srt,List.all_eq_true.2 h.ok,decide_eq_true hn]
  rfl
 have hB:leafB l=116::0::UInt8.ofNat l.length::(entsB l++List.replicate (509-szL l) 0):=by
  unfold leafB
  rw[pad_eq (by simp only[List.length_cons];rw[entsB_length];omega)]
  simp only[List.length_cons,entsB_length,List.cons_append]
  rw[show 512-(szL l+1+1+1)=509-szL l by omega]
 unfold pgOf
 rw[hB]
 simp only[List.getD_cons_zero,List.getD_cons_succ,List.length_cons,e3]
 rw[if_pos ⟨by omega,trivial,by decide⟩,if_pos (by decide)]
 rw[show (116::0::UInt8.ofNat l.length::(entsB l++List.replicate (509-szL l) 0)).drop 3=entsB l++List.replicate (509-szL l) 0 from rfl,parsE_ents l h.ok]
 simp only
 rw[if_pos ⟨hr,zeros_rep _⟩]
theorem pg_node {ks:List Nat}(h1:1<ks.length)(h2:ks.length≤254)(h3:∀i∈ks,i<65536):pgOf (nodeB ks)=some ⟨1,[],ks⟩:=by
 have e3:(UInt8.ofNat ks.length).toNat=ks.length:=u8_of (by omega)
 have hB:nodeB ks=116::1::UInt8.ofNat ks.length::(kidsB ks++List.replicate (509-2 * ks.length) 0):=by
  unfold nodeB
  rw[pad_eq (by simp only[List.length_cons];rw[kidsB_length];omega)]
  simp only[List.length_cons,kidsB_length,List.cons_append]
  rw[show 512-(2 * ks.length+1+1+1)=509-2 * ks.length by omega]
 unfold pgOf
 rw[hB]
 simp only[List.getD_cons_zero,List.getD_cons_succ,List.length_cons,e3]
 rw[if_pos ⟨by omega,trivial,by decide⟩,if_neg (by decide)]
 rw[show (116::1::UInt8.ofNat ks.length::(kidsB ks++List.replicate (509-2 * ks.length) 0)).drop 3=kidsB ks++List.replicate (509-2 * ks.length) 0 from rfl,parsK_kids ks h3]
 simp only
 rw[if_pos ⟨h1,zeros_rep _⟩]
 rfl
structure CutOk (l:List Et)(c:Nat):Prop where
 c0:0<c
 c1:c<l.length
 lo:szL (l.take c)≤509
 hi:szL (l.drop c)≤509
def offC (l:List Et)(c:Nat):Nat:=max (2 * szL (l.take c)-szL l) (szL l-2 * szL (l.take c))
theorem szL_cut (l:List Et)(c:Nat):szL (l.take c)+szL (l.drop c)=szL l:=by rw[←szL_append,List.take_append_drop]
theorem szL_take_succ {l:List Et}{c:Nat}(h:c<l.length):szL (l.take (c+1))=szL (l.take c)+szE (l.getD c et0):=by
 rw[List.take_succ_eq_append_getElem h,szL_append,szL,szL]
 simp[h]
theorem cut_some {l:List Et}(hl:∀e∈l,szE e≤242)(h0:509<szL l):∃c,0<c∧c<l.length∧offC l c≤242:=by
 have hm:∀i,i<l.length→szE (l.getD i et0)≤242:=fun i hi=>by
  have:l.getD i et0=l[i]:=by simp[hi]
  rw[this];exact hl _ (List.getElem_mem hi)
 have hex:∃c,szL l≤2 * szL (l.take c)∧c≤l.length∧∀c',c'<c→2 * szL (l.take c')<szL l:=by
  have:∀n,n≤l.length→(∀c',c'≤n→2 * szL (l.take c')<szL l)∨∃c,szL l≤2 * szL (l.take c)∧c≤l.length∧∀c',c'<c→2 * szL (l.take c')<szL l:=by
   intro n
   induction n with
   | zero=>intro _;exact .inl (fun c' hc=>by rw[Nat.le_zero.1 hc];simp[szL];omega)
   | succ n ih =>
    intro hn
    rcases ih (by omega) with h|h
    ·by_cases h2:szL l≤2 * szL (l.take (n+1))
     ·exact .inr ⟨n+1,h2,hn,fun c' hc=>h c' (by omega)⟩
     ·exact .inl (fun c' hc=>by
       by_cases h3:c'=n+1
       ·rw[h3];omega
       ·exact h c' (by omega))
    ·exact .inr h
  rcases this l.length (Nat.le_refl _) with h|h
  ·have:=h l.length (Nat.le_refl _);rw[List.take_length] at this;omega
  ·exact h
 obtain⟨c,h1,h2,h3⟩:=hex
 have hc0:0<c:=by
  rcases Nat.eq_zero_or_pos c with h|h
  ·rw[h] at h1;simp[szL] at h1;omega
  ·exact h
 obtain⟨d,rfl⟩:∃d,c=d+1:=⟨c-1,by omega⟩
 have hs:=szL_take_succ (l:=l) (c:=d) (by omega)
 have hd:=h3 d (by omega)
 have hz:=hm d (by omega)
 have hd0:0<d:=by
  rcases Nat.eq_zero_or_pos d with h|h
  ·rw[h] at hs hd h1 hz;simp only[List.take_zero,szL] at hs;omega
  ·exact h
 by_cases hA:2 * szL (l.take (d+1))-szL l≤242∧d+1<l.length
 ·exact⟨d+1,hc0,hA.2,by unfold offC;omega⟩
 ·refine⟨d,hd0,by omega,?_⟩
  unfold offC
  by_cases h4:d+1<l.length
  ·have:¬2 * szL (l.take (d+1))-szL l≤242:=fun h=>hA ⟨h,h4⟩
   omega
  ·have h5:d+1=l.length:=by omega
   rw[h5,List.take_length] at hs
   omega
theorem cut_ok {l:List Et}{c:Nat}(hl:∀e∈l,szE e≤242)(h0:509<szL l)(h1:szL l≤760)(hc0:0<c)(hc1:c<l.length)(hbest:∀c',0<c'→c'<l.length→offC l c≤offC l c'):CutOk l c:=by
 obtain⟨d,d0,d1,d2⟩:=cut_some hl h0
 have h2:=hbest d d0 d1
 have h3:=szL_cut l c
 have h4:offC l c≤242:=Nat.le_trans h2 d2
 unfold offC at h4
 exact⟨hc0,hc1,by omega,by omega⟩
end
end Go.Proofs.YtpecobmfabmpkaaGreatDoor
