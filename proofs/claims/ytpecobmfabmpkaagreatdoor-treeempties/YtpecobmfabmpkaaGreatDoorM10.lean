/- SpM SpN Pj5 Pj1 Pj2 -/
import Derived.Test.YtpecobmfabmpkaaGreatDoorM9
set_option maxRecDepth 20000
set_option maxHeartbeats 4000000
namespace Go.Proofs.YtpecobmfabmpkaaGreatDoor
open Go.RowKit
theorem flip_all:∀y:Fin 256,∀r:Fin 8,∀s:Fin 8,decide ((y.val ^^^ 2 ^ r.val)/2 ^ s.val%2=1)=(if s.val=r.val then !decide (y.val/2 ^ s.val%2=1) else decide (y.val/2 ^ s.val%2=1)):=by decide +kernel
theorem nth_setX (b:List UInt8)(q x:Nat)(y:UInt8)(h:q<b.length):nth (b.set q y) x=if q=x then y else nth b x:=by
 unfold nth
 rw[List.getD_eq_getElem?_getD,List.getElem?_set,List.getD_eq_getElem?_getD]
 by_cases e:q=x
 ·rw[if_pos e,if_pos h,if_pos e];rfl
 ·rw[if_neg e,if_neg e]
theorem flip_bit (b:List UInt8)(k x:Nat)(hk:k/8<b.length):bitN (flipL b k) x=if x=k then !bitN b k else bitN b x:=by
 unfold bitN flipL
 rw[nth_setX b _ _ _ hk]
 by_cases e:k/8=x/8
 ·rw[if_pos e]
  have hp:2 ^ (k%8)<256:=Nat.lt_of_lt_of_le (Nat.pow_lt_pow_right (by omega) (Nat.mod_lt k (by omega:8>0))) (by decide)
  have h1:(nth b (k/8) ^^^ UInt8.ofNat (2 ^ (k%8))).toNat=(nth b (k/8)).toNat ^^^ 2 ^ (k%8):=by
   rw[UInt8.toNat_xor,UInt8.toNat_ofNat',Nat.mod_eq_of_lt hp]
  rw[h1]
  have h2:=flip_all ⟨(nth b (k/8)).toNat,(nth b (k/8)).toNat_lt⟩ ⟨k%8,Nat.mod_lt _ (by omega)⟩ ⟨x%8,Nat.mod_lt _ (by omega)⟩
  simp only at h2
  rw[h2]
  by_cases hx:x=k
  ·subst hx;rw[if_pos rfl,if_pos rfl]
  ·rw[if_neg (by omega),if_neg hx,e]
 ·rw[if_neg e,if_neg (fun h=>e (by rw[h]))]
theorem find_put (l:Qs)(i:Nat)(b:List UInt8)(z:Int):Tl.find (putQ l i b) z=if z=(i:Int) then some b else Tl.find l z:=by
 unfold Tl.find
 induction l with
 | nil =>
  rw[putQ]
  by_cases e:z=(i:Int)
  ·subst e;simp
  ·rw[if_neg e]
   have h1:(((i:Int)==z):Bool)=false:=beq_eq_false_iff_ne.2 (fun h=>e h.symm)
   simp[List.find?,h1]
 | cons g l ih =>
  rw[putQ]
  split
  ·rename_i h1
   rw[List.find?_cons,List.find?_cons]
   by_cases e:(g.1:Int)=z
   ·have hb:(((g.1:Int)==z):Bool)=true:=by simp[e]
    rw[hb,if_neg (by omega)]
   ·have hb:(((g.1:Int)==z):Bool)=false:=beq_eq_false_iff_ne.2 e
    rw[hb]
    exact ih
  ·split
   ·rename_i h1 h2
    rw[List.find?_cons,List.find?_cons]
    by_cases e:z=(i:Int)
    ·have hb:(((i:Int)==z):Bool)=true:=by simp[e]
     simp only[hb,if_pos e]
     rfl
    ·have hb:(((i:Int)==z):Bool)=false:=beq_eq_false_iff_ne.2 (fun h=>e h.symm)
     have hb2:(((g.1:Int)==z):Bool)=false:=by rw[h2];exact hb
     simp only[hb,hb2,if_neg e]
   ·rw[List.find?_cons]
    by_cases e:z=(i:Int)
    ·have hb:(((i:Int)==z):Bool)=true:=by simp[e]
     simp only[hb,if_pos e]
     rfl
    ·have hb:(((i:Int)==z):Bool)=false:=beq_eq_false_iff_ne.2 (fun h=>e h.symm)
     simp only[hb,if_neg e]
theorem map_write {t:Tl}{j:Jl}{b:List UInt8}(hz:t.wrE j 49 b=0):mapL (t.write j 49 b) j=b:=by
 have h:Tl.find (t.write j 49 b).l 49=some b:=by
  unfold Tl.write
  rw[if_pos hz]
  show Tl.find (putQ t.l 49 b) 49=some b
  rw[find_put]
  exact if_pos rfl
 unfold mapL Tl.rdB
 rw[h]
theorem map_other {t:Tl}{j:Jl}{i:Int}{b:List UInt8}(hk:i≠49):mapL (t.write j i b) j=mapL t j:=by
 have h:Tl.find (t.write j i b).l 49=Tl.find t.l 49:=by
  unfold Tl.write
  split
  ·show Tl.find (putQ t.l i.toNat b) 49=_
   rw[find_put,if_neg (by omega)]
  ·rfl
 unfold mapL Tl.rdB
 rw[h]
theorem own_isB {W:World}{base n cap:Nat}{A:Option Addr}{l:List UInt8}(h:OwnB W base (.slice A n cap) l):IsB W A l.length cap l:=by
 obtain⟨a,c,e,hI⟩:=h.isB
 injection e with e1 e2 e3
 subst e1 e3
 exact hI
theorem tkGo_spec (b:List UInt8):∀(f i:Nat),(tkGo b f i=i+f∧∀x,i≤x→x<i+f→bitN b x=true)∨(i≤tkGo b f i∧tkGo b f i<i+f∧bitN b (tkGo b f i)=false):=by
 intro f
 induction f with
 | zero=>intro i;exact .inl ⟨rfl,fun x h1 h2=>by omega⟩
 | succ f ih =>
  intro i
  rw[tkGo]
  cases hb:bitN b i with
  | false=>rw[if_neg (by simp)];exact .inr ⟨Nat.le_refl _,by omega,hb⟩
  | true =>
   rw[if_pos rfl]
   rcases ih (i+1) with⟨h1,h2⟩|⟨h1,h2,h3⟩
   ·refine .inl ⟨by omega,fun x hx hy=>?_⟩
    by_cases e:x=i
    ·rw[e];exact hb
    ·exact h2 x (by omega) (by omega)
   ·exact .inr ⟨by omega,by omega,h3⟩
def lowN (L:List Int)(a:Int):Nat:=(L.filter fun z=>decide (z<a)).length
theorem low_step (L:List Int)(a:Int)(hn:L.Nodup):lowN L (a+1)=lowN L a+(if a∈L then 1 else 0):=by
 unfold lowN
 induction L with
 | nil=>simp
 | cons z L ih =>
  have hn':=List.nodup_cons.1 hn
  have ih':=ih hn'.2
  rw[List.filter_cons,List.filter_cons]
  by_cases e:z=a
  ·subst e
   rw[if_pos (decide_eq_true (by omega)),if_neg (by simp),List.length_cons,ih',if_neg hn'.1,if_pos (List.mem_cons_self ..)]
  ·have hm:(a∈z::L)=(a∈L):=propext ⟨fun h=>by rcases List.mem_cons.1 h with h|h;exact absurd h.symm e;exact h,fun h=>List.mem_cons_of_mem _ h⟩
   by_cases h:z<a
   ·rw[if_pos (decide_eq_true (by omega)),if_pos (decide_eq_true h),List.length_cons,List.length_cons,ih']
    simp only[hm]
    omega
   ·rw[if_neg (by simp;omega),if_neg (by simp;omega),ih']
    simp only[hm]
theorem write_l {t:Tl}{j:Jl}{i:Nat}{b:List UInt8}(hz:t.wrE j (i:Int) b=0):(t.write j (i:Int) b).l=putQ t.l i b:=by
 unfold Tl.write
 rw[if_pos hz]
 rfl
theorem zero_len:zero512.length=512:=by unfold zero512;exact List.length_replicate
def lessL (L:List Int)(z:Int):List Int:=L.filter fun x=>decide (x≠z)
def nthL (l:Qs)(i:Nat):Nat × List UInt8:=l.getD i (0,[])
structure IsIs (w:World)(a:Option Addr)(len cap:Nat)(l:Qs):Prop where
 len_eq:l.length=len
 cells:0<len→∃B off,a=some ⟨B,off,none⟩∧(∃c fz,w.heap[B]?=some (.cells c 3 fz))∧∀i,i<len→w.cell? ⟨B,off+i,none⟩=some (.int .i64 ((nthL l i).1:Int))
structure IsDt (w:World)(a:Option Addr)(len cap:Nat)(l:Qs):Prop where
 len_eq:l.length=len
 cells:0<len→∃B off,a=some ⟨B,off,none⟩∧(∃c fz,w.heap[B]?=some (.cells c 33 fz))∧∀i,i<len→(nthL l i).2.length=512∧∃g t,w.cell? ⟨B,off+i,none⟩=some (.slice (some ⟨g,0,none⟩) 512 512)∧Blk w g t (bv (nthL l i).2)∧t∈[5,152]
abbrev DT:List TypeId:=[3,33,5,152]
theorem cell_keep {w w':World}{B t o:Nat}{c:Array Value}{fz:Nat × Nat}(hb:w.heap[B]?=some (.cells c t fz)){ts:List TypeId}(hk:KeepT ts w w')(ht:t∉ts):w'.cell? ⟨B,o,none⟩=w.cell? ⟨B,o,none⟩∧w'.heap[B]?=some (.cells c t fz):=by
 have:=hk.same B _ hb (fun c' t' fz' e=>by injection e with _ h2 _;rw[←h2];exact ht)
 refine⟨?_,this⟩
 unfold World.cell?
 rw[this,hb]
theorem IsIs.keep {w w':World}{a:Option Addr}{len cap:Nat}{l:Qs}(h:IsIs w a len cap l){ts:List TypeId}(hk:KeepT ts w w')(ht:∀t∈DT,t∉ts):IsIs w' a len cap l :=
 ⟨h.len_eq,fun hp=>by
  obtain⟨B,off,e,⟨c,fz,hb⟩,hc⟩:=h.cells hp
  have h1:=ht 3 (by simp)
  exact⟨B,off,e,⟨c,fz,(cell_keep (o:=0) hb hk h1).2⟩,fun i hi=>(cell_keep hb hk h1).1.trans (hc i hi)⟩⟩
theorem IsDt.keep {w w':World}{a:Option Addr}{len cap:Nat}{l:Qs}(h:IsDt w a len cap l){ts:List TypeId}(hk:KeepT ts w w')(ht:∀t∈DT,t∉ts):IsDt w' a len cap l :=
 ⟨h.len_eq,fun hp=>by
  obtain⟨B,off,e,⟨c,fz,hb⟩,hc⟩:=h.cells hp
  have h1:=ht 33 (by simp)
  refine⟨B,off,e,⟨c,fz,(cell_keep (o:=0) hb hk h1).2⟩,fun i hi=>?_⟩
  obtain⟨h5,g,t,h6,h7,h8⟩:=hc i hi
  refine⟨h5,g,t,(cell_keep hb hk h1).1.trans h6,hk.blk h7 (ht t ?_),h8⟩
  rcases List.mem_cons.1 h8 with rfl|h9
  ·simp
  ·rw[List.mem_singleton.1 h9];simp⟩
theorem IsIs.on {w w':World}{a:Option Addr}{len cap:Nat}{l:Qs}(h:IsIs w a len cap l)(hb:Below w.heap.size w w'):IsIs w' a len cap l:=h.keep (ts:=[]) (KeepT.of_below hb) (by simp)
theorem IsDt.on {w w':World}{a:Option Addr}{len cap:Nat}{l:Qs}(h:IsDt w a len cap l)(hb:Below w.heap.size w w'):IsDt w' a len cap l:=h.keep (ts:=[]) (KeepT.of_below hb) (by simp)
theorem blk_isB {w:World}{g t:Nat}{b:List UInt8}(h:Blk w g t (bv b))(hb:b.length=512):IsB w (some ⟨g,0,none⟩) 512 512 b :=
 ⟨hb,Nat.le_refl _,by decide,fun e=>(by cases e),fun _=>⟨g,0,rfl,fun i hi=>by rw[h.cell,Nat.zero_add,bv_at b i (by omega)]⟩⟩
theorem codPut (P base m:Nat)(p:Pl)(l:Qs)(pa da:Option Addr)(n pc dc:Nat)(w:World)(h:IsD0 w P base p)(hf:FewM p m)(hm:m+n≤90000)(hp:IsIs w pa n pc l)(hd:IsDt w da n dc l):
  Calls Tryz.prog 60 #[.pointer (some ⟨P,0,none⟩),.slice pa n pc,.slice da n dc] w fun e w'=>e=.returned (.int .i64 (stepsE p l))∧IsD0 w' P base (stepsP p l)∧KeepT PD w w'∧Below base w w':=by
 have HI0:=mkHid h
 have HF0:=mkHid hf
 have HP:=mkHid hp
 have HD:=mkHid hd
 have HN:=mkHid hp.len_eq
 clear h hf hp hd
 go_enter Tryz.func60,Tryz.ntmps60
 go_wp2_with fail
 go_loopw [12] (fun i wr=>∃(k:Nat) (pk:Pl),k≤n∧i=.int .i64 (k:Int)∧Hid (IsD0 wr P base pk)∧Hid (FewM pk (m+k))∧Hid (stepsP p l=stepsP pk (l.drop k)∧stepsE p l=stepsE pk (l.drop k))∧Hid (KeepT PD w wr)∧Hid (Below base w wr)) (fun i _=>n-(Go.RowKit.intOf i).toNat)
 case atStart=>exact⟨0,p,Nat.zero_le _,rfl,HI0,HF0,⟨by rw[List.drop_zero],by rw[List.drop_zero]⟩,KeepT.refl _ _,Below.refl _ _⟩
 case round =>
  obtain⟨k,pk,hk,rfl,HI,HF,HS,HT,HB⟩:=hrel
  by_cases hlt:k<n
  ·obtain⟨B1,o1,rfl,⟨_,_,_⟩,hc1⟩:=(HP.out.keep HT.out (by decide)).cells (by omega)
   obtain⟨B2,o2,rfl,⟨_,_,_⟩,hc2⟩:=(HD.out.keep HT.out (by decide)).cells (by omega)
   have c1:=hc1 k hlt
   obtain⟨h512,g,ty,c2,hbk,hty⟩:=hc2 k hlt
   have hlt':(k:Int)<(n:Int):=by omega
   have hk0:(0:Int)≤(k:Int):=by omega
   have HDr:Hid (l.drop k=nthL l k::l.drop (k+1)):=drop_cons _ k (by rw[HN.out];exact hlt)
   rw[HDr.out] at HS
   have HTy:Hid (ty∉PD):=by
    unfold Hid
    rcases List.mem_cons.1 hty with rfl|h9
    ·decide
    ·rw[List.mem_singleton.1 h9];decide
   have HWr:=writeT (fun _=>False) wr P base pk ((nthL l k).1:Int) (some ⟨g,0,none⟩) 512 (nthL l k).2 HI.out (HF.out.few (by omega)) (fun W hW _=>by rw[h512];exact blk_isB (hW.blk hbk HTy.out) h512)
   rw[h512] at HWr
   have HFn:Hid (FewM (pk.write ((nthL l k).1:Int) (nthL l k).2) (m+(k+1))):=HF.out.write _ _
   have HSy:Hid (pk.wrE ((nthL l k).1:Int) (nthL l k).2=0→stepsP p l=stepsP (pk.write ((nthL l k).1:Int) (nthL l k).2) (l.drop (k+1))∧stepsE p l=stepsE (pk.write ((nthL l k).1:Int) (nthL l k).2) (l.drop (k+1))):=fun hz0=>by
    have:=HS.out
    simp only[stepsP,stepsE,hz0,if_true] at this
    exact this
   have HSn:Hid (¬pk.wrE ((nthL l k).1:Int) (nthL l k).2=0→stepsP p l=pk.write ((nthL l k).1:Int) (nthL l k).2∧stepsE p l=pk.wrE ((nthL l k).1:Int) (nthL l k).2):=fun hz0=>by
    have:=HS.out
    simp only[stepsP,stepsE,hz0,if_false] at this
    exact this
   clear hc1 hc2 hbk hty h512 HTy HDr HS
   generalize (nthL l k).1=ak at *
   generalize (nthL l k).2=bb at *
   cases hz:decide (pk.wrE (ak:Int) bb=0) with
   | true =>
    have hz0:pk.wrE (ak:Int) bb=0:=of_decide_eq_true hz
    have HS2:Hid (stepsP p l=stepsP (pk.write (ak:Int) bb) (l.drop (k+1))∧stepsE p l=stepsE (pk.write (ak:Int) bb) (l.drop (k+1))):=HSy.out hz0
    rw[hz0] at HWr
    clear HSy HSn hz hz0
    go_wp2_with fail
    refine HWr.mono ?_
    rintro e x1 ⟨rfl,hi1,ht1,_,hb1⟩
    have HI1:=mkHid hi1
    have HT1:=mkHid (HT.out.trans ht1)
    have HB1:=mkHid (HB.out.trans hb1)
    clear hi1 ht1 hb1
    go_wp2_with fail
    go_roundw
    case rel=>exact⟨k+1,pk.write (ak:Int) bb,by omega,by go_num,HI1,HFn,HS2,HT1,HB1⟩
    case measure=>simp[Go.RowKit.intOf];omega
   | false =>
    have hz0:¬pk.wrE (ak:Int) bb=0:=of_decide_eq_false hz
    have HS2:Hid (stepsP p l=pk.write (ak:Int) bb∧stepsE p l=pk.wrE (ak:Int) bb):=HSn.out hz0
    clear HSy HSn hz
    generalize pk.wrE (ak:Int) bb=z at *
    have hzb:(z==0)=false:=by rw[beq_eq_false_iff_ne];exact hz0
    go_wp2_with fail
    refine HWr.mono ?_
    rintro e x1 ⟨rfl,hi1,ht1,_,hb1⟩
    have HI1:=mkHid hi1
    have HT1:=mkHid (HT.out.trans ht1)
    have HB1:=mkHid (HB.out.trans hb1)
    clear hi1 ht1 hb1
    go_wp2_with fail
    go_ret
    refine⟨by rw[HS2.out.2];rfl,by rw[HS2.out.1];exact HI1.out,HT1.out,HB1.out⟩
  ·have hge:¬(k:Int)<(n:Int):=by omega
   have hkn:k=n:=by omega
   subst hkn
   have HS2:Hid (stepsP p l=pk.flush∧stepsE p l=pk.flE):=by
    have:=HS.out
    rw[List.drop_of_length_le (by rw[HN.out];exact Nat.le_refl _)] at this
    exact this
   have HFl:=flushT (fun _=>False) wr P base pk HI.out (HF.out.few (by omega))
   clear HS
   go_wp2_with fail
   refine HFl.mono ?_
   rintro e x1 ⟨rfl,hi1,ht1,_,hb1⟩
   have HI1:=mkHid hi1
   have HT1:=mkHid (HT.out.trans ht1)
   have HB1:=mkHid (HB.out.trans hb1)
   clear hi1 ht1 hb1
   go_wp2_with fail
   go_ret
   exact⟨by rw[HS2.out.2];rfl,by rw[HS2.out.1];exact HI1.out,HT1.out,HB1.out⟩
end Go.Proofs.YtpecobmfabmpkaaGreatDoor
namespace Go.Proofs.YtpecobmfabmpkaaGreatDoor
open Go.RowKit Go.Maps
theorem codInArea (i:Int)(n:Nat)(w:World):
  Calls Tryz.prog 61 #[.int .i64 i,.int .i64 (n:Int)] w fun e w'=>e=.returned (.bool (areaI n i))∧w'=w:=by
 by_cases h0:49≤i
 ·have d0:decide (49≤i)=true:=decide_eq_true h0
  have HV:Hid (decide (i<(n:Int))=areaI n i):=by
   unfold Hid areaI;congr 1;exact propext ⟨fun h=>⟨h0,h⟩,fun h=>h.2⟩
  go_enter Tryz.func61,Tryz.ntmps61
  go_wp2
  go_ret
  exact⟨ret_b (by first|rfl|exact HV.out),rfl⟩
 ·have d0:decide (49≤i)=false:=decide_eq_false h0
  have h0':i<49:=by omega
  have HV:Hid (false=areaI n i):=by unfold Hid areaI;exact(decide_eq_false (fun h=>h0 h.1)).symm
  go_enter Tryz.func61,Tryz.ntmps61
  go_wp2
  go_ret
  exact⟨ret_b (by first|rfl|exact HV.out),rfl⟩
theorem codJSize (w:World)(J P base:Nat)(j:Jl)(h:JAt w J P base j):
  Calls Tryz.prog 38 #[.pointer (some ⟨J,0,none⟩)] w fun e w'=>e=.returned (.int .i64 (j.p.n:Int))∧w'=w:=by
 have c0:w.cell? ⟨J,0,none⟩=some (.pointer (some ⟨P,0,none⟩)):=h.blk.cell 0
 have HS:Calls Tryz.prog 59 #[.pointer (some ⟨P,0,none⟩)] w fun e w'=>e=.returned (.int .i64 (j.p.n:Int))∧w'=w:=by
  obtain⟨S,vC,arm,h⟩:=h.d
  exact codSize P S j.p.n w (h.blk.cell 0)
 clear h
 generalize j.p.n=n at *
 go_enter Tryz.func38,Tryz.ntmps38
 go_wp2_with fail
 refine HS.mono ?_
 rintro e w1 ⟨rfl,rfl⟩
 go_wp2_with fail
 go_ret
 exact⟨rfl,rfl⟩
theorem mkMap (t:TypeId)(w:World):(Instr.makeMap t none).run Tryz.prog w=.ok (.map (some w.heap.size)) (w.alloc (.map #[] 0)):=rfl
theorem codBegin (w:World)(J P base:Nat)(j:Jl)(h:JAt w J P base j)(hbs:base≤w.heap.size):
  Calls Tryz.prog 37 #[.pointer (some ⟨J,0,none⟩)] w fun e w'=>(∃T M,e=.returned (.pointer (some ⟨T,0,none⟩))∧TAt w' T J P base ⟨[],false⟩ j M false)∧Below w.heap.size w w':=by
 have HJ:=mkHid h
 clear h
 have hb:Tryz.prog.built 129 [(0,.pointer (some ⟨J,0,none⟩)),(1,.map (some w.heap.size))]=some #[.pointer (some ⟨J,0,none⟩),.map (some w.heap.size),.int .u32 0,.int .i32 0,.int .u32 0,.bool false]:=by kernel_rfl
 have hM:Hid (OwnM (w.alloc (.map #[] 0)) w.heap.size []):=World.ownsMap_made w Tryz.prog 3 secR
 have hb1:Hid (Below w.heap.size w (w.alloc (.map #[] 0))):=(Below.refl _ w).alloc (Nat.le_refl _) _
 have hmk:=mkMap 120 w
 go_enter Tryz.func37,Tryz.ntmps37
 go_wp2_with fail
 go_ret
 have hb2:=hb1.out.alloc hb1.out.size (.cells #[.pointer (some ⟨J,0,none⟩),.map (some w.heap.size),.int .u32 0,.int .i32 0,.int .u32 0,.bool false] 129)
 refine⟨⟨_,w.heap.size,rfl,HJ.out.on hb2,Blk.newAt _ _ _ _ _ (by simp) rfl,Nat.le_succ_of_le hbs,hbs,ownM_on hM.out ((Below.refl _ _).alloc (Nat.le_refl _) _),List.Pairwise.nil,fun g hg=>(by cases hg),fun _=>rfl⟩,hb2⟩
theorem codHeed0 (J:Nat)(w:World):Calls Tryz.prog 63 #[.pointer (some ⟨J,0,none⟩),.int .i64 0] w fun e w'=>(∃x,e=.returned x)∧w'=w:=by
 go_enter Tryz.func63,Tryz.ntmps63
 go_wp2_with fail
 go_end0
 exact⟨⟨_,rfl⟩,rfl⟩
theorem codHeed (w:World)(J P base:Nat)(j:Jl)(z:Int)(hz:¬z=0)(h:JAt w J P base j):
  Calls Tryz.prog 63 #[.pointer (some ⟨J,0,none⟩),.int .i64 z] w fun e w'=>(∃x,e=.returned x)∧w'=w.drew.setCell ⟨J,2,none⟩ (.int .u32 1):=by
 have c2:w.cell? ⟨J,2,none⟩=some (.int .u32 (flag j.dead)):=h.blk.cell 2
 have HS:=atStoreAt J 2 true _ w c2 (h.blk.frozen 2)
 clear h
 go_enter Tryz.func63,Tryz.ntmps63
 go_wp2_with fail
 refine HS.mono ?_
 rintro e w1 ⟨rfl,rfl⟩
 go_wp2_with fail
 go_end0
 exact⟨⟨_,rfl⟩,rfl⟩
theorem jrd {j:Jl}{i:Int}(ho:j.p.off=false)(ha:areaI j.p.n i=true):jrE j.p i=0∧j.p.rdE i=0∧jrB j.p i=j.p.rdB i:=by
 have hin:inR j.p.n i=true:=by
  unfold areaI at ha
  have:=of_decide_eq_true ha
  exact decide_eq_true ⟨by omega,this.2⟩
 have h1:j.p.rdE i=0:=by unfold Pl.rdE Pl.stE;simp[ho,hin]
 refine⟨?_,h1,?_⟩
 ·unfold jrE;rw[ha];simpa using h1
 ·unfold jrB;rw[ha];rfl
theorem codJRead (w:World)(J P base:Nat)(j:Jl)(i:Int)(h:JAt w J P base j)(hf:FewP j.p)(ho:j.p.off=false):
  Calls Tryz.prog 36 #[.pointer (some ⟨J,0,none⟩),.int .i64 i] w fun e w'=>(∃v,e=.returned (.tuple #[v,.int .i64 (jrE j.p i)])∧IsV w' v (jrB j.p i))∧Below w.heap.size w w':=by
 have HZ:=codJSize w J P base j h
 have HA:=codInArea i j.p.n w
 have c0:w.cell? ⟨J,0,none⟩=some (.pointer (some ⟨P,0,none⟩)):=h.blk.cell 0
 have HR:=codRead (fun _=>False) P base j.p i w h.d hf
 have HJ:=mkHid h
 clear h
 cases ha:areaI j.p.n i with
 | false =>
  have HE:Hid (jrE j.p i=50∧jrB j.p i=[]):=by unfold Hid jrE jrB;simp[ha]
  rw[ha] at HA
  clear HR ha
  generalize j.p.n=n at *
  go_enter Tryz.func36,Tryz.ntmps36
  go_wp2_with fail
  refine HZ.mono ?_
  rintro e w1 ⟨rfl,rfl⟩
  go_wp2_with fail
  refine HA.mono ?_
  rintro e w2 ⟨rfl,hw2⟩
  obtain rfl:=hw2.symm
  go_wp2_with fail
  go_ret2
  refine⟨⟨.slice none 0 0,ret_v4 rfl HE.out.1.symm,?_⟩,Below.refl _ _⟩
  rw[HE.out.2];exact⟨none,0,rfl,isB_none _⟩
 | true =>
  obtain⟨h1,h2,h3⟩:=jrd ho ha
  rw[ha] at HA
  rw[h2] at HR
  have HE:=mkHid (And.intro h1 h3)
  have HH:=codHeed0 J
  clear h1 h2 h3 ha
  generalize j.p.n=n at *
  generalize j.p.rdB i=bb at *
  go_enter Tryz.func36,Tryz.ntmps36
  go_wp2_with fail
  refine HZ.mono ?_
  rintro e w1 ⟨rfl,rfl⟩
  go_wp2_with fail
  refine HA.mono ?_
  rintro e w2 ⟨rfl,hw2⟩
  obtain rfl:=hw2.symm
  go_wp2_with fail
  refine HR.mono ?_
  rintro e w3 ⟨⟨a,c,rfl,hB,_⟩,hb3⟩
  have HB:=mkHid hB
  clear hB
  go_wp2_with fail
  refine(HH w3).mono ?_
  rintro e w4 ⟨⟨y,rfl⟩,rfl⟩
  go_wp2_with fail
  go_ret2
  exact⟨⟨.slice a bb.length c,ret_v4 rfl HE.out.1.symm,by rw[HE.out.2];exact⟨a,c,rfl,HB.out⟩⟩,hb3⟩
theorem zeroJ:(Tryz.prog.info? 152).map (·.zero)=some (some (.agg zSec.toArray)):=by kernel_rfl
theorem zvJ (w:World):(zeroValue 152).run Tryz.prog w=.ok (.agg zSec.toArray) w:=by
 have h:=zeroJ
 cases hq:Tryz.prog.info? 152 with
 | none=>rw[hq] at h;cases h
 | some i =>
  rw[hq] at h
  have hz:i.zero=some (.agg zSec.toArray):=by simpa using h
  simp[zeroValue,typeInfo,hq,hz]
theorem infoJ:(Tryz.prog.info? 152).map (·.size)=some 512:=by kernel_rfl
theorem infoJOf {b:List UInt8}(h:b.length=512):(Tryz.prog.info? 152).map (·.size)=some (bv b).length:=by rw[bv_length,h];exact infoJ
theorem infoJOf' {b:List UInt8}(h:b.length=512):(Tryz.prog.info? 152).map (·.size)=some (bv b).toArray.size:=by rw[List.size_toArray];exact infoJOf h
theorem slJ (G:Nat)(w:World):(Instr.sliceAt 152 (.pointer (some ⟨G,0,none⟩)) none none none).run Tryz.prog w=.ok (.slice (some ⟨G,0,none⟩) 512 512) w:=by
 have he:Tryz.prog.elem 152=5:=by kernel_rfl
 have hn:Tryz.prog.arrayLen 152=512:=by kernel_rfl
 have hz:(sizeOf 5).run Tryz.prog w=.ok 1 w:=by
  obtain⟨i0,hi,hz0,hz1,hz2⟩:=info_parts info8
  simp[sizeOf,typeInfo,hi,hz1]
 rw[run_sliceAt_array_all w 152 ⟨G,0,none⟩ (by rw[he,hn];exact Tryz.underlying152),he,hn,hz]
 simp only[Result.andThen,slicedAt,Nat.zero_mul,Addr.add_lit]
 rfl
theorem arrJ (a:Option Addr)(c:Nat)(w:World):(Instr.arrayAt 152 (.slice a 512 c)).run Tryz.prog w=.ok (.pointer a) w:=by
 simp[Instr.arrayAt,run_underlying Tryz.underlying152]
theorem keyI {i:Int}(h0 : -9223372036854775808≤i)(h1:i≤9223372036854775807):keyOf Tryz.prog 3 (.int .i64 i)=some (.int .i64 i):=by
 refine Maps.keyOf_int_mk Tryz.underlying3 ?_
 simp[Lit.wf,IntKind.min,IntKind.max,IntKind.signed,IntKind.bits]
 omega
theorem lookOk {w:World}{M:Nat}{l:Qs}(h:OwnM w M l){i:Int}(h0 : -9223372036854775808≤i)(h1:i≤9223372036854775807):
  (Instr.lookup 120 (.map (some M)) (.int .i64 i) true).run Tryz.prog w=.ok (.tuple #[(Tl.find l i).elim (.agg zSec.toArray) secV,.bool (Tl.find l i).isSome]) w:=by
 obtain⟨v,ps,hr,hv⟩:=h.look_ok (Maps.int_keyed Tryz.underlying3) Tryz.underlying120 (zvJ w) (zd:=.held (.agg zSec.toArray)) (zp:=[]) rfl (keyI h0 h1)
 rw[mapD_at,mapD_has] at *
 have hv2:(DataW.held v:DataW Value)=.held ((Tl.find l i).elim (.agg zSec.toArray) secV):=congrArg Prod.fst (Option.some.inj hv)
 have hv2:=DataW.held.inj hv2
 rw[hr,hv2]
theorem look1 {w:World}{M:Nat}{l:Qs}(h:OwnM w M l){i:Int}(h0 : -9223372036854775808≤i)(h1:i≤9223372036854775807):
  (Instr.lookup 120 (.map (some M)) (.int .i64 i) false).run Tryz.prog w=.ok ((Tl.find l i).elim (.agg zSec.toArray) secV) w:=by
 obtain⟨v,ps,hr,hv⟩:=h.lookup (Maps.int_keyed Tryz.underlying3) Tryz.underlying120 (zvJ w) (zd:=.held (.agg zSec.toArray)) (zp:=[]) rfl (keyI h0 h1)
 rw[mapD_at] at *
 have hv2:(DataW.held v:DataW Value)=.held ((Tl.find l i).elim (.agg zSec.toArray) secV):=congrArg Prod.fst (Option.some.inj hv)
 have hv2:=DataW.held.inj hv2
 rw[hr,hv2]
theorem zAll:zSec.toArray.all (·.oneCell')=true:=by unfold zSec;exact bvAll9 _
theorem zInfo:(Tryz.prog.info? 152).map (·.size)=some zSec.toArray.size:=by rw[List.size_toArray,zSec_length];exact infoJ
theorem find_len {l:Qs}{i:Int}{b:List UInt8}(h:Tl.find l i=some b)(hl:∀g∈l,g.2.length=512∧49≤g.1∧g.1<4096):b.length=512:=by
 unfold Tl.find at h
 obtain⟨g,hg,rfl⟩:=Option.map_eq_some_iff.1 h
 exact(hl g (List.mem_of_find?_eq_some hg)).1
attribute [local go_sem ↓] zvJ slJ
theorem codTRead (w:World)(T J P base:Nat)(t:Tl)(j:Jl)(M:Nat)(tr:Bool)(i:Int)(h:TAt w T J P base t j M tr)(hf:FewP j.p)(ho:j.p.off=false)(h0 : -9223372036854775808≤i)(h1:i≤9223372036854775807):
  Calls Tryz.prog 140 #[.pointer (some ⟨T,0,none⟩),.int .i64 i] w fun e w'=>(∃v,e=.returned (.tuple #[v,.int .i64 (t.rdE j i)])∧IsV w' v (t.rdB j i))∧Below w.heap.size w w':=by
 have c0:w.cell? ⟨T,0,none⟩=some (.pointer (some ⟨J,0,none⟩)):=h.blk.cell 0
 have c1:w.cell? ⟨T,1,none⟩=some (.map (some M)):=h.blk.cell 1
 have hlk:=lookOk h.own h0 h1
 have HT:=mkHid h
 clear h
 have HD0:Hid (Below w.heap.size w (w.alloc (.cells zSec.toArray 152))):=(Below.refl _ w).alloc (Nat.le_refl _) _
 have HR:Hid (Blk (w.alloc (.cells zSec.toArray 152)) w.heap.size 152 zSec):=Blk.new w _ _
 cases hfd:Tl.find t.l i with
 | none =>
  have HE:Hid (t.rdE j i=jrE j.p i∧t.rdB j i=jrB j.p i):=by unfold Hid Tl.rdE Tl.rdB jrE jrB;rw[hfd];exact⟨rfl,rfl⟩
  rw[hfd] at hlk
  have HDW:Hid (Below w.heap.size w ((w.alloc (.cells zSec.toArray 152)).setRow w.heap.size zSec.toArray)):=bel_row HD0.out (Nat.le_refl _) _
  have d0:((w.alloc (.cells zSec.toArray 152)).setRow w.heap.size zSec.toArray).cell? ⟨T,0,none⟩=some (.pointer (some ⟨J,0,none⟩)):=(HDW.out.cell (p:=⟨T,0,none⟩) (cell_lt c0)).trans c0
  have HJR:=codJRead _ J P base j i (HT.out.ja.on HDW.out) hf ho
  clear hfd
  go_enter Tryz.func140,Tryz.ntmps140
  go_wp2_with (refine wpList_store_row rfl 152 _ _ rfl w.heap.size zSec.toArray rfl rfl _ _ HR.out zInfo rfl zAll ?_)
  refine HJR.mono ?_
  rintro e w2 ⟨⟨v,rfl,hv⟩,hb2⟩
  have HV:=mkHid hv
  clear hv
  go_wp2_with fail
  go_ret2
  exact⟨⟨v,by rw[HE.out.1];rfl,by rw[HE.out.2];exact HV.out⟩,HDW.out.trans (hb2.mono HDW.out.size)⟩
 | some b =>
  have HE:Hid (t.rdE j i=0∧t.rdB j i=b):=by unfold Hid Tl.rdE Tl.rdB;rw[hfd];exact⟨rfl,rfl⟩
  have HL:Hid (b.length=512):=find_len hfd HT.out.ok
  rw[hfd] at hlk
  have hlk2:(Instr.lookup 120 (.map (some M)) (.int .i64 i) true).run Tryz.prog w=.ok (.tuple #[.agg (bv b).toArray,.bool true]) w:=hlk
  clear hlk hfd
  have HS6:Hid ((Tryz.prog.info? 152).map (·.size)=some (bv b).toArray.size):=infoJOf' HL.out
  have HS7:Hid (zSec.toArray.size=(bv b).toArray.size):=by unfold Hid;rw[List.size_toArray,List.size_toArray,zSec_length,bv_length,HL.out]
  have HDW:Hid (Below w.heap.size w ((w.alloc (.cells zSec.toArray 152)).setRow w.heap.size (bv b).toArray)):=bel_row HD0.out (Nat.le_refl _) _
  have HBW:Hid (Blk ((w.alloc (.cells zSec.toArray 152)).setRow w.heap.size (bv b).toArray) w.heap.size 152 (bv b)):=HR.out.row _
  go_enter Tryz.func140,Tryz.ntmps140
  go_wp2_with (refine wpList_store_row rfl 152 _ _ rfl w.heap.size (bv b).toArray rfl rfl _ _ HR.out HS6.out HS7.out (bvAll9 b) ?_)
  go_ret2
  refine⟨⟨.slice (some ⟨w.heap.size,0,none⟩) b.length 512,by rw[HE.out.1,HL.out];rfl,?_⟩,HDW.out⟩
  rw[HE.out.2]
  refine⟨_,512,rfl,rfl,Nat.le_of_eq HL.out,by decide,fun e=>(by cases e),fun _=>⟨_,0,rfl,fun i hi=>?_⟩⟩
  rw[HBW.out.cell,Nat.zero_add,bv_at b i hi]
end Go.Proofs.YtpecobmfabmpkaaGreatDoor
