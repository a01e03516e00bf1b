/- Pj6 SpO Tr1 Tr0 Tp0 ResCell Bl0 Bl1 Bl5 Bl8 -/
import Derived.Test.YtpecobmfabmpkaaGreatDoorM10
import Derived.Laws.ResultCell
import Derived.Laws.Rows
set_option maxRecDepth 20000
set_option maxHeartbeats 2000000
namespace Go.Proofs.YtpecobmfabmpkaaGreatDoor
open Go.RowKit
attribute [local go_sem ↓] zvJ slJ
theorem infoI3:(Tryz.prog.info? 3).map (fun i=>(i.zero,i.size,i.bytes))=some (some (.int .i64 0),1,8):=by kernel_rfl
theorem infoS3:(Tryz.prog.info? 33).map (fun i=>(i.zero,i.size,i.bytes))=some (some (.slice none 0 0),1,24):=by kernel_rfl
theorem made_ints (n:Nat):(madeCells (Value.int .i64 0).cells (n * 1)).toList=List.replicate n (.int .i64 0):=by
 simp only[madeCells,Value.cells]
 rw[List.eq_replicate_iff]
 simp[Nat.mod_one]
theorem made_slices (n:Nat):(madeCells (Value.slice none 0 0).cells (n * 1)).toList=List.replicate n (.slice none 0 0):=by
 simp only[madeCells,Value.cells]
 rw[List.eq_replicate_iff]
 simp[Nat.mod_one]
theorem make_ints {ops:Array Oper}{rest:List Oper}{o:Oper}{a:Act}{Q:Exit→Act→World→Prop}(w:World)
  (hg:o.guard=none) (l c:Operand) (hop:o.op=Op.makeSlice 58 l c)
  (n:Nat) (hl:a.eval l=.int .i64 (n:Int)) (hc:a.eval c=.int .i64 (n:Int)) (hn:n≤4096)
  (hK:∀w',Blk w' w.heap.size 3 (List.replicate n (.int .i64 0))→w.grownBy w' none→wpList Tryz.prog ops Q rest (a.put o.dst (.slice (some ⟨w.heap.size,0,none⟩) n n)) w'):
  wpList Tryz.prog ops Q (o::rest) a w:=by
 obtain⟨i0,hi,hz0,hz1,hz2⟩:=info_parts infoI3
 refine wpList_make_full w hg l c 58 hop w.heap.size 3 i0 (.int .i64 0) 1 Tryz.underlying58 hi hz0 hz1 .i64 .i64 n n n hl hc rfl rfl (by rw[hz2];omega) (by unfold maxLen;omega) (Nat.le_refl _) (fun w' h g=>hK w' ?_ g)
 rw[made_ints] at h
 rcases h.2 with⟨h,_⟩|⟨g,cap,cur,e,_,hgb,_,_,hsz,ht⟩
 ·cases h
 ·injection e with e1 _ e3
  have e4:w.heap.size=g:=by injection e1 with e1;injection e1 with e1
  subst e4
  unfold Blk
  rw[hgb,←ht,List.take_of_length_le (by rw[Array.length_toList,hsz,←e3];omega)]
theorem make_slices {ops:Array Oper}{rest:List Oper}{o:Oper}{a:Act}{Q:Exit→Act→World→Prop}(w:World)
  (hg:o.guard=none) (l c:Operand) (hop:o.op=Op.makeSlice 59 l c)
  (n:Nat) (hl:a.eval l=.int .i64 (n:Int)) (hc:a.eval c=.int .i64 (n:Int)) (hn:n≤4096)
  (hK:∀w',Blk w' w.heap.size 33 (List.replicate n (.slice none 0 0))→w.grownBy w' none→wpList Tryz.prog ops Q rest (a.put o.dst (.slice (some ⟨w.heap.size,0,none⟩) n n)) w'):
  wpList Tryz.prog ops Q (o::rest) a w:=by
 obtain⟨i0,hi,hz0,hz1,hz2⟩:=info_parts infoS3
 refine wpList_make_full w hg l c 59 hop w.heap.size 33 i0 (.slice none 0 0) 1 Tryz.underlying59 hi hz0 hz1 .i64 .i64 n n n hl hc rfl rfl (by rw[hz2];omega) (by unfold maxLen;omega) (Nat.le_refl _) (fun w' h g=>hK w' ?_ g)
 rw[made_slices] at h
 rcases h.2 with⟨h,_⟩|⟨g,cap,cur,e,_,hgb,_,_,hsz,ht⟩
 ·cases h
 ·injection e with e1 _ e3
  have e4:w.heap.size=g:=by injection e1 with e1;injection e1 with e1
  subst e4
  unfold Blk
  rw[hgb,←ht,List.take_of_length_le (by rw[Array.length_toList,hsz,←e3];omega)]
def laidTo (f:Nat→Value)(z:Value)(n k:Nat):List Value:=(List.range n).map fun i=>if i<k then f i else z
theorem laidTo_zero (f:Nat→Value)(z:Value)(n:Nat):laidTo f z n 0=List.replicate n z:=by
 unfold laidTo
 rw[List.eq_replicate_iff]
 simp
theorem laidTo_at (f:Nat→Value)(z:Value)(n k i:Nat)(h:i<n):(laidTo f z n k)[i]?=some (if i<k then f i else z):=by
 unfold laidTo
 simp[h]
theorem laidTo_set (f:Nat→Value)(z:Value)(n k:Nat)(h:k<n):(laidTo f z n k).set k (f k)=laidTo f z n (k+1):=by
 apply List.ext_getElem?
 intro i
 by_cases hi:i<n
 ·rw[laidTo_at _ _ _ _ _ hi]
  by_cases e:i=k
  ·subst e
   rw[List.getElem?_set_self (by unfold laidTo;simpa using h),if_pos (by omega)]
  ·rw[List.getElem?_set_ne (by omega),laidTo_at _ _ _ _ _ hi]
   by_cases h2:i<k
   ·rw[if_pos h2,if_pos (by omega)]
   ·rw[if_neg h2,if_neg (by omega)]
 ·rw[List.getElem?_eq_none (by rw[List.length_set];unfold laidTo;simp;omega),List.getElem?_eq_none (by unfold laidTo;simp;omega)]
theorem laidTo_congr {f f':Nat→Value}{z:Value}{n k:Nat}(h:∀i,i<k→f i=f' i):laidTo f z n k=laidTo f' z n k:=by
 unfold laidTo
 refine List.map_congr_left (fun i _=>?_)
 by_cases hi:i<k
 ·rw[if_pos hi,if_pos hi,h i hi]
 ·rw[if_neg hi,if_neg hi]
theorem gr_below {w w':World}(hg:w.grownBy w' none):Below w.heap.size w w':=(Below.refl _ w).grown hg (Nat.le_refl _) (fun k e=>by cases e)
theorem slotQ_nth (l:Qs)(i:Nat)(h:i<l.length):nthL (slotQ l) i=(1+i,(nthL l i).2):=by
 unfold slotQ nthL
 rw[List.getD_eq_getElem?_getD]
 simp[h]
theorem slotQ_len (l:Qs):(slotQ l).length=l.length:=by simp[slotQ]
theorem codSlots (l:Qs)(n:Nat)(hn:l.length=n)(h48:n≤48)(w:World):
  Calls Tryz.prog 192 #[.int .i64 (n:Int)] w fun e w'=>∃S,e=.returned (.slice (some ⟨S,0,none⟩) n n)∧IsIs w' (some ⟨S,0,none⟩) n n (slotQ l)∧Below w.heap.size w w':=by
 have HN:=mkHid hn
 clear hn
 have h48':(n:Int)≤48:=by omega
 go_enter Tryz.func192,Tryz.ntmps192
 go_wp2_with (at_make;refine make_ints w rfl _ _ rfl n rfl rfl (by omega) ?_;intro w1 hB1 hg1;have HB1:=mkHid hB1;have HG1:=mkHid (gr_below hg1);clear hB1 hg1)
 obtain⟨S,hS⟩:∃S,S=w.heap.size:=⟨_,rfl⟩
 have HS:=mkHid hS
 rw[←hS] at HB1 ⊢
 clear hS
 go_loopw [9] (fun i wr=>∃k:Nat,k≤n∧i=.int .i64 (k:Int)∧Hid (Blk wr S 3 (laidTo (fun i=>.int .i64 ((1+i:Nat):Int)) (.int .i64 0) n k))∧Hid (Below w.heap.size w wr)) (fun i _=>n-(Go.RowKit.intOf i).toNat)
 case atStart=>exact⟨0,Nat.zero_le _,rfl,by rw[laidTo_zero];exact HB1,HG1⟩
 case round =>
  obtain⟨k,hk,rfl,HB,HW⟩:=hrel
  clear HB1 HG1
  by_cases hlt:k<n
  ·have hlt':(k:Int)<(n:Int):=by omega
   have hc:wr.cell? ⟨S,k,none⟩=some (.int .i64 0):=by rw[HB.out.cell,laidTo_at _ _ _ _ _ hlt,if_neg (by omega)]
   have hfz:=HB.out.frozen k
   have hk0:(0:Int)≤(k:Int):=by omega
   have HB2:Hid (Blk (wr.setCell ⟨S,k,none⟩ (.int .i64 (1+(k:Int)))) S 3 (laidTo (fun i=>.int .i64 ((1+i:Nat):Int)) (.int .i64 0) n (k+1))):=by
    have:=HB.out.set k (.int .i64 ((1+k:Nat):Int))
    rw[laidTo_set (fun i=>.int .i64 ((1+i:Nat):Int)) _ _ _ hlt] at this
    exact this
   have HW2:Hid (Below w.heap.size w (wr.setCell ⟨S,k,none⟩ (.int .i64 (1+(k:Int))))):=HW.out.trans (bel_one (gr_cell wr S k _) (Nat.le_of_eq HS.out.symm) HB.out.lt)
   clear HB HW
   go_wp2_with fail
   go_roundw
   case rel=>exact⟨k+1,by omega,by go_num,by simpa using HB2,by simpa using HW2⟩
   case measure=>simp[Go.RowKit.intOf];omega
  ·have hge:¬(k:Int)<(n:Int):=by omega
   have hkn:k=n:=by omega
   subst hkn
   go_wp2_with fail
   go_ret
   refine⟨S,rfl,⟨by rw[slotQ_len];exact HN.out,fun _=>⟨S,0,rfl,⟨_,_,HB.out⟩,fun i hi=>?_⟩⟩,HW.out⟩
   rw[HB.out.cell,Nat.zero_add,laidTo_at _ _ _ _ _ hi,if_pos hi,slotQ_nth l i (by rw[HN.out];exact hi)]
def dtv (gs:Nat→Nat)(i:Nat):Value:=.slice (some ⟨gs i,0,none⟩) 512 512
theorem find_nth (l:Qs)(hs:SortQ l)(k:Nat)(hk:k<l.length):Tl.find l ((nthL l k).1:Int)=some (nthL l k).2:=by
 unfold Tl.find nthL
 induction l generalizing k with
 | nil=>simp at hk
 | cons g l ih =>
  obtain⟨h1,h2⟩:=List.pairwise_cons.1 hs
  cases k with
  | zero=>simp[List.getD]
  | succ k =>
   have hk2:k<l.length:=by simpa using hk
   have:=ih h2 k hk2
   rw[List.find?_cons]
   have hm:l.getD k (0,[])∈l:=by rw[List.getD_eq_getElem?_getD,List.getElem?_eq_getElem hk2];exact List.getElem_mem hk2
   have hne:((g.1:Int)==(((g::l).getD (k+1) (0,[])).1:Int))=false:=by
    have:=h1 _ hm
    rw[List.getD_cons_succ]
    rw[beq_eq_false_iff_ne]
    omega
   rw[hne]
   simpa using this
theorem codData (w:World)(T J M:Nat)(l:Qs)(rest:List Value)(h:TIn w T J M l rest)(n pc:Nat)(pa:Option Addr)(hn:l.length=n)(h48:n≤48)(hp:IsIs w pa n pc l):
  Calls Tryz.prog 120 #[.pointer (some ⟨T,0,none⟩),.slice pa n pc] w fun e w'=>∃O,e=.returned (.slice (some ⟨O,0,none⟩) n n)∧IsDt w' (some ⟨O,0,none⟩) n n l∧Below w.heap.size w w':=by
 have HN:=mkHid hn
 have HT:=mkHid h
 have HP:=mkHid hp
 clear hn h hp
 have h48':(n:Int)≤48:=by omega
 go_enter Tryz.func120,Tryz.ntmps120
 go_wp2_with (at_make;refine make_slices w rfl _ _ rfl n rfl rfl (by omega) ?_;intro w1 hB1 hg1;have HB1:=mkHid hB1;have HG1:=mkHid (gr_below hg1);clear hB1 hg1)
 obtain⟨S,hS⟩:∃S,S=w.heap.size:=⟨_,rfl⟩
 have HS:=mkHid hS
 rw[←hS] at HB1 ⊢
 clear hS
 go_loopw [14] (fun i wr=>∃(k:Nat) (gs:Nat→Nat),k≤n∧i=.int .i64 (k:Int)∧Hid (Blk wr S 33 (laidTo (dtv gs) (.slice none 0 0) n k))∧Hid (∀i,i<k→S≠gs i∧Blk wr (gs i) 152 (bv (nthL l i).2))∧Hid (Below w.heap.size w wr)) (fun i _=>n-(Go.RowKit.intOf i).toNat)
 case atStart=>exact⟨0,fun _=>0,Nat.zero_le _,rfl,by rw[laidTo_zero];exact HB1,fun i hi=>absurd hi (Nat.not_lt_zero i),HG1⟩
 case round =>
  obtain⟨k,gs,hk,rfl,HB,HBs,HW⟩:=hrel
  clear HB1 HG1
  by_cases hlt:k<n
  ·have hlt':(k:Int)<(n:Int):=by omega
   have hk0:(0:Int)≤(k:Int):=by omega
   obtain⟨B1,o1,rfl,⟨_,_,_⟩,hc1⟩:=(HP.out.on HW.out).cells (by omega)
   have c1:=hc1 k hlt
   have m1:wr.cell? ⟨T,1,none⟩=some (.map (some M)):=(HT.out.on HW.out).blk.cell 1
   have hkl:k<l.length:=by rw[HN.out];exact hlt
   have hmem:nthL l k∈l:=by unfold nthL;rw[List.getD_eq_getElem?_getD,List.getElem?_eq_getElem hkl];exact List.getElem_mem hkl
   have hok:=HT.out.ok _ hmem
   have hlk:=look1 (HT.out.on HW.out).own (i:=((nthL l k).1:Int)) (by omega) (by omega)
   rw[find_nth l HT.out.sort k hkl] at hlk
   have hlk2:(Instr.lookup 120 (.map (some M)) (.int .i64 ((nthL l k).1:Int)) false).run Tryz.prog wr=.ok (.agg (bv (nthL l k).2).toArray) wr:=hlk
   have HL:Hid ((nthL l k).2.length=512):=hok.1
   have HX:Hid (∀W g,Below wr.heap.size wr W→wr.heap.size≤g→Blk W g 152 (bv (nthL l k).2)→∀i,i<k+1→S≠(fun i=>if i=k then g else gs i) i∧Blk W ((fun i=>if i=k then g else gs i) i) 152 (bv (nthL l i).2)):=fun W g hW hg hB i hi=>by
    have hSl:=HB.out.lt
    by_cases e:i=k
    ·subst e;simp only[if_true];exact⟨by omega,hB⟩
    ·simp only[if_neg e]
     have:=HBs.out i (by omega)
     exact⟨this.1,this.2.on hW⟩
   clear hlk hc1 hmem hok hkl
   generalize (nthL l k).1=ak at *
   generalize (nthL l k).2=bb at *
   have HRw:Hid (Blk (wr.alloc (.cells zSec.toArray 152)) wr.heap.size 152 zSec):=Blk.new wr _ _
   have HS6:Hid ((Tryz.prog.info? 152).map (·.size)=some (bv bb).toArray.size):=infoJOf' HL.out
   have HS7:Hid (zSec.toArray.size=(bv bb).toArray.size):=by unfold Hid;rw[List.size_toArray,List.size_toArray,zSec_length,bv_length,HL.out]
   have HD1:Hid (Below wr.heap.size wr ((wr.alloc (.cells zSec.toArray 152)).setRow wr.heap.size (bv bb).toArray)):=bel_row ((Below.refl _ wr).alloc (Nat.le_refl _) _) (Nat.le_refl _) _
   have HBW:Hid (Blk ((wr.alloc (.cells zSec.toArray 152)).setRow wr.heap.size (bv bb).toArray) wr.heap.size 152 (bv bb)):=HRw.out.row _
   go_upto_region 6 with(refine wpList_store_row rfl 152 _ _ rfl wr.heap.size (bv bb).toArray rfl rfl _ _ HRw.out HS6.out HS7.out (bvAll9 bb) ?_)
   clear HRw HS6 HS7 hlk2 m1 c1
   generalize (wr.alloc (.cells zSec.toArray 152)).setRow wr.heap.size (bv bb).toArray=W1 at *
   have hX1:=mkHid (HX.out W1 wr.heap.size HD1.out (Nat.le_refl _) HBW.out)
   have HB1:=mkHid (HB.out.on HD1.out)
   have HW1:=mkHid (HW.out.trans (HD1.out.mono HW.out.size))
   have hgS:Hid (S≠wr.heap.size):=by unfold Hid;have:=HB.out.lt;omega
   clear HX HBs HB HD1 HBW
   generalize wr.heap.size=g at *
   have hc:W1.cell? ⟨S,k,none⟩=some (.slice none 0 0):=by rw[HB1.out.cell,laidTo_at _ _ _ _ _ hlt,if_neg (by omega)]
   have hfz:=HB1.out.frozen k
   have HB2:Hid (Blk (W1.setCell ⟨S,k,none⟩ (.slice (some ⟨g,0,none⟩) 512 512)) S 33 (laidTo (dtv (fun i=>if i=k then g else gs i)) (.slice none 0 0) n (k+1))):=by
    have h1:=HB1.out
    rw[laidTo_congr (f':=dtv (fun i=>if i=k then g else gs i)) (fun i hi=>by unfold dtv;simp only[if_neg (show ¬i=k by omega)])] at h1
    have h2:=h1.set k (dtv (fun i=>if i=k then g else gs i) k)
    rw[laidTo_set _ _ _ _ hlt] at h2
    have e:dtv (fun i=>if i=k then g else gs i) k=.slice (some ⟨g,0,none⟩) 512 512:=by unfold dtv;simp only[if_true]
    rw[e] at h2
    exact h2
   have HX2:Hid (∀i,i<k+1→S≠(fun i=>if i=k then g else gs i) i∧Blk (W1.setCell ⟨S,k,none⟩ (.slice (some ⟨g,0,none⟩) 512 512)) ((fun i=>if i=k then g else gs i) i) 152 (bv (nthL l i).2)):=fun i hi=>by
    have:=hX1.out i hi
    exact⟨this.1,this.2.other _ _ (fun e=>this.1 e.symm)⟩
   have HW2:Hid (Below w.heap.size w (W1.setCell ⟨S,k,none⟩ (.slice (some ⟨g,0,none⟩) 512 512))):=HW1.out.trans (bel_one (gr_cell W1 S k _) (Nat.le_of_eq HS.out.symm) HB1.out.lt)
   clear HB1 HW1 HW hX1
   go_wp2_with fail
   go_roundw
   case rel=>exact⟨k+1,(fun i=>if i=k then g else gs i),by omega,by go_num,HB2,HX2,HW2⟩
   case measure=>simp[Go.RowKit.intOf];omega
  ·have hge:¬(k:Int)<(n:Int):=by omega
   have hkn:k=n:=by omega
   subst hkn
   go_wp2_with fail
   go_ret
   refine⟨S,rfl,⟨HN.out,fun _=>⟨S,0,rfl,⟨_,_,HB.out⟩,fun i hi=>?_⟩⟩,HW.out⟩
   have hil:i<l.length:=by rw[HN.out];exact hi
   have hmem:nthL l i∈l:=by unfold nthL;rw[List.getD_eq_getElem?_getD,List.getElem?_eq_getElem hil];exact List.getElem_mem hil
   refine⟨(HT.out.ok _ hmem).1,gs i,152,?_,(HBs.out i hi).2,by simp⟩
   rw[HB.out.cell,Nat.zero_add,laidTo_at _ _ _ _ _ hi,if_pos hi]
   rfl
end Go.Proofs.YtpecobmfabmpkaaGreatDoor
namespace Go.Proofs.YtpecobmfabmpkaaGreatDoor
open Go.RowKit
def zv (l:List Int):List Value:=l.map fun z=>.int .i64 z
theorem zv_append (l m:List Int):zv (l++m)=zv l++zv m:=by simp[zv]
theorem zv_at (l:List Int)(i:Nat)(h:i<l.length):(zv l)[i]?=some (.int .i64 (l.getD i 0)):=by
 simp[zv,List.getElem?_eq_getElem h]
def OwnZ (w:World)(base:Nat)(v:Value)(l:List Int):Prop:=w.ownsRow base 3 1 v l.length (zv l)
theorem OwnZ.nil (w:World)(base:Nat):OwnZ w base (.slice none 0 0) []:=World.ownsRow_nil _ _ _ _
structure IsZ (w:World)(a:Option Addr)(len:Nat)(l:List Int):Prop where
 len_eq:l.length=len
 cells:0<len→∃g off,a=some ⟨g,off,none⟩∧g<w.heap.size∧∀i,i<len→w.cell? ⟨g,off+i,none⟩=some (.int .i64 (l.getD i 0))
theorem OwnZ.isZ {w:World}{base:Nat}{v:Value}{l:List Int}(h:OwnZ w base v l):∃a cap,v=.slice a l.length cap∧IsZ w a l.length l:=by
 obtain⟨h1,h2⟩:=h
 rcases h2 with⟨rfl,h0⟩|⟨g,cap,cur,rfl,hb,hg,hle,hmax,hsz,htk⟩
 ·have:l=[]:=List.eq_nil_of_length_eq_zero h0
  subst this
  exact⟨none,0,rfl,rfl,fun hp=>absurd hp (Nat.lt_irrefl 0)⟩
 ·refine⟨_,cap,rfl,rfl,fun hp=>⟨g,0,rfl,(Array.getElem?_eq_some_iff.1 hg).1,fun i hi=>?_⟩⟩
  have hc:=World.ownsRow.cells (w:=w) (base:=base) (e:=3) (size:=1) (v:=.slice (some ⟨g,0,none⟩) l.length cap) (n:=l.length) (xs:=zv l) ⟨h1,.inr ⟨g,cap,cur,rfl,hb,hg,hle,hmax,hsz,htk⟩⟩ (g:=g) rfl i _ (zv_at l i hi)
  rw[Addr.add_lit] at hc;exact hc
theorem KeepT.grownZ {w w':World}{base:Nat}{v:Value}{l:List Int}(ho:OwnZ w base v l)(hg:w.grownBy w' v.ownBlock):KeepT [3] w w' :=
 ⟨hg.size,fun k o hk hno=>by
  refine(hg.block k (Array.getElem?_eq_some_iff.1 hk).1 (fun eb=>?_)).trans hk
  rcases ho.2 with⟨rfl,_⟩|⟨g,cap,cur,rfl,_,hgb,_⟩
  ·simp[Value.ownBlock] at eb
  ·have hkg:k=g:=by simpa [Value.ownBlock] using eb
   subst hkg
   have:o=.cells cur 3 (0,0):=Option.some.inj (hk.symm.trans hgb)
   exact hno _ _ _ this (by decide)⟩
structure Et where
 k:List UInt8
 v:List UInt8
 deriving DecidableEq
structure EtA where
 a:Option Addr
 c:Nat
 b:Option Addr
 d:Nat
def etc2 (e:Et)(q:EtA):List Value:=[.slice q.a e.k.length q.c,.slice q.b e.v.length q.d]
structure IsE (w:World)(e:Et)(q:EtA):Prop where
 k:IsB w q.a e.k.length q.c e.k
 v:IsB w q.b e.v.length q.d e.v
theorem IsE.below {w w':World}{e:Et}{q:EtA}(h:IsE w e q)(hb:Below w.heap.size w w'):IsE w' e q:=⟨h.k.below hb rfl,h.v.below hb rfl⟩
abbrev Eq3:=Et × EtA
def ets:List Eq3→List Value
 | []=>[]
 | x::l=>etc2 x.1 x.2++ets l
theorem etc_len (x:Eq3):(etc2 x.1 x.2).length=2:=rfl
theorem ets_length (l:List Eq3):(ets l).length=l.length * 2:=by
 induction l with
 | nil=>rfl
 | cons x l ih=>rw[ets,List.length_append,ih,etc_len,List.length_cons];omega
theorem ets_append (l m:List Eq3):ets (l++m)=ets l++ets m:=by
 induction l with
 | nil=>rfl
 | cons x l ih=>rw[List.cons_append,ets,ets,ih,List.append_assoc]
theorem ets_take (l:List Eq3)(k:Nat):ets (l.take k)=(ets l).take (k * 2):=by
 induction k generalizing l with
 | zero=>rfl
 | succ k ih =>
  cases l with
  | nil=>rfl
  | cons x l =>
   rw[List.take_succ_cons,ets,ets,ih,List.take_append,etc_len,List.take_of_length_le (l:=etc2 x.1 x.2) (by rw[etc_len];omega),show (k+1) * 2-2=k * 2 by omega]
theorem ets_drop (l:List Eq3)(k:Nat):ets (l.drop k)=(ets l).drop (k * 2):=by
 induction k generalizing l with
 | zero=>rfl
 | succ k ih =>
  cases l with
  | nil=>rfl
  | cons x l =>
   rw[List.drop_succ_cons,ets,ih,List.drop_append,etc_len,List.drop_of_length_le (l:=etc2 x.1 x.2) (by rw[etc_len];omega),List.nil_append,show (k+1) * 2-2=k * 2 by omega]
theorem ets_at (l:List Eq3)(k j:Nat)(hk:k<l.length)(hj:j<2):(ets l)[k * 2+j]?=(etc2 (l[k]).1 (l[k]).2)[j]?:=by
 have e:(ets l)[k * 2+j]?=((ets l).drop (k * 2))[j]?:=by rw[List.getElem?_drop]
 rw[e,←ets_drop,List.drop_eq_getElem_cons hk,ets,List.getElem?_append_left (by rw[etc_len];exact hj)]
theorem ets_one (l:List Eq3):∀u∈ets l,u.oneCell'=true:=by
 induction l with
 | nil=>intro u hu;cases hu
 | cons x l ih =>
  intro u hu
  rw[ets] at hu
  rcases List.mem_append.1 hu with hu|hu
  ·unfold etc2 at hu
   simp only[List.mem_cons,List.not_mem_nil,or_false] at hu
   rcases hu with rfl|rfl<;>rfl
  ·exact ih u hu
def etZ:Value:=.agg #[.slice none 0 0,.slice none 0 0]
def atE:List Et→List UInt8→Nat
 | [],_=>0
 | e::l,key=>if Op.bytesLess e.k key=true then atE l key+1 else 0
theorem atE_le (l:List Et)(key:List UInt8):atE l key≤l.length:=by
 induction l with
 | nil=>exact Nat.le_refl _
 | cons e l ih=>rw[atE];split<;>simp<;>omega
def et0:Et:=⟨[],[]⟩
theorem atE_lt {l:List Et}{key:List UInt8}:∀i,i<atE l key→Op.bytesLess (l.getD i et0).k key=true:=by
 induction l with
 | nil=>intro i hi;exact absurd hi (Nat.not_lt_zero _)
 | cons e l ih =>
  intro i hi
  rw[atE] at hi
  split at hi
  ·rename_i h
   cases i with
   | zero=>exact h
   | succ i=>exact ih i (by omega)
  ·exact absurd hi (Nat.not_lt_zero _)
theorem atE_at {l:List Et}{key:List UInt8}(h:atE l key<l.length):Op.bytesLess (l.getD (atE l key) et0).k key=false:=by
 induction l with
 | nil=>exact absurd h (Nat.not_lt_zero _)
 | cons e l ih =>
  rw[atE] at h ⊢
  split
  ·rename_i h2
   rw[if_pos h2] at h
   exact ih (by simpa using h)
  ·rename_i h2
   exact Bool.eq_false_iff.2 h2
theorem atE_uniq {l:List Et}{key:List UInt8}{k:Nat}(hk:k≤l.length)(h1:∀i,i<k→Op.bytesLess (l.getD i et0).k key=true)(h2:k<l.length→Op.bytesLess (l.getD k et0).k key=false):k=atE l key:=by
 rcases Nat.lt_trichotomy k (atE l key) with h|h|h
 ·have:=atE_lt k h
  rw[h2 (Nat.lt_of_lt_of_le h (atE_le _ _))] at this
  cases this
 ·exact h
 ·have:=h1 _ h
  rw[atE_at (Nat.lt_of_lt_of_le h hk)] at this
  cases this
def isE (l:List Et)(i:Nat)(key:List UInt8):Bool:=decide (i<l.length)&&((l.getD i et0).k==key)
def putE13 (l:List Et)(key value:List UInt8):List Et:=l.take (atE l key)++⟨key,value⟩::(if isE l (atE l key) key=true then l.drop (atE l key+1) else l.drop (atE l key))
def delE13 (l:List Et)(key:List UInt8):List Et:=if isE l (atE l key) key=true then l.take (atE l key)++l.drop (atE l key+1) else l
def scanE13 (l:List Et)(from_:List UInt8)(most:Int):List Et:=(l.drop (atE l from_)).take most.toNat
def keyOk (k:List UInt8):Bool:=decide (1≤k.length∧k.length≤100)
def itemOk (k v:List UInt8):Bool:=keyOk k&&decide (k.length+v.length≤240)
theorem lt_irr (x:List UInt8):Op.bytesLess x x=false:=by
 induction x with
 | nil=>rfl
 | cons a x ih=>rw[Op.bytesLess,ih];simp
theorem lt_cons (a b:UInt8)(x y:List UInt8):Op.bytesLess (a::x) (b::y)=(decide (a<b)||(a==b&&Op.bytesLess x y)):=by rw[Op.bytesLess]
theorem lt_tr (x y z:List UInt8)(h1:Op.bytesLess x y=true)(h2:Op.bytesLess y z=true):Op.bytesLess x z=true:=by
 induction x generalizing y z with
 | nil =>
  cases z with
  | nil=>cases y with
   | nil=>exact h1
   | cons b y=>cases h2
  | cons c z=>rfl
 | cons a x ih =>
  cases y with
  | nil=>cases h1
  | cons b y =>
   cases z with
   | nil=>cases h2
   | cons c z =>
    rw[lt_cons,Bool.or_eq_true,Bool.and_eq_true,decide_eq_true_eq,beq_iff_eq] at h1 h2 ⊢
    rcases h1 with h1|⟨e1,h1⟩
    ·rcases h2 with h2|⟨e2,h2⟩
     ·exact .inl (UInt8.lt_trans h1 h2)
     ·exact .inl (e2▸h1)
    ·rcases h2 with h2|⟨e2,h2⟩
     ·exact .inl (e1▸h2)
     ·exact .inr ⟨e1.trans e2,ih y z h1 h2⟩
theorem lt_no {x y:List UInt8}(h:Op.bytesLess y x=true):Op.bytesLess x y=false:=by
 cases h2:Op.bytesLess x y with
 | false=>rfl
 | true=>have:=lt_tr x y x h2 h;rw[lt_irr] at this;cases this
theorem lt_ne {x y:List UInt8}(h:Op.bytesLess y x=true):x≠y:=fun e=>by rw[e,lt_irr] at h;cases h
theorem lt_tot (x y:List UInt8):Op.bytesLess x y=true∨x=y∨Op.bytesLess y x=true:=by
 induction x generalizing y with
 | nil=>cases y with
  | nil=>exact .inr (.inl rfl)
  | cons b y=>exact .inl rfl
 | cons a x ih =>
  cases y with
  | nil=>exact .inr (.inr rfl)
  | cons b y =>
   rw[lt_cons,lt_cons]
   by_cases h:a<b
   ·exact .inl (by rw[decide_eq_true h];rfl)
   ·by_cases h2:b<a
    ·exact .inr (.inr (by rw[decide_eq_true h2];rfl))
    ·have e:a=b:=by
      have h3:¬a.toNat<b.toNat:=fun h'=>h (UInt8.lt_iff_toNat_lt.2 h')
      have h4:¬b.toNat<a.toNat:=fun h'=>h2 (UInt8.lt_iff_toNat_lt.2 h')
      exact UInt8.toNat_inj.1 (by omega)
     subst e
     rcases ih y with h3|h3|h3
     ·exact .inl (by rw[h3];simp)
     ·exact .inr (.inl (by rw[h3]))
     ·exact .inr (.inr (by rw[h3];simp))
def hasE13 (l:List Et)(key:List UInt8):Bool:=isE l (atE l key) key
theorem has_nil (k:List UInt8):hasE13 [] k=false:=rfl
theorem has_cons (e:Et)(l:List Et)(k:List UInt8):hasE13 (e::l) k=if Op.bytesLess e.k k=true then hasE13 l k else (e.k==k):=by
 unfold hasE13
 rw[atE]
 split
 ·unfold isE;simp
 ·unfold isE;simp
theorem put_nil (k v:List UInt8):putE13 [] k v=[⟨k,v⟩]:=rfl
theorem put_cons (e:Et)(l:List Et)(k v:List UInt8):putE13 (e::l) k v=if Op.bytesLess e.k k=true then e::putE13 l k v else if e.k=k then ⟨k,v⟩::l else ⟨k,v⟩::e::l:=by
 unfold putE13
 by_cases h:Op.bytesLess e.k k=true
 ·have h2:atE (e::l) k=atE l k+1:=by rw[atE,if_pos h]
  have h3:isE (e::l) (atE l k+1) k=isE l (atE l k) k:=by unfold isE;simp
  rw[if_pos h,h2,h3]
  simp
 ·have h2:atE (e::l) k=0:=by rw[atE,if_neg h]
  have h3:isE (e::l) 0 k=(e.k==k):=by unfold isE;simp
  rw[if_neg h,h2,h3]
  by_cases h4:e.k=k
  ·rw[if_pos h4,if_pos (by rw[h4];simp)];rfl
  ·rw[if_neg h4,if_neg (by simpa using h4)];rfl
theorem del_cons (e:Et)(l:List Et)(k:List UInt8):delE13 (e::l) k=if Op.bytesLess e.k k=true then e::delE13 l k else if e.k=k then l else e::l:=by
 unfold delE13
 by_cases h:Op.bytesLess e.k k=true
 ·have h2:atE (e::l) k=atE l k+1:=by rw[atE,if_pos h]
  have h3:isE (e::l) (atE l k+1) k=isE l (atE l k) k:=by unfold isE;simp
  rw[if_pos h,h2,h3]
  split<;>simp
 ·have h2:atE (e::l) k=0:=by rw[atE,if_neg h]
  have h3:isE (e::l) 0 k=(e.k==k):=by unfold isE;simp
  rw[if_neg h,h2,h3]
  by_cases h4:e.k=k
  ·rw[if_pos h4,if_pos (by rw[h4];simp)];rfl
  ·rw[if_neg h4,if_neg (by simpa using h4)]
def AllLt (A:List Et)(k:List UInt8):Prop:=∀e∈A,Op.bytesLess e.k k=true
def AllGt (B:List Et)(k:List UInt8):Prop:=∀e∈B,Op.bytesLess k e.k=true
theorem gt_head {B:List Et}{k:List UInt8}(h:AllGt B k){e:Et}{B':List Et}(hB:B=e::B'):Op.bytesLess e.k k=false∧¬e.k=k:=by
 have:=h e (by rw[hB];exact List.mem_cons_self)
 exact⟨lt_no this,lt_ne this⟩
theorem put_gt {B:List Et}{k:List UInt8}(h:AllGt B k)(v:List UInt8):putE13 B k v=⟨k,v⟩::B:=by
 cases B with
 | nil=>rfl
 | cons e B=>rw[put_cons,if_neg (by rw[(gt_head h rfl).1];simp),if_neg (gt_head h rfl).2]
theorem del_gt {B:List Et}{k:List UInt8}(h:AllGt B k):delE13 B k=B:=by
 cases B with
 | nil=>rfl
 | cons e B=>rw[del_cons,if_neg (by rw[(gt_head h rfl).1];simp),if_neg (gt_head h rfl).2]
theorem has_gt {B:List Et}{k:List UInt8}(h:AllGt B k):hasE13 B k=false:=by
 cases B with
 | nil=>rfl
 | cons e B=>rw[has_cons,if_neg (by rw[(gt_head h rfl).1];simp)];simpa using (gt_head h rfl).2
theorem AllLt.tail {e:Et}{A:List Et}{k:List UInt8}(h:AllLt (e::A) k):AllLt A k:=fun x hx=>h x (List.mem_cons_of_mem _ hx)
theorem mid_put {A M B:List Et}{k:List UInt8}(hA:AllLt A k)(hB:AllGt B k)(v:List UInt8):putE13 (A++(M++B)) k v=A++(putE13 M k v++B):=by
 induction A with
 | nil =>
  rw[List.nil_append,List.nil_append]
  induction M with
  | nil=>rw[List.nil_append,put_gt hB];rfl
  | cons e M ih =>
   rw[List.cons_append,put_cons,put_cons,ih]
   split
   ·rfl
   ·split<;>rfl
 | cons e A ih=>rw[List.cons_append,put_cons,if_pos (hA e List.mem_cons_self),ih hA.tail];rfl
theorem mid_del {A M B:List Et}{k:List UInt8}(hA:AllLt A k)(hB:AllGt B k):delE13 (A++(M++B)) k=A++(delE13 M k++B):=by
 induction A with
 | nil =>
  rw[List.nil_append,List.nil_append]
  induction M with
  | nil=>rw[List.nil_append,del_gt hB];rfl
  | cons e M ih =>
   rw[List.cons_append,del_cons,del_cons,ih]
   split
   ·rfl
   ·split<;>rfl
 | cons e A ih=>rw[List.cons_append,del_cons,if_pos (hA e List.mem_cons_self),ih hA.tail];rfl
theorem mid_has {A M B:List Et}{k:List UInt8}(hA:AllLt A k)(hB:AllGt B k):hasE13 (A++(M++B)) k=hasE13 M k:=by
 induction A with
 | nil =>
  rw[List.nil_append]
  induction M with
  | nil=>rw[List.nil_append,has_gt hB];rfl
  | cons e M ih=>rw[List.cons_append,has_cons,has_cons,ih]
 | cons e A ih=>rw[List.cons_append,has_cons,if_pos (hA e List.mem_cons_self),ih hA.tail]
def SrtE (l:List Et):Prop:=l.Pairwise (fun a b=>Op.bytesLess a.k b.k=true)
theorem mem_put {l:List Et}{k v:List UInt8}{x:Et}(h:x∈putE13 l k v):x=⟨k,v⟩∨x∈l:=by
 induction l with
 | nil=>rw[put_nil] at h;exact .inl (List.mem_singleton.1 h)
 | cons e l ih =>
  rw[put_cons] at h
  split at h
  ·rcases List.mem_cons.1 h with h|h
   ·exact .inr (h▸List.mem_cons_self)
   ·rcases ih h with h|h
    ·exact .inl h
    ·exact .inr (List.mem_cons_of_mem _ h)
  ·split at h
   ·rcases List.mem_cons.1 h with h|h
    ·exact .inl h
    ·exact .inr (List.mem_cons_of_mem _ h)
   ·rcases List.mem_cons.1 h with h|h
    ·exact .inl h
    ·exact .inr h
theorem del_sub (l:List Et)(k:List UInt8):(delE13 l k).Sublist l:=by
 induction l with
 | nil=>exact List.Sublist.refl _
 | cons e l ih =>
  rw[del_cons]
  split
  ·exact ih.cons_cons e
  ·split
   ·exact List.sublist_cons_self e l
   ·exact List.Sublist.refl _
theorem SrtE.put {l:List Et}(h:SrtE l)(k v:List UInt8):SrtE (putE13 l k v):=by
 induction l with
 | nil=>exact List.pairwise_singleton _ _
 | cons e l ih =>
  obtain⟨h1,h2⟩:=List.pairwise_cons.1 h
  rw[put_cons]
  split
  ·rename_i hlt
   refine List.pairwise_cons.2 ⟨fun x hx=>?_,ih h2⟩
   rcases mem_put hx with h3|h3
   ·rw[h3];exact hlt
   ·exact h1 x h3
  ·rename_i hlt
   split
   ·rename_i he
    exact List.pairwise_cons.2 ⟨fun x hx=>by show Op.bytesLess k x.k=true;rw[←he];exact h1 x hx,h2⟩
   ·rename_i he
    have hk:Op.bytesLess k e.k=true:=by
     rcases lt_tot e.k k with h3|h3|h3
     ·exact absurd h3 hlt
     ·exact absurd h3 he
     ·exact h3
    refine List.pairwise_cons.2 ⟨fun x hx=>?_,h⟩
    rcases List.mem_cons.1 hx with h3|h3
    ·rw[h3];exact hk
    ·exact lt_tr _ _ _ hk (h1 x h3)
theorem SrtE.del {l:List Et}(h:SrtE l)(k:List UInt8):SrtE (delE13 l k):=h.sublist (del_sub l k)
theorem put_ne (l:List Et)(k v:List UInt8):putE13 l k v≠[]:=by
 cases l with
 | nil=>rw[put_nil];exact List.cons_ne_nil _ _
 | cons e l=>rw[put_cons];split<;>(try split)<;>exact List.cons_ne_nil _ _
def szE (e:Et):Nat:=2+e.k.length+e.v.length
def szL:List Et→Nat
 | []=>0
 | e::l=>szE e+szL l
theorem szL_append (a b:List Et):szL (a++b)=szL a+szL b:=by
 induction a with
 | nil=>rw[List.nil_append,szL];omega
 | cons e a ih=>rw[List.cons_append,szL,szL,ih];omega
theorem szL_put (l:List Et)(k v:List UInt8):szL (putE13 l k v)≤szL l+szE ⟨k,v⟩:=by
 induction l with
 | nil=>rw[put_nil];simp[szL]
 | cons e l ih =>
  rw[put_cons]
  split
  ·rw[szL,szL];omega
  ·split
   ·rw[szL,szL];omega
   ·rw[szL,szL];omega
theorem szL_del (l:List Et)(k:List UInt8):szL (delE13 l k)≤szL l:=by
 induction l with
 | nil=>exact Nat.le_refl _
 | cons e l ih =>
  rw[del_cons]
  split
  ·rw[szL,szL];omega
  ·split
   ·rw[szL];omega
   ·exact Nat.le_refl _
theorem szL_len {l:List Et}(h:∀e∈l,1≤e.k.length):3 * l.length≤szL l:=by
 induction l with
 | nil=>exact Nat.le_refl _
 | cons e l ih =>
  have h1:=ih (fun x hx=>h x (List.mem_cons_of_mem _ hx))
  have h2:=h e List.mem_cons_self
  rw[szL,List.length_cons]
  unfold szE
  omega
theorem del_len (l:List Et)(k:List UInt8)(h:hasE13 l k=true):(delE13 l k).length+1=l.length:=by
 induction l with
 | nil=>cases h
 | cons e l ih =>
  rw[has_cons] at h
  rw[del_cons]
  split
  ·rename_i h2
   rw[if_pos h2] at h
   rw[List.length_cons,List.length_cons,ih h]
  ·rename_i h2
   rw[if_neg h2] at h
   rw[if_pos (by simpa using h),List.length_cons]
theorem del_no (l:List Et)(k:List UInt8)(h:hasE13 l k=false):delE13 l k=l:=by
 induction l with
 | nil=>rfl
 | cons e l ih =>
  rw[has_cons] at h
  rw[del_cons]
  split
  ·rename_i h2
   rw[if_pos h2] at h
   rw[ih h]
  ·rename_i h2
   rw[if_neg h2] at h
   rw[if_neg (by simpa using h)]
theorem results_cell1 {P:Program}{fn:Func}{p:Tmp}{ty:TypeId}(h:fn.results=#[.cell p ty])(tmps:Array Value)(w:World)(g:Nat)(x:Value)
  (hp:tmps.getD p undef=.pointer (some ⟨g,0,none⟩)) (hl:(loadVar ty ⟨g,0,none⟩).run P w=.ok x w):(results fn tmps).run P w=.ok x w:=by
 have q1:tmps[p]?.getD undef=.pointer (some ⟨g,0,none⟩):=by simpa using hp
 simp only[results,h]
 simp[q1,asAddr,hl]
theorem results_cellrow {P:Program}{fn:Func}{p:Tmp}{ty:TypeId}(h:fn.results=#[.cell p ty])(tmps:Array Value)(w:World)(g:Nat)(t:TypeId)(cs:Array Value)(fr:Nat × Nat)(d:TypeDesc)
  (hp:tmps.getD p undef=.pointer (some ⟨g,0,none⟩)) (hg:w.heap[g]?=some (.cells cs t fr))
  (hu:P.underlying ty=some d) (hd:(match d with | .struct _ | .array _ _=>true|_=>false)=true) (hi:(P.info? ty).map (·.size)=some cs.size):
  (results fn tmps).run P w=.ok (.agg cs) w:=results_cell1 h tmps w g _ hp (run_loadVar_row w g t ty cs fr d hg hu hd hi)
theorem results_cellrow_tmp {P:Program}{fn:Func}{p u:Tmp}{ty:TypeId}(h:fn.results=#[.cell p ty,.tmp u])(tmps:Array Value)(w:World)(g:Nat)(t:TypeId)(cs:Array Value)(fr:Nat × Nat)(d:TypeDesc)
  (hp:tmps.getD p undef=.pointer (some ⟨g,0,none⟩)) (hg:w.heap[g]?=some (.cells cs t fr))
  (hu:P.underlying ty=some d) (hd:(match d with | .struct _ | .array _ _=>true|_=>false)=true) (hi:(P.info? ty).map (·.size)=some cs.size):
  (results fn tmps).run P w=.ok (.tuple #[.agg cs,tmps.getD u undef]) w:=by
 rw[results_cell_tmp h,hp]
 simp[asAddr,Result.andThen,run_loadVar_row w g t ty cs fr d hg hu hd hi]
structure Rf where
 len:Int
 sum:List UInt8
 secs:List Int
def needL (n:Int):Int:=if n<1 then 0 else (n-1)/512+1
def secOk (l:List Int)(k:Nat):Prop:=∀i,i<k→(51≤l.getD i 0∧l.getD i 0<4096)∧∀x,x<i→l.getD x 0≠l.getD i 0
instance (l:List Int) (k:Nat):Decidable (secOk l k):=by unfold secOk;exact inferInstance
def headOk (r:Rf):Prop:=0≤r.len∧r.len≤6144∧r.sum.length=32∧(r.secs.length:Int)=needL r.len
instance (r:Rf):Decidable (headOk r):=by unfold headOk;exact inferInstance
def pad512 (k:List UInt8):List UInt8:=k.take 512++List.replicate (512-k.length) 0
theorem pad512_len (k:List UInt8):(pad512 k).length=512:=by unfold pad512;rw[List.length_append,List.length_take,List.length_replicate];omega
def roomOk (t:Tl)(j:Jl)(n:Nat):Prop:=n=0∨(n≤freeL (mapL t j) (j.p.n-51)∧(n:Int)≤48-(t.l.length:Int)-1)
instance (t:Tl) (j:Jl) (n:Nat):Decidable (roomOk t j n):=by unfold roomOk;exact inferInstance
end Go.Proofs.YtpecobmfabmpkaaGreatDoor
