/- Pj6 SpO Tr1 -/
import Derived.Test.YtpecobmfabmpkaaGreatDoorM9
import Derived.Deep.CutBlock
import Derived.Laws.AppendOwnNone
set_option maxRecDepth 20000
set_option maxHeartbeats 2000000
namespace Go.Proofs.YtpecobmfabmpkaaGreatDoor
open Go.RowKit
attribute [local go_sem ↓] zvJ slJ
theorem infoI3:(Tryz.prog.info? 3).map (fun i=>(i.zero,i.size,i.bytes))=some (some (.int .i64 0),1,8):=by kernel_rfl
theorem infoS3:(Tryz.prog.info? 33).map (fun i=>(i.zero,i.size,i.bytes))=some (some (.slice none 0 0),1,24):=by kernel_rfl
theorem made_ints (n:Nat):(madeCells (Value.int .i64 0).cells (n * 1)).toList=List.replicate n (.int .i64 0):=by
 simp only [madeCells,Value.cells]
 rw [List.eq_replicate_iff]
 simp [Nat.mod_one]
theorem made_slices (n:Nat):(madeCells (Value.slice none 0 0).cells (n * 1)).toList=List.replicate n (.slice none 0 0):=by
 simp only [madeCells,Value.cells]
 rw [List.eq_replicate_iff]
 simp [Nat.mod_one]
theorem make_ints {ops:Array Oper}{rest:List Oper}{o:Oper}{a:Act}{Q:Exit→Act→World→Prop}(w:World)
  (hg:o.guard=none) (l c:Operand) (hop:o.op=Op.makeSlice 58 l c)
  (n:Nat) (hl:a.eval l=.int .i64 (n:Int)) (hc:a.eval c=.int .i64 (n:Int)) (hn:n≤4096)
  (hK:∀ w',Blk w' w.heap.size 3 (List.replicate n (.int .i64 0))→w.grownBy w' none→wpList Tryz.prog ops Q rest (a.put o.dst (.slice (some ⟨w.heap.size,0,none⟩) n n)) w'):
  wpList Tryz.prog ops Q (o::rest) a w:=by
 obtain ⟨i0,hi,hz0,hz1,hz2⟩:=info_parts infoI3
 refine wpList_make_full w hg l c 58 hop w.heap.size 3 i0 (.int .i64 0) 1 Tryz.underlying58 hi hz0 hz1 .i64 .i64 n n n hl hc rfl rfl (by rw [hz2];omega) (by unfold maxLen;omega) (Nat.le_refl _) (fun w' h g=>hK w' ?_ g)
 rw [made_ints] at h
 rcases h.2 with ⟨h,_⟩|⟨g,cap,cur,e,_,hgb,_,_,hsz,ht⟩
 ·cases h
 ·injection e with e1 _ e3
  have e4:w.heap.size=g:=by injection e1 with e1;injection e1 with e1
  subst e4
  unfold Blk
  rw [hgb,←ht,List.take_of_length_le (by rw [Array.length_toList,hsz,←e3];omega)]
theorem make_slices {ops:Array Oper}{rest:List Oper}{o:Oper}{a:Act}{Q:Exit→Act→World→Prop}(w:World)
  (hg:o.guard=none) (l c:Operand) (hop:o.op=Op.makeSlice 59 l c)
  (n:Nat) (hl:a.eval l=.int .i64 (n:Int)) (hc:a.eval c=.int .i64 (n:Int)) (hn:n≤4096)
  (hK:∀ w',Blk w' w.heap.size 33 (List.replicate n (.slice none 0 0))→w.grownBy w' none→wpList Tryz.prog ops Q rest (a.put o.dst (.slice (some ⟨w.heap.size,0,none⟩) n n)) w'):
  wpList Tryz.prog ops Q (o::rest) a w:=by
 obtain ⟨i0,hi,hz0,hz1,hz2⟩:=info_parts infoS3
 refine wpList_make_full w hg l c 59 hop w.heap.size 33 i0 (.slice none 0 0) 1 Tryz.underlying59 hi hz0 hz1 .i64 .i64 n n n hl hc rfl rfl (by rw [hz2];omega) (by unfold maxLen;omega) (Nat.le_refl _) (fun w' h g=>hK w' ?_ g)
 rw [made_slices] at h
 rcases h.2 with ⟨h,_⟩|⟨g,cap,cur,e,_,hgb,_,_,hsz,ht⟩
 ·cases h
 ·injection e with e1 _ e3
  have e4:w.heap.size=g:=by injection e1 with e1;injection e1 with e1
  subst e4
  unfold Blk
  rw [hgb,←ht,List.take_of_length_le (by rw [Array.length_toList,hsz,←e3];omega)]
def laidTo (f:Nat→Value)(z:Value)(n k:Nat):List Value:=(List.range n).map fun i=>if i<k then f i else z
theorem laidTo_zero (f:Nat→Value)(z:Value)(n:Nat):laidTo f z n 0=List.replicate n z:=by
 unfold laidTo
 rw [List.eq_replicate_iff]
 simp
theorem laidTo_at (f:Nat→Value)(z:Value)(n k i:Nat)(h:i<n):(laidTo f z n k)[i]?=some (if i<k then f i else z):=by
 unfold laidTo
 simp [h]
theorem laidTo_set (f:Nat→Value)(z:Value)(n k:Nat)(h:k<n):(laidTo f z n k).set k (f k)=laidTo f z n (k+1):=by
 apply List.ext_getElem?
 intro i
 by_cases hi:i<n
 ·rw [laidTo_at _ _ _ _ _ hi]
  by_cases e:i=k
  ·subst e
   rw [List.getElem?_set_self (by unfold laidTo;simpa using h),if_pos (by omega)]
  ·rw [List.getElem?_set_ne (by omega),laidTo_at _ _ _ _ _ hi]
   by_cases h2:i<k
   ·rw [if_pos h2,if_pos (by omega)]
   ·rw [if_neg h2,if_neg (by omega)]
 ·rw [List.getElem?_eq_none (by rw [List.length_set];unfold laidTo;simp;omega),List.getElem?_eq_none (by unfold laidTo;simp;omega)]
theorem laidTo_congr {f f':Nat→Value}{z:Value}{n k:Nat}(h:∀ i,i<k→f i=f' i):laidTo f z n k=laidTo f' z n k:=by
 unfold laidTo
 refine List.map_congr_left (fun i _=>?_)
 by_cases hi:i<k
 ·rw [if_pos hi,if_pos hi,h i hi]
 ·rw [if_neg hi,if_neg hi]
theorem gr_below {w w':World}(hg:w.grownBy w' none):Below w.heap.size w w':=(Below.refl _ w).grown hg (Nat.le_refl _) (fun k e=>by cases e)
theorem slotQ_nth (l:Qs)(i:Nat)(h:i<l.length):nthL (slotQ l) i=(1+i,(nthL l i).2):=by
 unfold slotQ nthL
 rw [List.getD_eq_getElem?_getD]
 simp [h]
theorem slotQ_len (l:Qs):(slotQ l).length=l.length:=by simp [slotQ]
theorem codSlots (l:Qs)(n:Nat)(hn:l.length=n)(h48:n≤48)(w:World):
  Calls Tryz.prog 192 #[.int .i64 (n:Int)] w fun e w'=>∃ S,e=.returned (.slice (some ⟨S,0,none⟩) n n)∧IsIs w' (some ⟨S,0,none⟩) n n (slotQ l)∧Below w.heap.size w w':=by
 have HN:=mkHid hn
 clear hn
 have h48':(n:Int)≤48:=by omega
 go_enter Tryz.func192,Tryz.ntmps192
 go_wp2_with (at_make;refine make_ints w rfl _ _ rfl n rfl rfl (by omega) ?_;intro w1 hB1 hg1;have HB1:=mkHid hB1;have HG1:=mkHid (gr_below hg1);clear hB1 hg1)
 obtain ⟨S,hS⟩:∃ S,S=w.heap.size:=⟨_,rfl⟩
 have HS:=mkHid hS
 rw [←hS] at HB1 ⊢
 clear hS
 go_loopw [9] (fun i wr=>∃ k:Nat,k≤n∧i=.int .i64 (k:Int)∧Hid (Blk wr S 3 (laidTo (fun i=>.int .i64 ((1+i:Nat):Int)) (.int .i64 0) n k))∧Hid (Below w.heap.size w wr)) (fun i _=>n-(Go.RowKit.intOf i).toNat)
 case atStart=>exact ⟨0,Nat.zero_le _,rfl,by rw [laidTo_zero];exact HB1,HG1⟩
 case round =>
  obtain ⟨k,hk,rfl,HB,HW⟩:=hrel
  clear HB1 HG1
  by_cases hlt:k<n
  ·have hlt':(k:Int)<(n:Int):=by omega
   have hc:wr.cell? ⟨S,k,none⟩=some (.int .i64 0):=by rw [HB.out.cell,laidTo_at _ _ _ _ _ hlt,if_neg (by omega)]
   have hfz:=HB.out.frozen k
   have hk0:(0:Int)≤(k:Int):=by omega
   have HB2:Hid (Blk (wr.setCell ⟨S,k,none⟩ (.int .i64 (1+(k:Int)))) S 3 (laidTo (fun i=>.int .i64 ((1+i:Nat):Int)) (.int .i64 0) n (k+1))):=by
    have:=HB.out.set k (.int .i64 ((1+k:Nat):Int))
    rw [laidTo_set (fun i=>.int .i64 ((1+i:Nat):Int)) _ _ _ hlt] at this
    exact this
   have HW2:Hid (Below w.heap.size w (wr.setCell ⟨S,k,none⟩ (.int .i64 (1+(k:Int))))):=HW.out.trans (bel_one (gr_cell wr S k _) (Nat.le_of_eq HS.out.symm) HB.out.lt)
   clear HB HW
   go_wp2_with fail
   go_roundw
   case rel=>exact ⟨k+1,by omega,by go_num,by simpa using HB2,by simpa using HW2⟩
   case measure=>simp [Go.RowKit.intOf];omega
  ·have hge:¬ (k:Int)<(n:Int):=by omega
   have hkn:k=n:=by omega
   subst hkn
   go_wp2_with fail
   go_ret
   refine ⟨S,rfl,⟨by rw [slotQ_len];exact HN.out,fun _=>⟨S,0,rfl,⟨_,_,HB.out⟩,fun i hi=>?_⟩⟩,HW.out⟩
   rw [HB.out.cell,Nat.zero_add,laidTo_at _ _ _ _ _ hi,if_pos hi,slotQ_nth l i (by rw [HN.out];exact hi)]
def dtv (gs:Nat→Nat)(i:Nat):Value:=.slice (some ⟨gs i,0,none⟩) 512 512
theorem find_nth (l:Qs)(hs:SortQ l)(k:Nat)(hk:k<l.length):Tl.find l ((nthL l k).1:Int)=some (nthL l k).2:=by
 unfold Tl.find nthL
 induction l generalizing k with
 | nil=>simp at hk
 | cons g l ih =>
  obtain ⟨h1,h2⟩:=List.pairwise_cons.1 hs
  cases k with
  | zero=>simp [List.getD]
  | succ k =>
   have hk2:k<l.length:=by simpa using hk
   have:=ih h2 k hk2
   rw [List.find?_cons]
   have hm:l.getD k (0,[])∈l:=by rw [List.getD_eq_getElem?_getD,List.getElem?_eq_getElem hk2];exact List.getElem_mem hk2
   have hne:((g.1:Int)==(((g::l).getD (k+1) (0,[])).1:Int))=false:=by
    have:=h1 _ hm
    rw [List.getD_cons_succ]
    rw [beq_eq_false_iff_ne]
    omega
   rw [hne]
   simpa using this
theorem codData (w:World)(T J M:Nat)(l:Qs)(rest:List Value)(h:TIn w T J M l rest)(n pc:Nat)(pa:Option Addr)(hn:l.length=n)(h48:n≤48)(hp:IsIs w pa n pc l):
  Calls Tryz.prog 120 #[.pointer (some ⟨T,0,none⟩),.slice pa n pc] w fun e w'=>∃ O,e=.returned (.slice (some ⟨O,0,none⟩) n n)∧IsDt w' (some ⟨O,0,none⟩) n n l∧Below w.heap.size w w':=by
 have HN:=mkHid hn
 have HT:=mkHid h
 have HP:=mkHid hp
 clear hn h hp
 have h48':(n:Int)≤48:=by omega
 go_enter Tryz.func120,Tryz.ntmps120
 go_wp2_with (at_make;refine make_slices w rfl _ _ rfl n rfl rfl (by omega) ?_;intro w1 hB1 hg1;have HB1:=mkHid hB1;have HG1:=mkHid (gr_below hg1);clear hB1 hg1)
 obtain ⟨S,hS⟩:∃ S,S=w.heap.size:=⟨_,rfl⟩
 have HS:=mkHid hS
 rw [←hS] at HB1 ⊢
 clear hS
 go_loopw [14] (fun i wr=>∃ (k:Nat) (gs:Nat→Nat),k≤n∧i=.int .i64 (k:Int)∧Hid (Blk wr S 33 (laidTo (dtv gs) (.slice none 0 0) n k))∧Hid (∀ i,i<k→S≠gs i∧Blk wr (gs i) 152 (bv (nthL l i).2))∧Hid (Below w.heap.size w wr)) (fun i _=>n-(Go.RowKit.intOf i).toNat)
 case atStart=>exact ⟨0,fun _=>0,Nat.zero_le _,rfl,by rw [laidTo_zero];exact HB1,fun i hi=>absurd hi (Nat.not_lt_zero i),HG1⟩
 case round =>
  obtain ⟨k,gs,hk,rfl,HB,HBs,HW⟩:=hrel
  clear HB1 HG1
  by_cases hlt:k<n
  ·have hlt':(k:Int)<(n:Int):=by omega
   have hk0:(0:Int)≤(k:Int):=by omega
   obtain ⟨B1,o1,rfl,⟨_,_,_⟩,hc1⟩:=(HP.out.on HW.out).cells (by omega)
   have c1:=hc1 k hlt
   have m1:wr.cell? ⟨T,1,none⟩=some (.map (some M)):=(HT.out.on HW.out).blk.cell 1
   have hkl:k<l.length:=by rw [HN.out];exact hlt
   have hmem:nthL l k∈l:=by unfold nthL;rw [List.getD_eq_getElem?_getD,List.getElem?_eq_getElem hkl];exact List.getElem_mem hkl
   have hok:=HT.out.ok _ hmem
   have hlk:=look1 (HT.out.on HW.out).own (i:=((nthL l k).1:Int)) (by omega) (by omega)
   rw [find_nth l HT.out.sort k hkl] at hlk
   have hlk2:(Instr.lookup 120 (.map (some M)) (.int .i64 ((nthL l k).1:Int)) false).run Tryz.prog wr=.ok (.agg (bv (nthL l k).2).toArray) wr:=hlk
   have HL:Hid ((nthL l k).2.length=512):=hok.1
   have HX:Hid (∀ W g,Below wr.heap.size wr W→wr.heap.size≤g→Blk W g 152 (bv (nthL l k).2)→∀ i,i<k+1→S≠(fun i=>if i=k then g else gs i) i∧Blk W ((fun i=>if i=k then g else gs i) i) 152 (bv (nthL l i).2)):=fun W g hW hg hB i hi=>by
    have hSl:=HB.out.lt
    by_cases e:i=k
    ·subst e;simp only [if_true];exact ⟨by omega,hB⟩
    ·simp only [if_neg e]
     have:=HBs.out i (by omega)
     exact ⟨this.1,this.2.on hW⟩
   clear hlk hc1 hmem hok hkl
   generalize (nthL l k).1=ak at *
   generalize (nthL l k).2=bb at *
   have HRw:Hid (Blk (wr.alloc (.cells zSec.toArray 152)) wr.heap.size 152 zSec):=Blk.new wr _ _
   have HS6:Hid ((Tryz.prog.info? 152).map (·.size)=some (bv bb).toArray.size):=infoJOf' HL.out
   have HS7:Hid (zSec.toArray.size=(bv bb).toArray.size):=by unfold Hid;rw [List.size_toArray,List.size_toArray,zSec_length,bv_length,HL.out]
   have HD1:Hid (Below wr.heap.size wr ((wr.alloc (.cells zSec.toArray 152)).setRow wr.heap.size (bv bb).toArray)):=bel_row ((Below.refl _ wr).alloc (Nat.le_refl _) _) (Nat.le_refl _) _
   have HBW:Hid (Blk ((wr.alloc (.cells zSec.toArray 152)).setRow wr.heap.size (bv bb).toArray) wr.heap.size 152 (bv bb)):=HRw.out.row _
   go_upto_region 6 with (refine wpList_store_row rfl 152 _ _ rfl wr.heap.size (bv bb).toArray rfl rfl _ _ HRw.out HS6.out HS7.out (bvAll9 bb) ?_)
   clear HRw HS6 HS7 hlk2 m1 c1
   generalize (wr.alloc (.cells zSec.toArray 152)).setRow wr.heap.size (bv bb).toArray=W1 at *
   have hX1:=mkHid (HX.out W1 wr.heap.size HD1.out (Nat.le_refl _) HBW.out)
   have HB1:=mkHid (HB.out.on HD1.out)
   have HW1:=mkHid (HW.out.trans (HD1.out.mono HW.out.size))
   have hgS:Hid (S≠wr.heap.size):=by unfold Hid;have:=HB.out.lt;omega
   clear HX HBs HB HD1 HBW
   generalize wr.heap.size=g at *
   have hc:W1.cell? ⟨S,k,none⟩=some (.slice none 0 0):=by rw [HB1.out.cell,laidTo_at _ _ _ _ _ hlt,if_neg (by omega)]
   have hfz:=HB1.out.frozen k
   have HB2:Hid (Blk (W1.setCell ⟨S,k,none⟩ (.slice (some ⟨g,0,none⟩) 512 512)) S 33 (laidTo (dtv (fun i=>if i=k then g else gs i)) (.slice none 0 0) n (k+1))):=by
    have h1:=HB1.out
    rw [laidTo_congr (f':=dtv (fun i=>if i=k then g else gs i)) (fun i hi=>by unfold dtv;simp only [if_neg (show ¬ i=k by omega)])] at h1
    have h2:=h1.set k (dtv (fun i=>if i=k then g else gs i) k)
    rw [laidTo_set _ _ _ _ hlt] at h2
    have e:dtv (fun i=>if i=k then g else gs i) k=.slice (some ⟨g,0,none⟩) 512 512:=by unfold dtv;simp only [if_true]
    rw [e] at h2
    exact h2
   have HX2:Hid (∀ i,i<k+1→S≠(fun i=>if i=k then g else gs i) i∧Blk (W1.setCell ⟨S,k,none⟩ (.slice (some ⟨g,0,none⟩) 512 512)) ((fun i=>if i=k then g else gs i) i) 152 (bv (nthL l i).2)):=fun i hi=>by
    have:=hX1.out i hi
    exact ⟨this.1,this.2.other _ _ (fun e=>this.1 e.symm)⟩
   have HW2:Hid (Below w.heap.size w (W1.setCell ⟨S,k,none⟩ (.slice (some ⟨g,0,none⟩) 512 512))):=HW1.out.trans (bel_one (gr_cell W1 S k _) (Nat.le_of_eq HS.out.symm) HB1.out.lt)
   clear HB1 HW1 HW hX1
   go_wp2_with fail
   go_roundw
   case rel=>exact ⟨k+1,(fun i=>if i=k then g else gs i),by omega,by go_num,HB2,HX2,HW2⟩
   case measure=>simp [Go.RowKit.intOf];omega
  ·have hge:¬ (k:Int)<(n:Int):=by omega
   have hkn:k=n:=by omega
   subst hkn
   go_wp2_with fail
   go_ret
   refine ⟨S,rfl,⟨HN.out,fun _=>⟨S,0,rfl,⟨_,_,HB.out⟩,fun i hi=>?_⟩⟩,HW.out⟩
   have hil:i<l.length:=by rw [HN.out];exact hi
   have hmem:nthL l i∈l:=by unfold nthL;rw [List.getD_eq_getElem?_getD,List.getElem?_eq_getElem hil];exact List.getElem_mem hil
   refine ⟨(HT.out.ok _ hmem).1,gs i,152,?_,(HBs.out i hi).2,by simp⟩
   rw [HB.out.cell,Nat.zero_add,laidTo_at _ _ _ _ _ hi,if_pos hi]
   rfl
end Go.Proofs.YtpecobmfabmpkaaGreatDoor
namespace Go.Proofs.YtpecobmfabmpkaaGreatDoor
open Go.RowKit
def zv (l:List Int):List Value:=l.map fun z=>.int .i64 z
theorem zv_append (l m:List Int):zv (l++m)=zv l++zv m:=by simp [zv]
theorem zv_at (l:List Int)(i:Nat)(h:i<l.length):(zv l)[i]?=some (.int .i64 (l.getD i 0)):=by
 simp [zv,List.getElem?_eq_getElem h]
def OwnZ (w:World)(base:Nat)(v:Value)(l:List Int):Prop:=w.ownsRow base 3 1 v l.length (zv l)
theorem OwnZ.nil (w:World)(base:Nat):OwnZ w base (.slice none 0 0) []:=World.ownsRow_nil _ _ _ _
structure IsZ (w:World)(a:Option Addr)(len:Nat)(l:List Int):Prop where
 len_eq:l.length=len
 cells:0<len→∃ g off,a=some ⟨g,off,none⟩∧g<w.heap.size∧∀ i,i<len→w.cell? ⟨g,off+i,none⟩=some (.int .i64 (l.getD i 0))
theorem OwnZ.isZ {w:World}{base:Nat}{v:Value}{l:List Int}(h:OwnZ w base v l):∃ a cap,v=.slice a l.length cap∧IsZ w a l.length l:=by
 obtain ⟨h1,h2⟩:=h
 rcases h2 with ⟨rfl,h0⟩|⟨g,cap,cur,rfl,hb,hg,hle,hmax,hsz,htk⟩
 ·have:l=[]:=List.eq_nil_of_length_eq_zero h0
  subst this
  exact ⟨none,0,rfl,rfl,fun hp=>absurd hp (Nat.lt_irrefl 0)⟩
 ·refine ⟨_,cap,rfl,rfl,fun hp=>⟨g,0,rfl,(Array.getElem?_eq_some_iff.1 hg).1,fun i hi=>?_⟩⟩
  have hc:=World.ownsRow.cells (w:=w) (base:=base) (e:=3) (size:=1) (v:=.slice (some ⟨g,0,none⟩) l.length cap) (n:=l.length) (xs:=zv l) ⟨h1,.inr ⟨g,cap,cur,rfl,hb,hg,hle,hmax,hsz,htk⟩⟩ (g:=g) rfl i _ (zv_at l i hi)
  rw [Addr.add_lit] at hc;exact hc
theorem KeepT.grownZ {w w':World}{base:Nat}{v:Value}{l:List Int}(ho:OwnZ w base v l)(hg:w.grownBy w' v.ownBlock):KeepT [3] w w' :=
 ⟨hg.size,fun k o hk hno=>by
  refine (hg.block k (Array.getElem?_eq_some_iff.1 hk).1 (fun eb=>?_)).trans hk
  rcases ho.2 with ⟨rfl,_⟩|⟨g,cap,cur,rfl,_,hgb,_⟩
  ·simp [Value.ownBlock] at eb
  ·have hkg:k=g:=by simpa [Value.ownBlock] using eb
   subst hkg
   have:o=.cells cur 3 (0,0):=Option.some.inj (hk.symm.trans hgb)
   exact hno _ _ _ this (by decide)⟩
structure Et where
 k:List UInt8
 v:List UInt8
 deriving DecidableEq
structure EtA where
 a:Option Addr
 c:Nat
 b:Option Addr
 d:Nat
def etc2 (e:Et)(q:EtA):List Value:=[.slice q.a e.k.length q.c,.slice q.b e.v.length q.d]
structure IsE (w:World)(e:Et)(q:EtA):Prop where
 k:IsB w q.a e.k.length q.c e.k
 v:IsB w q.b e.v.length q.d e.v
theorem IsE.below {w w':World}{e:Et}{q:EtA}(h:IsE w e q)(hb:Below w.heap.size w w'):IsE w' e q:=⟨h.k.below hb rfl,h.v.below hb rfl⟩
def EtK (w:World)(e:Et)(q:EtA):Prop:=∀ W,KeepO [5] w W→IsE W e q
theorem EtK.is {w:World}{e:Et}{q:EtA}(h:EtK w e q):IsE w e q:=h w (KeepO.refl _ _)
theorem EtK.keep {w w':World}{e:Et}{q:EtA}(h:EtK w e q)(hk:KeepO [5] w w'):EtK w' e q:=fun W hW=>h W (hk.trans hW)
theorem EtK.own {w:World}{base base2:Nat}{e:Et}{q:EtA}(h1:OwnB w base (.slice q.a e.k.length q.c) e.k)(h2:OwnB w base2 (.slice q.b e.v.length q.d) e.v):EtK w e q:=fun _ hW =>
 ⟨own_isB (own_keepO hW h1 (by decide)),own_isB (own_keepO hW h2 (by decide))⟩
abbrev Eq3:=Et × EtA
def ets:List Eq3→List Value
 | []=>[]
 | x::l=>etc2 x.1 x.2++ets l
theorem etc_len (x:Eq3):(etc2 x.1 x.2).length=2:=rfl
theorem ets_length (l:List Eq3):(ets l).length=l.length * 2:=by
 induction l with
 | nil=>rfl
 | cons x l ih=>rw [ets,List.length_append,ih,etc_len,List.length_cons];omega
theorem ets_append (l m:List Eq3):ets (l++m)=ets l++ets m:=by
 induction l with
 | nil=>rfl
 | cons x l ih=>rw [List.cons_append,ets,ets,ih,List.append_assoc]
theorem ets_take (l:List Eq3)(k:Nat):ets (l.take k)=(ets l).take (k * 2):=by
 induction k generalizing l with
 | zero=>rfl
 | succ k ih =>
  cases l with
  | nil=>rfl
  | cons x l =>
   rw [List.take_succ_cons,ets,ets,ih,List.take_append,etc_len,List.take_of_length_le (l:=etc2 x.1 x.2) (by rw [etc_len];omega),show (k+1) * 2-2=k * 2 by omega]
theorem ets_drop (l:List Eq3)(k:Nat):ets (l.drop k)=(ets l).drop (k * 2):=by
 induction k generalizing l with
 | zero=>rfl
 | succ k ih =>
  cases l with
  | nil=>rfl
  | cons x l =>
   rw [List.drop_succ_cons,ets,ih,List.drop_append,etc_len,List.drop_of_length_le (l:=etc2 x.1 x.2) (by rw [etc_len];omega),List.nil_append,show (k+1) * 2-2=k * 2 by omega]
theorem ets_at (l:List Eq3)(k j:Nat)(hk:k<l.length)(hj:j<2):(ets l)[k * 2+j]?=(etc2 (l[k]).1 (l[k]).2)[j]?:=by
 have e:(ets l)[k * 2+j]?=((ets l).drop (k * 2))[j]?:=by rw [List.getElem?_drop]
 rw [e,←ets_drop,List.drop_eq_getElem_cons hk,ets,List.getElem?_append_left (by rw [etc_len];exact hj)]
theorem ets_one (l:List Eq3):∀ u∈ets l,u.oneCell'=true:=by
 induction l with
 | nil=>intro u hu;cases hu
 | cons x l ih =>
  intro u hu
  rw [ets] at hu
  rcases List.mem_append.1 hu with hu|hu
  ·unfold etc2 at hu
   simp only [List.mem_cons,List.not_mem_nil,or_false] at hu
   rcases hu with rfl|rfl<;>rfl
  ·exact ih u hu
def OwnE (w:World)(base:Nat)(v:Value)(l:List Eq3):Prop:=w.ownsRow base 91 2 v l.length (ets l)
theorem OwnE.nil (w:World)(base:Nat):OwnE w base (.slice none 0 0) []:=World.ownsRow_nil _ _ _ _
theorem OwnE.empty (w:World)(base:Nat)(hb:base≤w.heap.size):OwnE (w.alloc (.cells #[] 91)) base (.slice (some ⟨w.heap.size,0,none⟩) 0 0) [] :=
 World.ownsRow_made w #[] 0 hb (Nat.zero_le _) rfl
theorem OwnE.on {w w':World}{base:Nat}{v:Value}{l:List Eq3}(h:OwnE w base v l)(hb:Below w.heap.size w w'):OwnE w' base v l:=own_keepO (us:=[91]) (KeepO.of_below hb) h (by decide)
theorem OwnE.form {w:World}{base:Nat}{v:Value}{l:List Eq3}(h:OwnE w base v l):∃ a cap,v=.slice a l.length cap∧l.length≤cap∧(a=none∨∃ g,a=some ⟨g,0,none⟩) ∧
  (0<l.length→∃ g,a=some ⟨g,0,none⟩∧base≤g∧g<w.heap.size∧∀ k (hk:k<l.length),∀ j,j<2→w.cell? ⟨g,k * 2+j,none⟩=(etc2 (l[k]).1 (l[k]).2)[j]?):=by
 obtain ⟨h1,h2⟩:=h
 rcases h2 with ⟨rfl,h0⟩|⟨g,cap,cur,rfl,hb,hg,hle,hmax,hsz,htk⟩
 ·have:l=[]:=List.eq_nil_of_length_eq_zero h0
  subst this
  exact ⟨none,0,rfl,Nat.le_refl _,.inl rfl,fun h=>absurd h (Nat.lt_irrefl 0)⟩
 ·refine ⟨_,cap,rfl,hle,.inr ⟨g,rfl⟩,fun hp=>⟨g,rfl,hb,(Array.getElem?_eq_some_iff.1 hg).1,fun k hk j hj=>?_⟩⟩
  have hown:w.ownsRow base 91 2 (.slice (some ⟨g,0,none⟩) l.length cap) l.length (ets l):=⟨h1,.inr ⟨g,cap,cur,rfl,hb,hg,hle,hmax,hsz,htk⟩⟩
  rw [World.ownsRow.cellAt hown (k * 2+j) (by omega),ets_at l k j hk hj]
theorem OwnE.at_ {w:World}{base n cap:Nat}{a:Option Addr}{ls:List Eq3}(h:OwnE w base (.slice a n cap) ls)(k:Nat)(hk:k<ls.length):∃ g,a=some ⟨g,0,none⟩∧base≤g∧g<w.heap.size∧∀ j,j<2→w.cell? ⟨g,k * 2+j,none⟩=(etc2 (ls[k]).1 (ls[k]).2)[j]?:=by
 obtain ⟨a',c',e,_,_,hr⟩:=h.form
 injection e with e1 e2 e3
 obtain ⟨g,e4,h1,h2,h3⟩:=hr (by omega)
 exact ⟨g,e1.trans e4,h1,h2,fun j hj=>h3 k hk j hj⟩
theorem KeepT.grownE {w w':World}{base:Nat}{v:Value}{l:List Eq3}(ho:OwnE w base v l)(hg:w.grownBy w' v.ownBlock):KeepT [91] w w' :=
 ⟨hg.size,fun k o hk hno=>by
  refine (hg.block k (Array.getElem?_eq_some_iff.1 hk).1 (fun eb=>?_)).trans hk
  rcases ho.2 with ⟨rfl,_⟩|⟨g,cap,cur,rfl,_,hgb,_⟩
  ·simp [Value.ownBlock] at eb
  ·have hkg:k=g:=by simpa [Value.ownBlock] using eb
   subst hkg
   have:o=.cells cur 91 (0,0):=Option.some.inj (hk.symm.trans hgb)
   exact hno _ _ _ this (by decide)⟩
structure SrcE (w:World)(sa:Option Addr)(m c:Nat)(l:List Eq3):Prop where
 len:l.length=m
 nil:sa=none→m=0∧c=0
 cells:∀ ad,sa=some ad→∀ j u,(ets l)[j]?=some u→w.cell? (ad.add j)=some u
def cutE (a:Option Addr)(cap k:Nat):Option Addr:=if cap=k then a else a.map (·.add (k * 2))
theorem OwnE.src {w:World}{base:Nat}{a:Option Addr}{n cap:Nat}{ls:List Eq3}(h:OwnE w base (.slice a n cap) ls)(hn:n=ls.length)(k:Nat)(hk:k≤n):
  SrcE w a k cap (ls.take k)∧SrcE w (cutE a cap k) (n-k) (cap-k) (ls.drop k):=by
 subst hn
 rcases h.2 with ⟨h1,h2⟩|⟨g,cap',cur,h3,h4,h5,hle,h7⟩
 ·injection h1 with e1 e2 e3
  subst e1 e3
  have hk0:k=0:=by omega
  subst hk0
  have hl:ls=[]:=List.eq_nil_of_length_eq_zero e2
  subst hl
  exact ⟨⟨rfl,fun _=>⟨rfl,rfl⟩,fun ad e=>by cases e⟩,⟨rfl,fun _=>⟨rfl,rfl⟩,fun ad e=>by cases e⟩⟩
 ·injection h3 with e1 e2 e3
  subst e1 e3
  refine ⟨⟨by rw [List.length_take];omega,(fun e=>by cases e),fun ad e j u hu=>?_⟩,⟨by rw [List.length_drop],fun e=>?_,fun ad e j u hu=>?_⟩⟩
  ·obtain rfl:=Option.some.inj e
   rw [ets_take] at hu
   have hj:j<k * 2:=by
    have:=(List.getElem?_eq_some_iff.1 hu).1
    rw [List.length_take] at this;omega
   rw [List.getElem?_take_of_lt hj] at hu
   exact World.ownsRow.cells h (g:=g) rfl j u hu
  ·unfold cutE at e
   split at e
   ·cases e
   ·cases e
  ·rw [ets_drop,List.getElem?_drop] at hu
   unfold cutE at e
   split at e
   ·rename_i hc
    have:=(List.getElem?_eq_some_iff.1 hu).1
    rw [ets_length] at this
    omega
   ·have e2:=Option.some.inj e
    rw [←e2]
    show w.cell? (((⟨g,0,none⟩:Addr).add (k * 2)).add j)=some u
    rw [Addr.add_lit,Addr.add_lit]
    have:=World.ownsRow.cells h (g:=g) rfl (k * 2+j) u hu
    rw [Addr.add_lit] at this
    rw [show 0+k * 2+j=0+(k * 2+j) by omega]
    exact this
def etZ:Value:=.agg #[.slice none 0 0,.slice none 0 0]
theorem infoE:(Tryz.prog.info? 91).map (fun i=>(i.zero,i.size,i.bytes))=some (some etZ,2,48):=by kernel_rfl
theorem list_appE {ops:Array Oper}{rest:List Oper}{o:Oper}{a:Act}{Q:Exit→Act→World→Prop}(w:World)(hgd:o.guard=none)(s x:Operand)
  (ho:o.op=.call { callee:=.builtin .append,args:=#[s,x],argTypes:=#[29,29] }) (base:Nat)
  (v:Value) (l:List Eq3) (hs:a.eval s=v) (hown:OwnE w base v l) (B:Nat) (g:Eq3) (hx:a.eval x=.slice (some ⟨B,0,none⟩) 1 1)
  (hb:w.heap[B]?=some (.cells (etc2 g.1 g.2).toArray 91 (0,0))) (hle:l.length≤4096) (hbase:base≤w.heap.size)
  (h:∀ v' w',OwnE w' base v' (l++[g])→w.grownBy w' v.ownBlock→wpList Tryz.prog ops Q rest (a.put o.dst v') w'):
  wpList Tryz.prog ops Q (o::rest) a w:=by
 obtain ⟨i0,hi,hz0,hz1,hz2⟩:=info_parts infoE
 refine wpList_append_own w hgd s x 29 ho base 91 i0 etZ 2 48 Tryz.underlying29 hi hz0 hz1 hz2 rfl (by omega) v l.length (ets l) hs hown ⟨B,0,none⟩ 1 1 (etc2 g.1 g.2) hx rfl
  (fun j u hu=>World.news_of_block hb j u (by simpa using hu)) (fun u hu=>ets_one [g] u (by rw [ets,ets,List.append_nil];exact hu)) (by unfold maxLen;omega) (by omega) hbase ?_
 intro v' w' h1 h2 _
 exact h v' w' (by unfold OwnE;rw [ets_append,List.length_append,ets,ets,List.append_nil];exact h1) h2
theorem step_appEs {ops:Array Oper}{o:Oper}{a:Act}{K:Act→World→Prop}{Q:Exit→Act→World→Prop}{E:Prop}(w:World)(hgd:o.guard=none)(s x:Operand)
  (ho:o.op=.call { callee:=.builtin .append,args:=#[s,x],argTypes:=#[29,29] }) (base:Nat)
  (v:Value) (l:List Eq3) (hs:a.eval s=v) (hown:OwnE w base v l) (sa:Option Addr) (m c:Nat) (news:List Eq3) (hx:a.eval x=.slice sa m c) (hsrc:SrcE w sa m c news)
  (hbytes:l.length+m≤8192) (hbase:base≤w.heap.size) (d:Tmp) (hd:o.dst=some d)
  (h:∀ v' w',OwnE w' base v' (l++news)→w.grownBy w' v.ownBlock→K (a.put (some d) v') w'):
  if Region.wanted o (yielded ops a.tmps)=true then Oper.wp Tryz.prog o a w K Q else E:=by
 have hw:Region.wanted o (yielded ops a.tmps)=true:=by simp [Region.wanted,hgd]
 rw [if_pos hw]
 obtain ⟨i0,hi,hz0,hz1,hz2⟩:=info_parts infoE
 cases sa with
 | none =>
  obtain ⟨hm,hc⟩:=hsrc.nil rfl
  have hn:news=[]:=List.eq_nil_of_length_eq_zero (by rw [hsrc.len,hm])
  subst hn hm hc
  have hrun:=run_append_owned_none (P:=Tryz.prog) (w:=w) base 29 o.type 91 i0 2 Tryz.underlying29 hi v l.length (ets l) hown
  rw [←hd] at h
  unfold Oper.wp
  simp [execOp,ho,resolve,invoke,builtin,hs,hx,hrun,Result.andThen]
  exact h v w (by rw [List.append_nil];exact hown) (World.grownBy.refl _ _)
 | some ad =>
  refine wp_append_own w s x 29 ho base 91 i0 etZ 2 48 Tryz.underlying29 hi hz0 hz1 hz2 rfl (by omega) v l.length (ets l) hs hown ad m c (ets news) hx (by rw [ets_length,hsrc.len]) (hsrc.cells ad rfl) (ets_one news) (by unfold maxLen;omega) (by omega) hbase ?_
  intro v' w' h1 h2 _
  rw [hd]
  exact h v' w' (by unfold OwnE;rw [ets_append,List.length_append,hsrc.len];exact h1) h2
theorem slEh (a:Option Addr)(n cap k:Nat)(hk:k≤cap)(ha:a=none∨∃ g,a=some ⟨g,0,none⟩)(w:World):(Instr.slice 29 (.slice a n cap) none (some (.int .i64 (k:Int))) none).run Tryz.prog w=.ok (.slice a k cap) w:=by
 have he:Tryz.prog.elem 29=91:=by kernel_rfl
 have hz:(sizeOf 91).run Tryz.prog w=.ok 2 w:=by
  obtain ⟨i0,hi,hz0,hz1,hz2⟩:=info_parts infoE
  simp [sizeOf,typeInfo,hi,hz1]
 rw [run_slice_h w 29 _ n cap (by rw [he];exact Tryz.underlying29) .i64 (k:Int) (by omega) (by omega),he,hz]
 simp only [Result.andThen,sliced,Int.toNat_natCast,Nat.zero_mul,Nat.sub_zero]
 rcases ha with rfl|⟨g,rfl⟩
 ·split<;>rfl
 ·split<;>simp [Addr.add_lit]
theorem slEl (a:Option Addr)(n cap k:Nat)(hk:k≤n)(w:World):(Instr.slice 29 (.slice a n cap) (some (.int .i64 (k:Int))) none none).run Tryz.prog w=.ok (.slice (cutE a cap k) (n-k) (cap-k)) w:=by
 have he:Tryz.prog.elem 29=91:=by kernel_rfl
 have hz:(sizeOf 91).run Tryz.prog w=.ok 2 w:=by
  obtain ⟨i0,hi,hz0,hz1,hz2⟩:=info_parts infoE
  simp [sizeOf,typeInfo,hi,hz1]
 rw [run_slice_l w 29 _ n cap (by rw [he];exact Tryz.underlying29) .i64 (k:Int) (by omega) (by omega),he,hz]
 simp only [Result.andThen,sliced,Int.toNat_natCast,cutE]
end Go.Proofs.YtpecobmfabmpkaaGreatDoor
