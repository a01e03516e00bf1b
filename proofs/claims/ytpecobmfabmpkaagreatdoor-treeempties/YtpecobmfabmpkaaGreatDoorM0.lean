/- Base Dk0 Bits Own OwnS Blk KeepC Dk1 Ret Dk2 Dk3 Dk4 Dk5 Dk6 TakeH Dk1b Dk7 DkP DkF Atom -/
import Derived.Test.YtpecobmfabmpkaaGreatDoorProg
import Derived.WalkKit
import Derived.Below
import Derived.Deep.QuietTactic
import Derived.BigQuiet
import Derived.Deep.RegionHeld3
import Derived.Deep.AppendLies
import Derived.Deep.DrawnRows
import Derived.Laws.AppendOwnNone
import Derived.Lib.AppendStr
import Derived.Lib.ConvBytes
import Derived.Deep.CutBlock
import Derived.Deep.CutRange
import Derived.Laws.LoneSync
import Derived.RegionCalls
namespace Go.Proofs.YtpecobmfabmpkaaGreatDoor
open Go.RowKit
theorem sIx {α : Type _} (l : List α) (i : Nat) (a : α) : l.toArray.setIfInBounds i a = (l.set i a).toArray := List.setIfInBounds_toArray ..
theorem sZ0 {α : Type _} {x : α} {xs : List α} {a : α} : (x :: xs).set 0 a = a :: xs := rfl
theorem sZ1 {α : Type _} {x : α} {xs : List α} {n : Nat} {a : α} : (x :: xs).set (n + 1) a = x :: xs.set n a := rfl
theorem gZ0 {α : Type _} {a : α} {xs : List α} : (a :: xs)[0]? = some a := rfl
theorem gZ1 {α : Type _} {a : α} {xs : List α} {i : Nat} : (a :: xs)[i + 1]? = xs[i]? := rfl
theorem mkHid {p:Prop}(h:p):Hid p:=h
theorem cell_lt {w:World}{a:Addr}{v:Value}(h:w.cell? a=some v):a.block<w.heap.size:=by
 unfold World.cell? at h
 by_cases hb:a.block<w.heap.size
 ·exact hb
 ·rw[Array.getElem?_eq_none (by omega)] at h;simp at h
def nth (l:List UInt8)(i:Nat):UInt8:=l.getD i 0
theorem nth_eq (l:List UInt8)(i:Nat)(h:i<l.length):nth l i=l[i]:=by
 unfold nth;rw[List.getD_eq_getElem?_getD,List.getElem?_eq_getElem h];rfl
theorem nth_drop (l:List UInt8)(k i:Nat):nth (l.drop k) i=nth l (k+i):=by
 unfold nth;rw[List.getD_eq_getElem?_getD,List.getD_eq_getElem?_getD,List.getElem?_drop]
theorem wrap8_mod (x:Int):IntKind.u8.wrap x=x%256:=by simp[IntKind.wrap,IntKind.signed,IntKind.bits]
structure IsB (w:World)(a:Option Addr)(len cap:Nat)(l:List UInt8):Prop where
 len_eq:l.length=len
 le:len≤cap
 max:cap≤maxLen
 nil:a=none→cap=0
 cells:0<len→∃b off,a=some ⟨b,off,none⟩∧∀i,i<len→w.cell? ⟨b,off+i,none⟩=some (.int .u8 ((nth l i).toNat:Int))
theorem IsB.drewN {w:World}{a:Option Addr}{len cap:Nat}{l:List UInt8}(h:IsB w a len cap l)(n:Nat):IsB (w.drewN n) a len cap l :=
 ⟨h.len_eq,h.le,h.max,h.nil,fun hp=>by obtain⟨b,off,e,hc⟩:=h.cells hp;exact⟨b,off,e,fun i hi=>by simpa using hc i hi⟩⟩
theorem IsB.below {w w':World}{n:Nat}{a:Option Addr}{len cap:Nat}{l:List UInt8}(h:IsB w a len cap l)(hb:Below n w w')(hn:n=w.heap.size):IsB w' a len cap l :=
 ⟨h.len_eq,h.le,h.max,h.nil,fun hp=>by
  obtain⟨b,off,e,hc⟩:=h.cells hp
  refine⟨b,off,e,fun i hi=>?_⟩
  have:=hc i hi
  have hlt:b<w.heap.size:=cell_lt this
  rw[hb.cell (p:=⟨b,off+i,none⟩) (by simpa [hn] using hlt)];exact this⟩
theorem bel_drewN {B:Nat}{a w:World}(h:Below B a w)(n:Nat):Below B a (w.drewN n):=h.trans ⟨rfl,rfl,rfl,Nat.le_refl _,fun _ _=>rfl⟩
end Go.Proofs.YtpecobmfabmpkaaGreatDoor
namespace Go.Proofs.YtpecobmfabmpkaaGreatDoor
structure Wg where
 at_:Nat
 b:List UInt8
 ad:Option Addr
 cap:Nat
def zero512:List UInt8:=List.replicate 512 0
def lastW:List Wg→Nat→Option (List UInt8)
 | [],_=>none
 | g::l,i=>match lastW l i with
  | some b=>some b
  | none=>if g.at_=i then some g.b else none
def stableOf (S:List Wg)(i:Nat):List UInt8:=(lastW S i).getD zero512
def readOf (S C:List Wg)(i:Nat):List UInt8:=(lastW C i).getD (stableOf S i)
theorem wrap8_nat (n:Nat)(h:n<256):IntKind.u8.wrap (n:Int)=n:=by
 simp[IntKind.wrap,IntKind.signed,IntKind.bits];omega
theorem wrap32_nat (n:Nat)(h:n<4294967296):IntKind.u32.wrap (n:Int)=n:=by
 simp[IntKind.wrap,IntKind.signed,IntKind.bits];omega
theorem wrap64_nat (n:Nat)(h:n<18446744073709551616):IntKind.u64.wrap (n:Int)=n:=by
 simp[IntKind.wrap,IntKind.signed,IntKind.bits];omega
theorem wrapi64_in (n:Int)(h0 : -9223372036854775808≤n)(h1:n≤9223372036854775807):IntKind.i64.wrap n=n:=by
 simp[IntKind.wrap,IntKind.signed,IntKind.bits];omega
theorem of8 (a:UInt8):BitVec.ofInt 8 (a.toNat:Int)=a.toBitVec:=by rw[BitVec.ofInt_natCast];exact BitVec.eq_of_toNat_eq (by simp)
theorem of32 (a:UInt32):BitVec.ofInt 32 (a.toNat:Int)=a.toBitVec:=by rw[BitVec.ofInt_natCast];exact BitVec.eq_of_toNat_eq (by simp)
theorem of64 (a:UInt64):BitVec.ofInt 64 (a.toNat:Int)=a.toBitVec:=by rw[BitVec.ofInt_natCast];exact BitVec.eq_of_toNat_eq (by simp)
theorem bits_xor8 (a b:UInt8):bits .xor .u8 (a.toNat:Int) (b.toNat:Int)=((a ^^^ b).toNat:Int):=by
 show IntKind.u8.wrap ((BitVec.ofInt 8 (a.toNat:Int) ^^^ BitVec.ofInt 8 (b.toNat:Int)).toNat:Int)=_
 rw[of8,of8];exact wrap8_nat _ (a ^^^ b).toNat_lt
theorem bits_and8 (a b:UInt8):bits .and .u8 (a.toNat:Int) (b.toNat:Int)=((a &&& b).toNat:Int):=by
 show IntKind.u8.wrap ((BitVec.ofInt 8 (a.toNat:Int) &&& BitVec.ofInt 8 (b.toNat:Int)).toNat:Int)=_
 rw[of8,of8];exact wrap8_nat _ (a &&& b).toNat_lt
theorem bits_xor32 (a b:UInt32):bits .xor .u32 (a.toNat:Int) (b.toNat:Int)=((a ^^^ b).toNat:Int):=by
 show IntKind.u32.wrap ((BitVec.ofInt 32 (a.toNat:Int) ^^^ BitVec.ofInt 32 (b.toNat:Int)).toNat:Int)=_
 rw[of32,of32];exact wrap32_nat _ (a ^^^ b).toNat_lt
theorem bits_or32 (a b:UInt32):bits .or .u32 (a.toNat:Int) (b.toNat:Int)=((a ||| b).toNat:Int):=by
 show IntKind.u32.wrap ((BitVec.ofInt 32 (a.toNat:Int) ||| BitVec.ofInt 32 (b.toNat:Int)).toNat:Int)=_
 rw[of32,of32];exact wrap32_nat _ (a ||| b).toNat_lt
theorem bits_and32 (a b:UInt32):bits .and .u32 (a.toNat:Int) (b.toNat:Int)=((a &&& b).toNat:Int):=by
 show IntKind.u32.wrap ((BitVec.ofInt 32 (a.toNat:Int) &&& BitVec.ofInt 32 (b.toNat:Int)).toNat:Int)=_
 rw[of32,of32];exact wrap32_nat _ (a &&& b).toNat_lt
theorem toNat8_inj (a b:UInt8):((a.toNat:Int)=(b.toNat:Int))↔a=b:=by
 rw[Int.ofNat_inj,UInt8.toNat_inj]
end Go.Proofs.YtpecobmfabmpkaaGreatDoor
namespace Go.Proofs.YtpecobmfabmpkaaGreatDoor
open Go.RowKit
theorem info8:(Tryz.prog.info? 5).map (fun i=>(i.zero,i.size,i.bytes))=some (some (.int .u8 0),1,1):=by kernel_rfl
def bv (l:List UInt8):List Value:=l.map fun b=>.int .u8 (b.toNat:Int)
theorem bv_append (l m:List UInt8):bv (l++m)=bv l++bv m:=by simp[bv]
theorem bv_length (l:List UInt8):(bv l).length=l.length:=by simp[bv]
theorem bv_one (l:List UInt8):∀u∈bv l,u.oneCell'=true:=by
 intro u hu
 obtain⟨b,_,rfl⟩:=List.mem_map.1 hu
 rfl
theorem bv_at (l:List UInt8)(i:Nat)(h:i<l.length):(bv l)[i]?=some (.int .u8 ((nth l i).toNat:Int)):=by
 rw[nth_eq l i h];simp[bv,List.getElem?_eq_getElem h]
def OwnB (w:World)(base:Nat)(v:Value)(l:List UInt8):Prop:=w.ownsRow base 5 1 v l.length (bv l)
theorem OwnB.nil (w:World)(base:Nat):OwnB w base (.slice none 0 0) []:=World.ownsRow_nil _ _ _ _
theorem OwnB.heap {w w':World}{base:Nat}{v:Value}{l:List UInt8}(h:OwnB w base v l)(e:w'.heap=w.heap):OwnB w' base v l:=by
 unfold OwnB World.ownsRow at *;rw[e];exact h
theorem OwnB.base {w:World}{base base':Nat}{v:Value}{l:List UInt8}(h:OwnB w base v l)(hb:base'≤base):OwnB w base' v l:=by
 refine⟨h.1,?_⟩
 rcases h.2 with h2|⟨g,cap,cur,h3,h4,h5⟩
 ·exact .inl h2
 ·exact .inr ⟨g,cap,cur,h3,Nat.le_trans hb h4,h5⟩
theorem OwnB.alloc {w:World}{base:Nat}{v:Value}{l:List UInt8}(h:OwnB w base v l)(o:Obj):OwnB (w.alloc o) base v l:=World.ownsRow.alloc h o
theorem OwnB.blk {w:World}{base:Nat}{v:Value}{l:List UInt8}(h:OwnB w base v l):∀k,v.ownBlock=some k→base≤k∧k<w.heap.size:=World.ownsRow.lt h
theorem OwnB.isB {w:World}{base:Nat}{v:Value}{l:List UInt8}(h:OwnB w base v l):∃a cap,v=.slice a l.length cap∧IsB w a l.length cap l:=by
 obtain⟨h1,h2⟩:=h
 rcases h2 with⟨rfl,h0⟩|⟨g,cap,cur,rfl,hb,hg,hle,hmax,hsz,htk⟩
 ·have:l=[]:=List.eq_nil_of_length_eq_zero h0
  subst this
  exact⟨none,0,rfl,rfl,Nat.le_refl _,Nat.zero_le _,fun _=>rfl,fun hp=>absurd hp (Nat.lt_irrefl 0)⟩
 ·refine⟨_,cap,rfl,rfl,hle,hmax,fun e=>(by cases e),fun hp=>⟨g,0,rfl,fun i hi=>?_⟩⟩
  have hc:=World.ownsRow.cells (w:=w) (base:=base) (e:=5) (size:=1) (v:=.slice (some ⟨g,0,none⟩) l.length cap) (n:=l.length) (xs:=bv l) ⟨h1,.inr ⟨g,cap,cur,rfl,hb,hg,hle,hmax,hsz,htk⟩⟩ (g:=g) rfl i _ (bv_at l i hi)
  rw[Addr.add_lit] at hc;exact hc
theorem OwnB.cellAt {w:World}{base g cap:Nat}{l:List UInt8}{n:Nat}(h:OwnB w base (.slice (some ⟨g,0,none⟩) n cap) l)(hn:l.length=n)(j:Nat)(hj:j<n):w.cell? ⟨g,j,none⟩=some (.int .u8 ((nth l j).toNat:Int)):=by
 subst hn
 rw[World.ownsRow.cellAt h j (by omega),bv_at l j hj]
theorem OwnB.frozenAt {w:World}{base g cap:Nat}{l:List UInt8}{n:Nat}(h:OwnB w base (.slice (some ⟨g,0,none⟩) n cap) l)(hn:l.length=n)(j:Nat):w.frozen? ⟨g,j,none⟩=false:=by
 subst hn
 exact World.ownsRow.frozenAt h j
theorem OwnB.set {w:World}{base g cap:Nat}{l:List UInt8}{n:Nat}(h:OwnB w base (.slice (some ⟨g,0,none⟩) n cap) l)(hn:l.length=n)(j:Nat)(x:UInt8):OwnB (w.setCell ⟨g,j,none⟩ (.int .u8 (x.toNat:Int))) base (.slice (some ⟨g,0,none⟩) n cap) (l.set j x):=by
 subst hn
 have:=(World.ownsRow.stored h j (.int .u8 (x.toNat:Int))).1
 unfold OwnB
 rw[List.length_set]
 have e:bv (l.set j x)=(bv l).set j (.int .u8 (x.toNat:Int)):=by unfold bv;rw[List.map_set]
 rw[e];exact this
theorem make_own8 {ops:Array Oper}{rest:List Oper}{o:Oper}{a:Act}{Q:Exit→Act→World→Prop}(w:World)
  (hg:o.guard=none) (l c:Operand) (hop:o.op=Op.makeSlice 33 l c) (base:Nat)
  (kl kc:IntKind) (C:Int) (n:Nat) (hl:a.eval l=.int kl 0) (hc:a.eval c=.int kc C) (hC:C=(n:Int)) (b2:n≤281474976710656) (b4:base≤w.heap.size)
  (hK:∀w',OwnB w' base (.slice (some ⟨w.heap.size,0,none⟩) 0 n) []→w.grownBy w' none→wpList Tryz.prog ops Q rest (a.put o.dst (.slice (some ⟨w.heap.size,0,none⟩) 0 n)) w'):
  wpList Tryz.prog ops Q (o::rest) a w:=by
 obtain⟨i0,hi,hz0,hz1,hz2⟩:=info_parts info8
 exact wpList_make_own w hg l c 33 hop base 5 i0 (.int .u8 0) 1 Tryz.underlying33 hi hz0 hz1 kl kc C n hl hc hC (by rw[hz2];omega) (by unfold maxLen;omega) b4 hK
theorem made_zeros (n:Nat):(madeCells (Value.int .u8 0).cells (n * 1)).toList=bv (List.replicate n 0):=by
 simp only[madeCells,Value.cells,bv,List.map_replicate]
 rw[List.eq_replicate_iff]
 simp[Nat.mod_one]
theorem make_full8 {ops:Array Oper}{rest:List Oper}{o:Oper}{a:Act}{Q:Exit→Act→World→Prop}(w:World)
  (hg:o.guard=none) (l c:Operand) (hop:o.op=Op.makeSlice 33 l c) (base:Nat)
  (kl kc:IntKind) (L C:Int) (n:Nat) (hl:a.eval l=.int kl L) (hc:a.eval c=.int kc C) (hL:L=(n:Int)) (hC:C=(n:Int)) (b2:n≤281474976710656) (b4:base≤w.heap.size)
  (hK:∀w',OwnB w' base (.slice (some ⟨w.heap.size,0,none⟩) n n) (List.replicate n 0)→w.grownBy w' none→wpList Tryz.prog ops Q rest (a.put o.dst (.slice (some ⟨w.heap.size,0,none⟩) n n)) w'):
  wpList Tryz.prog ops Q (o::rest) a w:=by
 obtain⟨i0,hi,hz0,hz1,hz2⟩:=info_parts info8
 exact wpList_make_full w hg l c 33 hop base 5 i0 (.int .u8 0) 1 Tryz.underlying33 hi hz0 hz1 kl kc L C n hl hc hL hC (by rw[hz2];omega) (by unfold maxLen;omega) b4
  (fun w' h g=>hK w' (by unfold OwnB;rw[List.length_replicate];rw[made_zeros] at h;exact h) g)
theorem list_app8 {ops:Array Oper}{rest:List Oper}{o:Oper}{a:Act}{Q:Exit→Act→World→Prop}(w:World)(hgd:o.guard=none)(s x:Operand)
  (ho:o.op=.call { callee:=.builtin .append,args:=#[s,x],argTypes:=#[33,33] }) (base:Nat)
  (v:Value) (l:List UInt8) (hs:a.eval s=v) (hown:OwnB w base v l) (B m c:Nat) (news:List UInt8) (hx:a.eval x=.slice (some ⟨B,0,none⟩) m c) (hl:news.length=m)
  (hb:w.heap[B]?=some (.cells (bv news).toArray 5 (0,0))) (hm:0<m) (hbytes:l.length+m≤140737488355328) (hbase:base≤w.heap.size) (H:Nat) (hH:w.heap.size=H)
  (h:∀g cap w',OwnB w' base (.slice (some ⟨g,0,none⟩) (l.length+m) cap) (l++news)→w.grownBy w' v.ownBlock→(v.ownBlock=some g∨g=H)→g<w'.heap.size→wpList Tryz.prog ops Q rest (a.put o.dst (.slice (some ⟨g,0,none⟩) (l.length+m) cap)) w'):
  wpList Tryz.prog ops Q (o::rest) a w:=by
 obtain⟨i0,hi,hz0,hz1,hz2⟩:=info_parts info8
 refine wpList_append_lies w hgd s x 33 ho base 5 i0 (.int .u8 0) 1 1 Tryz.underlying33 hi hz0 hz1 hz2 rfl (by omega) v l.length (bv l) hs hown ⟨B,0,none⟩ m c (bv news) hx (by rw[bv_length];omega)
  (fun j u hu=>World.news_of_block hb j u (by simpa using hu)) (bv_one news) hm (by unfold maxLen;omega) (by omega) hbase H hH ?_
 intro g cap w' h1 h2 h3 h4
 exact h g cap w' (by unfold OwnB;rw[bv_append,List.length_append,hl];exact h1) h2 h3 h4
theorem OwnB.empty (w:World)(base:Nat)(hb:base≤w.heap.size):OwnB (w.alloc (.cells #[] 5)) base (.slice (some ⟨w.heap.size,0,none⟩) 0 0) [] :=
 World.ownsRow_made w #[] 0 hb (Nat.zero_le _) rfl
theorem list_appS {ops:Array Oper}{rest:List Oper}{o:Oper}{a:Act}{Q:Exit→Act→World→Prop}(w:World)(hgd:o.guard=none)(s x:Operand)
  (ho:o.op=.call { callee:=.builtin .append,args:=#[s,x],argTypes:=#[33,33] }) (base:Nat)
  (v:Value) (l:List UInt8) (hs:a.eval s=v) (hown:OwnB w base v l) (sa:Option Addr) (m c:Nat) (news:List UInt8) (hx:a.eval x=.slice sa m c) (hB:IsB w sa m c news)
  (hbytes:l.length+m≤140737488355328) (hbase:base≤w.heap.size)
  (h:∀v' w',OwnB w' base v' (l++news)→w.grownBy w' v.ownBlock→wpList Tryz.prog ops Q rest (a.put o.dst v') w'):
  wpList Tryz.prog ops Q (o::rest) a w:=by
 obtain⟨i0,hi,hz0,hz1,hz2⟩:=info_parts info8
 cases sa with
 | none =>
  have h0:=hB.nil rfl
  have hle:=hB.le
  have hm:m=0:=by omega
  subst hm h0
  have hn:news=[]:=List.eq_nil_of_length_eq_zero hB.len_eq
  subst hn
  exact wpList_append_own_none hgd s x 33 ho base 5 i0 1 Tryz.underlying33 hi v l.length (bv l) hs hown hx (h v w (by rw[List.append_nil];exact hown) (World.grownBy.refl _ _))
 | some ad =>
  refine wpList_append_own w hgd s x 33 ho base 5 i0 (.int .u8 0) 1 1 Tryz.underlying33 hi hz0 hz1 hz2 rfl (by omega) v l.length (bv l) hs hown ad m c (bv news) hx (by rw[bv_length,hB.len_eq];omega) ?_ (bv_one news) (by unfold maxLen;omega) (by omega) hbase ?_
  ·intro j u hj
   have hjl:j<news.length:=by
    rcases Nat.lt_or_ge j news.length with h|h
    ·exact h
    ·rw[List.getElem?_eq_none (by rw[bv_length];exact h)] at hj;cases hj
   have hl:=hB.len_eq
   obtain⟨b,off,e,hc⟩:=hB.cells (by omega)
   have e:=Option.some.inj e
   rw[bv_at news j hjl] at hj
   rw[e,Addr.add_lit,hc j (by omega)];exact hj
  ·intro v' w' h1 h2 _
   exact h v' w' (by unfold OwnB;rw[bv_append,List.length_append,hB.len_eq];exact h1) h2
def sL (s:ByteArray):List UInt8:=s.data.toList
theorem sL_length (s:ByteArray):(sL s).length=s.size:=by unfold sL;rw[Array.length_toList];rfl
theorem list_appT {ops:Array Oper}{rest:List Oper}{o:Oper}{a:Act}{Q:Exit→Act→World→Prop}(w:World)(hgd:o.guard=none)(s x:Operand)
  (ho:o.op=.call { callee:=.builtin .append,args:=#[s,x],argTypes:=#[33,9] }) (base:Nat)
  (v:Value) (l:List UInt8) (hs:a.eval s=v) (hown:OwnB w base v l) (t:ByteArray) (hx:a.eval x=.string t)
  (hbytes:l.length+t.size≤140737488355328) (hbase:base≤w.heap.size)
  (h:∀v' w',OwnB w' base v' (l++sL t)→w.grownBy w' v.ownBlock→wpList Tryz.prog ops Q rest (a.put o.dst v') w'):
  wpList Tryz.prog ops Q (o::rest) a w:=by
 obtain⟨i0,hi,hz0,hz1,hz2⟩:=info_parts info8
 refine Lib.wpList_append_own_string w hgd s x 33 9 ho base 5 i0 Tryz.underlying33 Tryz.underlying9 hi hz0 hz1 hz2 v l.length (bv l) hs hown t hx (by unfold maxLen;omega) hbytes hbase ?_
 intro v' w' h1 h2 _
 exact h v' w' (by unfold OwnB;rw[bv_append,List.length_append,sL_length];exact h1) h2
def IsV (w:World)(v:Value)(l:List UInt8):Prop:=∃a cap,v=.slice a l.length cap∧IsB w a l.length cap l
theorem OwnB.isV {w:World}{base:Nat}{v:Value}{l:List UInt8}(h:OwnB w base v l):IsV w v l:=h.isB
theorem isB_none (w:World):IsB w none 0 0 []:=⟨rfl,Nat.le_refl _,Nat.zero_le _,fun _=>rfl,fun h=>absurd h (Nat.lt_irrefl 0)⟩
theorem grow_bel {w w1 w2:World}{v:Value}{l:List UInt8}(hb:Below w.heap.size w w1)(ho:OwnB w1 w.heap.size v l)(hg:w1.grownBy w2 v.ownBlock):Below w.heap.size w w2 :=
 hb.grown hg hb.size (fun k hk=>(ho.blk k hk).1)
theorem wp_named {P:Program}{c:Code}{Q:Exit→Act→World→Prop}{a:Act}{w:World}(R:World→Prop)(hR:R w)(h:∀w',R w'→Code.wp P c Q a w'):Code.wp P c Q a w:=h w hR
def Blk (w:World)(B t:Nat)(cs:List Value):Prop:=w.heap[B]?=some (.cells cs.toArray t (0,0))
theorem Blk.lt {w:World}{B t:Nat}{cs:List Value}(h:Blk w B t cs):B<w.heap.size:=(Array.getElem?_eq_some_iff.1 h).1
theorem Blk.cell {w:World}{B t:Nat}{cs:List Value}(h:Blk w B t cs)(j:Nat):w.cell? ⟨B,j,none⟩=cs[j]?:=by
 rw[cell_of_row w B j _ _ _ h];simp
theorem Blk.frozen {w:World}{B t:Nat}{cs:List Value}(h:Blk w B t cs)(j:Nat):w.frozen? ⟨B,j,none⟩=false:=frozen_of_row w B j _ _ h
theorem Blk.below {w w':World}{n B t:Nat}{cs:List Value}(h:Blk w B t cs)(hb:Below n w w')(hn:B<n):Blk w' B t cs:=by
 unfold Blk;rw[hb.block B hn];exact h
theorem Blk.on {w w':World}{B t:Nat}{cs:List Value}(h:Blk w B t cs)(hb:Below w.heap.size w w'):Blk w' B t cs:=h.below hb h.lt
theorem Blk.alloc {w:World}{B t:Nat}{cs:List Value}(h:Blk w B t cs)(o:Obj):Blk (w.alloc o) B t cs:=by
 unfold Blk;rw[Below.heap_alloc w o B h.lt];exact h
theorem Blk.new (w:World)(t:Nat)(cs:List Value):Blk (w.alloc (.cells cs.toArray t)) w.heap.size t cs:=heap_alloc_new w _
theorem Blk.newAt (w:World)(B t:Nat)(arr:Array Value)(cs:List Value)(hB:w.heap.size=B)(hc:arr=cs.toArray):Blk (w.alloc (.cells arr t)) B t cs:=by
 subst hB hc;exact heap_alloc_new w _
theorem Blk.set {w:World}{B t:Nat}{cs:List Value}(h:Blk w B t cs)(j:Nat)(u:Value):Blk (w.setCell ⟨B,j,none⟩ u) B t (cs.set j u):=by
 unfold Blk;rw[heap_setCell_same w B j _ t u h];simp
theorem Blk.row {w:World}{B t:Nat}{cs:List Value}(h:Blk w B t cs)(ds:List Value):Blk (w.setRow B ds.toArray) B t ds:=setRow_heap w B _ _ t _ h
theorem Blk.rowOther {w:World}{B t:Nat}{cs:List Value}(h:Blk w B t cs)(g:Nat)(c:Array Value)(hne:B≠g):Blk (w.setRow g c) B t cs:=by
 unfold Blk;rw[setRow_other w g B c hne];exact h
theorem bel_row {B g:Nat}{a w:World}(h:Below B a w)(hg:B≤g)(c:Array Value):Below B a (w.setRow g c):=
 h.trans ⟨rfl,rfl,rfl,by simp[World.setRow],fun k hk=>setRow_other w g k c (by omega)⟩
theorem Blk.other {w:World}{B t:Nat}{cs:List Value}(h:Blk w B t cs)(a:Addr)(u:Value)(hne:B≠a.block):Blk (w.setCell a u) B t cs:=by
 unfold Blk;rw[heap_setCell_other w a B u hne];exact h
structure KeepT (ts:List TypeId)(w w':World):Prop where
 size:w.heap.size≤w'.heap.size
 same:∀(k:Nat) (o:Obj),w.heap[k]?=some o→(∀c t fz,o=.cells c t fz→t∉ts)→w'.heap[k]?=some o
theorem KeepT.refl (ts:List TypeId)(w:World):KeepT ts w w:=⟨Nat.le_refl _,fun _ _ h _=>h⟩
theorem KeepT.trans {ts:List TypeId}{a b c:World}(h:KeepT ts a b)(k:KeepT ts b c):KeepT ts a c:=⟨Nat.le_trans h.size k.size,fun i o hi ho=>k.same i o (h.same i o hi ho) ho⟩
theorem KeepT.of_below {ts:List TypeId}{w w':World}(h:Below w.heap.size w w'):KeepT ts w w':=⟨h.4,fun k _ hk _=>(h.5 k (Array.getElem?_eq_some_iff.1 hk).1).trans hk⟩
theorem KeepT.set {ts:List TypeId}{a w:World}(h:KeepT ts a w){B t:Nat}{cs:List Value}(hb:Blk w B t cs)(ht:t∈ts)(j:Nat)(u:Value):KeepT ts a (w.setCell ⟨B,j,none⟩ u):=
 h.trans ⟨(Nat.le_of_eq (by simp[World.setCell])),fun k o hk ho=>by
  by_cases e:k=B
  ·subst e
   have:o=.cells cs.toArray t (0,0):=Option.some.inj (hk.symm.trans hb)
   exact absurd ht (ho _ _ _ this)
  ·exact(Below.heap_setCell _ _ _ _ (by exact e)).trans hk⟩
theorem KeepT.blk {ts:List TypeId}{w w':World}(h:KeepT ts w w'){B t:Nat}{cs:List Value}(hb:Blk w B t cs)(ht:t∉ts):Blk w' B t cs :=
 h.same B _ hb (fun c t' fz e=>by injection e with _ h2 _;rw[←h2];exact ht)
def isCtl:Obj→Bool
 | .loop _=>true
 | .deferred _=>true
 | _=>false
structure KeepO (us:List TypeId)(w w':World):Prop where
 size:w.heap.size≤w'.heap.size
 same:∀(k:Nat) (c:Array Value) (t:TypeId) (fz:Nat × Nat),w.heap[k]?=some (.cells c t fz)→t∈us→w'.heap[k]?=some (.cells c t fz)
 ctl:∀(k:Nat) (o:Obj),w.heap[k]?=some o→isCtl o=true→w'.heap[k]?=some o
theorem KeepO.refl (us:List TypeId)(w:World):KeepO us w w:=⟨Nat.le_refl _,fun _ _ _ _ h _=>h,fun _ _ h _=>h⟩
theorem KeepO.trans {us:List TypeId}{a b c:World}(h:KeepO us a b)(k:KeepO us b c):KeepO us a c:=⟨Nat.le_trans h.size k.size,fun i c t fz hi ht=>k.same i c t fz (h.same i c t fz hi ht) ht,fun i o hi ho=>k.ctl i o (h.ctl i o hi ho) ho⟩
theorem KeepO.less {us vs:List TypeId}{w w':World}(h:KeepO us w w')(hs:∀t∈vs,t∈us):KeepO vs w w':=⟨h.size,fun k c t fz hk ht=>h.same k c t fz hk (hs t ht),h.ctl⟩
theorem KeepO.of_below {us:List TypeId}{w w':World}(h:Below w.heap.size w w'):KeepO us w w':=⟨h.4,fun k _ _ _ hk _=>(h.5 k (Array.getElem?_eq_some_iff.1 hk).1).trans hk,fun k _ hk _=>(h.5 k (Array.getElem?_eq_some_iff.1 hk).1).trans hk⟩
theorem KeepO.ofT {ts us:List TypeId}{w w':World}(h:KeepT ts w w')(hs:∀t∈us,t∉ts):KeepO us w w' :=
 ⟨h.size,fun k c t fz hk ht=>h.same k _ hk (fun c' t' fz' e=>by injection e with _ h2 _;rw[←h2];exact hs t ht),fun k o hk ho=>h.same k o hk (fun c' t' fz' e=>by subst e;cases ho)⟩
theorem KeepO.blk {us:List TypeId}{w w':World}(h:KeepO us w w'){B t:Nat}{cs:List Value}(hb:Blk w B t cs)(ht:t∈us):Blk w' B t cs:=h.same B _ t _ hb ht
theorem own_keepO {us:List TypeId}{w w':World}(h:KeepO us w w'){e:TypeId}{base size n:Nat}{v:Value}{xs:List Value}(ho:w.ownsRow base e size v n xs)(he:e∈us):w'.ownsRow base e size v n xs:=by
 refine⟨ho.1,?_⟩
 rcases ho.2 with h2|⟨g,cap,cur,h3,h4,h5,h6⟩
 ·exact .inl h2
 ·exact .inr ⟨g,cap,cur,h3,h4,h.same g _ e _ h5 he,h6⟩
theorem own_base {w:World}{e:TypeId}{base base' size n:Nat}{v:Value}{xs:List Value}(h:w.ownsRow base e size v n xs)(hb:base'≤base):w.ownsRow base' e size v n xs:=by
 refine⟨h.1,?_⟩
 rcases h.2 with h2|⟨g,cap,cur,h3,h4,h5⟩
 ·exact .inl h2
 ·exact .inr ⟨g,cap,cur,h3,Nat.le_trans hb h4,h5⟩
structure KeepU (fl:Nat)(us:List TypeId)(w w':World):Prop where
 o:KeepO us w w'
 low:∀k,k<fl→k<w.heap.size→w'.heap[k]?=w.heap[k]?
theorem KeepU.refl (fl:Nat)(us:List TypeId)(w:World):KeepU fl us w w:=⟨KeepO.refl _ _,fun _ _ _=>rfl⟩
theorem KeepU.trans {fl:Nat}{us:List TypeId}{a b c:World}(h:KeepU fl us a b)(k:KeepU fl us b c):KeepU fl us a c:=⟨h.o.trans k.o,fun i h1 h2=>(k.low i h1 (Nat.lt_of_lt_of_le h2 h.o.size)).trans (h.low i h1 h2)⟩
theorem KeepU.less {fl:Nat}{us vs:List TypeId}{w w':World}(h:KeepU fl us w w')(hs:∀t∈vs,t∈us):KeepU fl vs w w':=⟨h.o.less hs,h.low⟩
theorem KeepU.of_below {fl:Nat}{us:List TypeId}{w w':World}(h:Below w.heap.size w w'):KeepU fl us w w':=⟨KeepO.of_below h,fun k _ hk=>h.5 k hk⟩
theorem KeepU.ofB {fl B:Nat}{us:List TypeId}{w w':World}(h:KeepO us w w')(hb:Below B w w')(hle:fl≤B):KeepU fl us w w':=⟨h,fun k hk _=>hb.5 k (Nat.lt_of_lt_of_le hk hle)⟩
theorem KeepU.zero {us:List TypeId}{w w':World}(h:KeepO us w w'):KeepU 0 us w w':=⟨h,fun k hk _=>absurd hk (Nat.not_lt_zero k)⟩
theorem ret_b {a b:Bool}(h:a=b):Ending.returned (.bool a)=.returned (.bool b):=by rw[h]
theorem ret_i {a b:Int}(h:a=b):Ending.returned (.int .i64 a)=.returned (.int .i64 b):=by rw[h]
structure Rd where
 n:Nat
 S:List Wg
 C:List Wg
 off:Bool
 armed:Bool
 left:Nat
 wr:Nat
 fl:Nat
theorem own_keep {ts:List TypeId}{w w':World}(h:KeepT ts w w'){e:TypeId}{base size n:Nat}{v:Value}{xs:List Value}(ho:w.ownsRow base e size v n xs)(he:e∉ts):w'.ownsRow base e size v n xs:=by
 refine⟨ho.1,?_⟩
 rcases ho.2 with h2|⟨g,cap,cur,h3,h4,h5,h6⟩
 ·exact .inl h2
 ·exact .inr ⟨g,cap,cur,h3,h4,h.same g _ h5 (fun c t fz e1=>by injection e1 with _ h7 _;rw[←h7];exact he),h6⟩
def inR (n:Nat)(i:Int):Bool:=decide (0≤i∧i<n)
def stE (r:Rd)(i:Int):Int:=if inR r.n i=true then 0 else 50
def rdE (r:Rd)(i:Int):Int:=if r.off=true then 51 else stE r i
def rdB (r:Rd)(i:Int):List UInt8:=if r.off=true then [] else if inR r.n i=true then readOf r.S r.C i.toNat else []
def flE (r:Rd):Int:=if r.off=true then 51 else 0
theorem takeH {P:Program}{md:Region.Mode}{ops:Array Oper}{Q:Exit→Act→World→Prop}{S:World→Prop}{i:Nat}{oi:Oper}{v:Value}{fuel:Nat}{listed:Array Bool}{a:Act}{w:World}(d:Option Tmp)(hi:ops[i]?=some oi)
  (hs:Region.noSelect ops=true) (hf:Region.free md ops listed i=true) (hr:(Region.ready md ops listed).contains i=true)
  (hQ:∀c a w,Q (.panic c) (a.put oi.dst v) w→Q (.panic c) a w) (hy:YieldsIf P ops S oi v a) (hS:S w) (hd:oi.dst=d)
  (h:wpAnyH P md ops Q S fuel (listed.setIfInBounds i true) (a.put d v) w):wpAnyH P md ops Q S (fuel+1) listed a w:=by
 subst hd;exact wpAnyH_take hi hs hf hr hQ hy hS h
theorem oneH {P:Program}{md:Region.Mode}{ops:Array Oper}{Q:Exit→Act→World→Prop}{S:World→Prop}{fuel:Nat}{listed:Array Bool}{a:Act}{w:World}(i:Nat){oi:Oper}(hi:ops[i]?=some oi)
  (hr:Region.ready md ops listed=[i]) (hw:Region.wanted oi (yielded ops a.tmps)=true)
  (h:oi.wp P a w (fun a' w'=>S w'∧wpAnyH P md ops Q S fuel (listed.setIfInBounds i true) a' w') Q):wpAnyH P md ops Q S (fuel+1) listed a w:=by
 refine wpAnyH_all hr (by simp) fun j hj=>?_
 have:j=i:=by simpa using hj
 subst this
 unfold wpOp
 simp only[hi,hw,if_true]
 exact .inl h
attribute [local go_sem ↓] Go.wp_at_zero Go.wp_at_succ
def wrE (r:Rd)(i:Int)(b:List UInt8):Int:=if r.off=true then 51 else if inR r.n i=false then 50 else if b.length≠512 then 1 else if r.armed=true∧r.left=0 then 51 else 0
end Go.Proofs.YtpecobmfabmpkaaGreatDoor
namespace Go.Proofs.YtpecobmfabmpkaaGreatDoor
open Go.RowKit
structure Pl where
 n:Nat
 st:Nat→List UInt8
 ca:List (Nat × List UInt8)
 off:Bool
 arm:Option Nat
 wr:Nat
 fl:Nat
namespace Pl
def new (n:Nat):Pl:=⟨n,fun _=>zero512,[],false,none,0,0⟩
def put (st:Nat→List UInt8)(g:Nat × List UInt8):Nat→List UInt8:=fun i=>if g.1=i then g.2 else st i
def kept:List (Nat × List UInt8)→List Bool→List (Nat × List UInt8)
 | g::l,k::ks=>if k=true then g::kept l ks else kept l ks
 | _,_=>[]
def stE (p:Pl)(i:Int):Int:=if inR p.n i=true then 0 else 50
def rdE (p:Pl)(i:Int):Int:=if p.off=true then 51 else p.stE i
def rdB (p:Pl)(i:Int):List UInt8:=if p.off=true then [] else if inR p.n i=true then p.ca.foldl put p.st i.toNat else []
def wrE (p:Pl)(i:Int)(b:List UInt8):Int:=if p.off=true then 51 else if inR p.n i=false then 50 else if b.length≠512 then 1 else if p.arm=some 0 then 51 else 0
def write (p:Pl)(i:Int)(b:List UInt8):Pl :=
 if p.off=true then p else if inR p.n i=false then p else if b.length≠512 then p else if p.arm=some 0 then { p with off:=true } else { p with arm:=p.arm.map (· - 1),wr:=p.wr+1,ca:=p.ca++[(i.toNat,b)] }
def flE (p:Pl):Int:=if p.off=true then 51 else 0
def flush (p:Pl):Pl:=if p.off=true then p else { p with st:=p.ca.foldl put p.st,ca:=[],fl:=p.fl+1 }
def armed (p:Pl)(z:Int):Pl:={ p with arm:=if 0≤z then some z.toNat else none }
end Pl
structure FewP (p:Pl):Prop where
 n:p.n≤4096
 ca:p.ca.length≤1000000
 at_:∀g∈p.ca,g.1<p.n∧g.2.length=512
 wr:p.wr≤1000000
 fl:p.fl≤1000000
attribute [local go_sem ↓] Go.wp_at_zero Go.wp_at_succ
def flag (b:Bool):Int:=if b then 1 else 0
theorem atLoadAt (B o:Nat)(f:Bool)(w:World)(h:w.cell? ⟨B,o,none⟩=some (.int .u32 (flag f))):
  Calls Tryz.prog 85 #[.pointer (some ⟨B,o,none⟩)] w fun e w'=>e=.returned (.bool f)∧w'=w:=by
 have hl:=run_call_load (P:=Tryz.prog) Tryz.func121 (by kernel_rfl) (by kernel_rfl) (by kernel_rfl) .u32 (by kernel_rfl) h
 cases f
 all_goals
  go_enter Tryz.func85,Tryz.ntmps85
  go_wp2
  go_ret
  exact⟨rfl,rfl⟩
theorem atStoreAt (B o:Nat)(b:Bool)(v:Value)(w:World)(h:w.cell? ⟨B,o,none⟩=some v)(hf:w.frozen? ⟨B,o,none⟩=false):
  Calls Tryz.prog 97 #[.pointer (some ⟨B,o,none⟩),.bool b] w fun e w'=>e=.returned (.tuple #[])∧w'=w.drew.setCell ⟨B,o,none⟩ (.int .u32 (flag b)):=by
 cases b
 ·have hs:=run_call_store (P:=Tryz.prog) Tryz.func135 (by kernel_rfl) (by kernel_rfl) (by kernel_rfl) (by kernel_rfl) (k:=.u32) (y:=0) (w:=w.drew) (a:=⟨B,o,none⟩) (u:=v) (by simpa using h) (by simpa using hf)
  go_enter Tryz.func97,Tryz.ntmps97
  go_wp2
  go_region_calls
  all_goals
   go_wp2
   go_end0
   exact⟨rfl,rfl⟩
 ·have hs:=run_call_store (P:=Tryz.prog) Tryz.func135 (by kernel_rfl) (by kernel_rfl) (by kernel_rfl) (by kernel_rfl) (k:=.u32) (y:=1) (w:=w.drew) (a:=⟨B,o,none⟩) (u:=v) (by simpa using h) (by simpa using hf)
  go_enter Tryz.func97,Tryz.ntmps97
  go_wp2
  go_region_calls
  all_goals
   go_wp2
   go_end0
   exact⟨rfl,rfl⟩
theorem at64Add (B o n:Nat)(w:World)(h:w.cell? ⟨B,o,none⟩=some (.int .u64 (n:Int)))(hf:w.frozen? ⟨B,o,none⟩=false)(hn:n≤1000000000):
  Calls Tryz.prog 132 #[.pointer (some ⟨B,o,none⟩),.int .u64 1] w fun e w'=>e=.returned (.int .u64 ((n+1:Nat):Int))∧w'=w.setCell ⟨B,o,none⟩ (.int .u64 ((n+1:Nat):Int)):=by
 have hs:(Op.intArith .add .u64 (n:Int) 1).run Tryz.prog w=.ok (.int .u64 ((n+1:Nat):Int)) w:=by
  have e:IntKind.u64.wrap ((n:Int)+1)=((n+1:Nat):Int):=by
   have:=wrap64_nat (n+1) (by omega)
   rw[Int.natCast_add] at this ⊢
   exact this
  simp[Op.intArith,e]
 have hl:=run_call_add (P:=Tryz.prog) Tryz.func169 (by kernel_rfl) (by kernel_rfl) (by kernel_rfl) .u64 (by kernel_rfl) h hf hs
 generalize (n+1:Nat)=m at *
 clear hs hn
 go_enter Tryz.func132,Tryz.ntmps132
 go_wp2
 go_ret
 exact⟨rfl,rfl⟩
end Go.Proofs.YtpecobmfabmpkaaGreatDoor
