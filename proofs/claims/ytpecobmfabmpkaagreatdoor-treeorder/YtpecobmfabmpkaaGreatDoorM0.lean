/- Base Dk0 Bits Own OwnS Blk KeepC Dk1 Ret Dk2 Dk3 Dk4 Dk5 Dk6 TakeH Dk1b Dk7 DkP DkF Atom Pd0 Jr4 CanW Can Rdr SlB -/
import Derived.Test.YtpecobmfabmpkaaGreatDoorProg
import Derived.WalkKit
import Derived.Below
import Derived.Deep.QuietTactic
import Derived.BigQuiet
import Derived.Deep.RegionHeld3
import Derived.Deep.AppendLies
import Derived.Deep.DrawnRows
import Derived.Laws.AppendOwnNone
import Derived.Lib.AppendStr
import Derived.Lib.ConvBytes
import Derived.Deep.CutBlock
import Derived.Deep.CutRange
import Derived.Laws.LoneSync
import Derived.RegionCalls
import Derived.Deep.MidRow
set_option maxRecDepth 20000
set_option maxHeartbeats 1000000
namespace Go.Proofs.YtpecobmfabmpkaaGreatDoor
section
open Go.RowKit
theorem sIx {α : Type _} (l : List α) (i : Nat) (a : α) : l.toArray.setIfInBounds i a = (l.set i a).toArray := List.setIfInBounds_toArray ..
theorem sZ0 {α : Type _} {x : α} {xs : List α} {a : α} : (x :: xs).set 0 a = a :: xs := rfl
theorem sZ1 {α : Type _} {x : α} {xs : List α} {n : Nat} {a : α} : (x :: xs).set (n + 1) a = x :: xs.set n a := rfl
theorem mkF0 (fn : Fn) (first cap : Array Value) (w : World) : (Instr.makeFunc fn first cap).run Tryz.prog w = .ok (.func fn first cap) w := rfl
theorem gZ0 {α : Type _} {a : α} {xs : List α} : (a :: xs)[0]? = some a := rfl
theorem gZ1 {α : Type _} {a : α} {xs : List α} {i : Nat} : (a :: xs)[i + 1]? = xs[i]? := rfl
theorem mkHid {p:Prop}(h:p):Hid p:=h
theorem cell_lt {w:World}{a:Addr}{v:Value}(h:w.cell? a=some v):a.block<w.heap.size:=by
 unfold World.cell? at h
 by_cases hb:a.block<w.heap.size
 ·exact hb
 ·rw[Array.getElem?_eq_none (by omega)] at h;simp at h
def nth (l:List UInt8)(i:Nat):UInt8:=l.getD i 0
theorem nth_eq (l:List UInt8)(i:Nat)(h:i<l.length):nth l i=l[i]:=by
 unfold nth;rw[List.getD_eq_getElem?_getD,List.getElem?_eq_getElem h];rfl
theorem nth_drop (l:List UInt8)(k i:Nat):nth (l.drop k) i=nth l (k+i):=by
 unfold nth;rw[List.getD_eq_getElem?_getD,List.getD_eq_getElem?_getD,List.getElem?_drop]
theorem wrap8_mod (x:Int):IntKind.u8.wrap x=x%256:=by simp[IntKind.wrap,IntKind.signed,IntKind.bits]
structure IsB (w:World)(a:Option Addr)(len cap:Nat)(l:List UInt8):Prop where
 len_eq:l.length=len
 le:len≤cap
 max:cap≤maxLen
 nil:a=none→cap=0
 cells:0<len→∃b off,a=some ⟨b,off,none⟩∧∀i,i<len→w.cell? ⟨b,off+i,none⟩=some (.int .u8 ((nth l i).toNat:Int))
theorem IsB.drewN {w:World}{a:Option Addr}{len cap:Nat}{l:List UInt8}(h:IsB w a len cap l)(n:Nat):IsB (w.drewN n) a len cap l :=
 ⟨h.len_eq,h.le,h.max,h.nil,fun hp=>by obtain⟨b,off,e,hc⟩:=h.cells hp;exact⟨b,off,e,fun i hi=>by simpa using hc i hi⟩⟩
theorem IsB.below {w w':World}{n:Nat}{a:Option Addr}{len cap:Nat}{l:List UInt8}(h:IsB w a len cap l)(hb:Below n w w')(hn:n=w.heap.size):IsB w' a len cap l :=
 ⟨h.len_eq,h.le,h.max,h.nil,fun hp=>by
  obtain⟨b,off,e,hc⟩:=h.cells hp
  refine⟨b,off,e,fun i hi=>?_⟩
  have:=hc i hi
  have hlt:b<w.heap.size:=cell_lt this
  rw[hb.cell (p:=⟨b,off+i,none⟩) (by simpa [hn] using hlt)];exact this⟩
theorem bel_drewN {B:Nat}{a w:World}(h:Below B a w)(n:Nat):Below B a (w.drewN n):=h.trans ⟨rfl,rfl,rfl,Nat.le_refl _,fun _ _=>rfl⟩
def IsRow (k:IntKind)(w:World)(a:Option Addr)(len cap:Nat)(zs:List Int):Prop :=
 (a=none∧len=0∧cap=0∧zs=[]) ∨
 ∃x,a=some x∧len≤cap∧cap≤maxLen∧zs.length=cap∧(∀i,i<zs.length→w.cell? (x.add i)=some (.int k (zs.getD i 0)))∧∀n∈zs,(Lit.int k n).wf=true
theorem IsRow.bytes {w:World}{a:Option Addr}{len cap:Nat}{zs:List Int}(h:IsRow .u8 w a len cap zs):∃l,IsB w a len cap l:=by
 rcases h with⟨rfl,rfl,rfl,_⟩|⟨⟨b,off,spot⟩,rfl,h2,h3,h4,h5,h6⟩
 ·exact⟨[],rfl,Nat.le_refl _,Nat.zero_le _,fun _=>rfl,fun h=>by omega⟩
 ·refine⟨(zs.take len).map fun n=>UInt8.ofNat n.toNat,by simp;omega,h2,h3,fun h=>(by cases h),fun hl=>?_⟩
  have hc:=h5 0 (by omega)
  have hspot:spot=none:=by simpa [Addr.add] using World.cell?_spot hc
  subst hspot
  refine⟨b,off,rfl,fun i hi=>?_⟩
  have hi':i<zs.length:=by omega
  have hx:=h5 i hi'
  rw[Addr.add_lit] at hx
  rw[hx]
  have hm:zs.getD i 0∈zs:=by rw[List.getD_eq_getElem?_getD,List.getElem?_eq_getElem hi'];exact List.getElem_mem hi'
  have hw:0≤zs.getD i 0∧zs.getD i 0≤255:=by simpa [Lit.wf,IntKind.min,IntKind.max,IntKind.signed,IntKind.bits] using h6 _ hm
  have hn:nth ((zs.take len).map fun n=>UInt8.ofNat n.toNat) i=UInt8.ofNat (zs.getD i 0).toNat:=by
   rw[nth_eq _ _ (by simp;omega)]
   simp[List.getElem?_eq_getElem hi']
  rw[hn]
  congr 2
  rw[UInt8.toNat_ofNat']
  omega
end
section
structure Wg where
 at_:Nat
 b:List UInt8
 ad:Option Addr
 cap:Nat
def zero512:List UInt8:=List.replicate 512 0
def lastW:List Wg→Nat→Option (List UInt8)
 | [],_=>none
 | g::l,i=>match lastW l i with
  | some b=>some b
  | none=>if g.at_=i then some g.b else none
def stableOf (S:List Wg)(i:Nat):List UInt8:=(lastW S i).getD zero512
def readOf (S C:List Wg)(i:Nat):List UInt8:=(lastW C i).getD (stableOf S i)
theorem wrap8_nat (n:Nat)(h:n<256):IntKind.u8.wrap (n:Int)=n:=by
 simp[IntKind.wrap,IntKind.signed,IntKind.bits];omega
theorem wrap32_nat (n:Nat)(h:n<4294967296):IntKind.u32.wrap (n:Int)=n:=by
 simp[IntKind.wrap,IntKind.signed,IntKind.bits];omega
theorem wrap64_nat (n:Nat)(h:n<18446744073709551616):IntKind.u64.wrap (n:Int)=n:=by
 simp[IntKind.wrap,IntKind.signed,IntKind.bits];omega
theorem wrapi64_in (n:Int)(h0 : -9223372036854775808≤n)(h1:n≤9223372036854775807):IntKind.i64.wrap n=n:=by
 simp[IntKind.wrap,IntKind.signed,IntKind.bits];omega
theorem of8 (a:UInt8):BitVec.ofInt 8 (a.toNat:Int)=a.toBitVec:=by rw[BitVec.ofInt_natCast];exact BitVec.eq_of_toNat_eq (by simp)
theorem of32 (a:UInt32):BitVec.ofInt 32 (a.toNat:Int)=a.toBitVec:=by rw[BitVec.ofInt_natCast];exact BitVec.eq_of_toNat_eq (by simp)
theorem of64 (a:UInt64):BitVec.ofInt 64 (a.toNat:Int)=a.toBitVec:=by rw[BitVec.ofInt_natCast];exact BitVec.eq_of_toNat_eq (by simp)
theorem bits_xor8 (a b:UInt8):bits .xor .u8 (a.toNat:Int) (b.toNat:Int)=((a ^^^ b).toNat:Int):=by
 show IntKind.u8.wrap ((BitVec.ofInt 8 (a.toNat:Int) ^^^ BitVec.ofInt 8 (b.toNat:Int)).toNat:Int)=_
 rw[of8,of8];exact wrap8_nat _ (a ^^^ b).toNat_lt
theorem bits_and8 (a b:UInt8):bits .and .u8 (a.toNat:Int) (b.toNat:Int)=((a &&& b).toNat:Int):=by
 show IntKind.u8.wrap ((BitVec.ofInt 8 (a.toNat:Int) &&& BitVec.ofInt 8 (b.toNat:Int)).toNat:Int)=_
 rw[of8,of8];exact wrap8_nat _ (a &&& b).toNat_lt
theorem bits_xor32 (a b:UInt32):bits .xor .u32 (a.toNat:Int) (b.toNat:Int)=((a ^^^ b).toNat:Int):=by
 show IntKind.u32.wrap ((BitVec.ofInt 32 (a.toNat:Int) ^^^ BitVec.ofInt 32 (b.toNat:Int)).toNat:Int)=_
 rw[of32,of32];exact wrap32_nat _ (a ^^^ b).toNat_lt
theorem bits_or32 (a b:UInt32):bits .or .u32 (a.toNat:Int) (b.toNat:Int)=((a ||| b).toNat:Int):=by
 show IntKind.u32.wrap ((BitVec.ofInt 32 (a.toNat:Int) ||| BitVec.ofInt 32 (b.toNat:Int)).toNat:Int)=_
 rw[of32,of32];exact wrap32_nat _ (a ||| b).toNat_lt
theorem bits_and32 (a b:UInt32):bits .and .u32 (a.toNat:Int) (b.toNat:Int)=((a &&& b).toNat:Int):=by
 show IntKind.u32.wrap ((BitVec.ofInt 32 (a.toNat:Int) &&& BitVec.ofInt 32 (b.toNat:Int)).toNat:Int)=_
 rw[of32,of32];exact wrap32_nat _ (a &&& b).toNat_lt
theorem toNat8_inj (a b:UInt8):((a.toNat:Int)=(b.toNat:Int))↔a=b:=by
 rw[Int.ofNat_inj,UInt8.toNat_inj]
end
section
open Go.RowKit
theorem info8:(Tryz.prog.info? 5).map (fun i=>(i.zero,i.size,i.bytes))=some (some (.int .u8 0),1,1):=by kernel_rfl
def bv (l:List UInt8):List Value:=l.map fun b=>.int .u8 (b.toNat:Int)
theorem bv_append (l m:List UInt8):bv (l++m)=bv l++bv m:=by simp[bv]
theorem bv_length (l:List UInt8):(bv l).length=l.length:=by simp[bv]
theorem bv_one (l:List UInt8):∀u∈bv l,u.oneCell'=true:=by
 intro u hu
 obtain⟨b,_,rfl⟩:=List.mem_map.1 hu
 rfl
theorem bv_at (l:List UInt8)(i:Nat)(h:i<l.length):(bv l)[i]?=some (.int .u8 ((nth l i).toNat:Int)):=by
 rw[nth_eq l i h];simp[bv,List.getElem?_eq_getElem h]
def OwnB (w:World)(base:Nat)(v:Value)(l:List UInt8):Prop:=w.ownsRow base 5 1 v l.length (bv l)
theorem OwnB.nil (w:World)(base:Nat):OwnB w base (.slice none 0 0) []:=World.ownsRow_nil _ _ _ _
theorem OwnB.heap {w w':World}{base:Nat}{v:Value}{l:List UInt8}(h:OwnB w base v l)(e:w'.heap=w.heap):OwnB w' base v l:=by
 unfold OwnB World.ownsRow at *;rw[e];exact h
theorem OwnB.base {w:World}{base base':Nat}{v:Value}{l:List UInt8}(h:OwnB w base v l)(hb:base'≤base):OwnB w base' v l:=by
 refine⟨h.1,?_⟩
 rcases h.2 with h2|⟨g,cap,cur,h3,h4,h5⟩
 ·exact .inl h2
 ·exact .inr ⟨g,cap,cur,h3,Nat.le_trans hb h4,h5⟩
theorem OwnB.alloc {w:World}{base:Nat}{v:Value}{l:List UInt8}(h:OwnB w base v l)(o:Obj):OwnB (w.alloc o) base v l:=World.ownsRow.alloc h o
theorem OwnB.blk {w:World}{base:Nat}{v:Value}{l:List UInt8}(h:OwnB w base v l):∀k,v.ownBlock=some k→base≤k∧k<w.heap.size:=World.ownsRow.lt h
theorem OwnB.isB {w:World}{base:Nat}{v:Value}{l:List UInt8}(h:OwnB w base v l):∃a cap,v=.slice a l.length cap∧IsB w a l.length cap l:=by
 obtain⟨h1,h2⟩:=h
 rcases h2 with⟨rfl,h0⟩|⟨g,cap,cur,rfl,hb,hg,hle,hmax,hsz,htk⟩
 ·have:l=[]:=List.eq_nil_of_length_eq_zero h0
  subst this
  exact⟨none,0,rfl,rfl,Nat.le_refl _,Nat.zero_le _,fun _=>rfl,fun hp=>absurd hp (Nat.lt_irrefl 0)⟩
 ·refine⟨_,cap,rfl,rfl,hle,hmax,fun e=>(by cases e),fun hp=>⟨g,0,rfl,fun i hi=>?_⟩⟩
  have hc:=World.ownsRow.cells (w:=w) (base:=base) (e:=5) (size:=1) (v:=.slice (some ⟨g,0,none⟩) l.length cap) (n:=l.length) (xs:=bv l) ⟨h1,.inr ⟨g,cap,cur,rfl,hb,hg,hle,hmax,hsz,htk⟩⟩ (g:=g) rfl i _ (bv_at l i hi)
  rw[Addr.add_lit] at hc;exact hc
theorem OwnB.cellAt {w:World}{base g cap:Nat}{l:List UInt8}{n:Nat}(h:OwnB w base (.slice (some ⟨g,0,none⟩) n cap) l)(hn:l.length=n)(j:Nat)(hj:j<n):w.cell? ⟨g,j,none⟩=some (.int .u8 ((nth l j).toNat:Int)):=by
 subst hn
 rw[World.ownsRow.cellAt h j (by omega),bv_at l j hj]
theorem OwnB.frozenAt {w:World}{base g cap:Nat}{l:List UInt8}{n:Nat}(h:OwnB w base (.slice (some ⟨g,0,none⟩) n cap) l)(hn:l.length=n)(j:Nat):w.frozen? ⟨g,j,none⟩=false:=by
 subst hn
 exact World.ownsRow.frozenAt h j
theorem OwnB.set {w:World}{base g cap:Nat}{l:List UInt8}{n:Nat}(h:OwnB w base (.slice (some ⟨g,0,none⟩) n cap) l)(hn:l.length=n)(j:Nat)(x:UInt8):OwnB (w.setCell ⟨g,j,none⟩ (.int .u8 (x.toNat:Int))) base (.slice (some ⟨g,0,none⟩) n cap) (l.set j x):=by
 subst hn
 have:=(World.ownsRow.stored h j (.int .u8 (x.toNat:Int))).1
 unfold OwnB
 rw[List.length_set]
 have e:bv (l.set j x)=(bv l).set j (.int .u8 (x.toNat:Int)):=by unfold bv;rw[List.map_set]
 rw[e];exact this
theorem IsB.ofBlock {w:World}{B:Nat}(l:List UInt8)(hm:l.length≤maxLen)(hb:w.heap[B]?=some (.cells (bv l).toArray 5 (0,0))):IsB w (some ⟨B,0,none⟩) l.length l.length l :=
 ⟨rfl,Nat.le_refl _,hm,fun e=>(by cases e),fun _=>⟨B,0,rfl,fun i hi=>by
  rw[cell_of_row w B (0+i) _ _ _ hb,Nat.zero_add]
  simpa using bv_at l i hi⟩⟩
theorem make_own8 {ops:Array Oper}{rest:List Oper}{o:Oper}{a:Act}{Q:Exit→Act→World→Prop}(w:World)
  (hg:o.guard=none) (l c:Operand) (hop:o.op=Op.makeSlice 33 l c) (base:Nat)
  (kl kc:IntKind) (C:Int) (n:Nat) (hl:a.eval l=.int kl 0) (hc:a.eval c=.int kc C) (hC:C=(n:Int)) (b2:n≤281474976710656) (b4:base≤w.heap.size)
  (hK:∀w',OwnB w' base (.slice (some ⟨w.heap.size,0,none⟩) 0 n) []→w.grownBy w' none→wpList Tryz.prog ops Q rest (a.put o.dst (.slice (some ⟨w.heap.size,0,none⟩) 0 n)) w'):
  wpList Tryz.prog ops Q (o::rest) a w:=by
 obtain⟨i0,hi,hz0,hz1,hz2⟩:=info_parts info8
 exact wpList_make_own w hg l c 33 hop base 5 i0 (.int .u8 0) 1 Tryz.underlying33 hi hz0 hz1 kl kc C n hl hc hC (by rw[hz2];omega) (by unfold maxLen;omega) b4 hK
theorem made_zeros (n:Nat):(madeCells (Value.int .u8 0).cells (n * 1)).toList=bv (List.replicate n 0):=by
 simp only[madeCells,Value.cells,bv,List.map_replicate]
 rw[List.eq_replicate_iff]
 simp[Nat.mod_one]
theorem make_full8 {ops:Array Oper}{rest:List Oper}{o:Oper}{a:Act}{Q:Exit→Act→World→Prop}(w:World)
  (hg:o.guard=none) (l c:Operand) (hop:o.op=Op.makeSlice 33 l c) (base:Nat)
  (kl kc:IntKind) (L C:Int) (n:Nat) (hl:a.eval l=.int kl L) (hc:a.eval c=.int kc C) (hL:L=(n:Int)) (hC:C=(n:Int)) (b2:n≤281474976710656) (b4:base≤w.heap.size)
  (hK:∀w',OwnB w' base (.slice (some ⟨w.heap.size,0,none⟩) n n) (List.replicate n 0)→w.grownBy w' none→wpList Tryz.prog ops Q rest (a.put o.dst (.slice (some ⟨w.heap.size,0,none⟩) n n)) w'):
  wpList Tryz.prog ops Q (o::rest) a w:=by
 obtain⟨i0,hi,hz0,hz1,hz2⟩:=info_parts info8
 exact wpList_make_full w hg l c 33 hop base 5 i0 (.int .u8 0) 1 Tryz.underlying33 hi hz0 hz1 kl kc L C n hl hc hL hC (by rw[hz2];omega) (by unfold maxLen;omega) b4
  (fun w' h g=>hK w' (by unfold OwnB;rw[List.length_replicate];rw[made_zeros] at h;exact h) g)
theorem list_app8 {ops:Array Oper}{rest:List Oper}{o:Oper}{a:Act}{Q:Exit→Act→World→Prop}(w:World)(hgd:o.guard=none)(s x:Operand)
  (ho:o.op=.call { callee:=.builtin .append,args:=#[s,x],argTypes:=#[33,33] }) (base:Nat)
  (v:Value) (l:List UInt8) (hs:a.eval s=v) (hown:OwnB w base v l) (B m c:Nat) (news:List UInt8) (hx:a.eval x=.slice (some ⟨B,0,none⟩) m c) (hl:news.length=m)
  (hb:w.heap[B]?=some (.cells (bv news).toArray 5 (0,0))) (hm:0<m) (hbytes:l.length+m≤140737488355328) (hbase:base≤w.heap.size) (H:Nat) (hH:w.heap.size=H)
  (h:∀g cap w',OwnB w' base (.slice (some ⟨g,0,none⟩) (l.length+m) cap) (l++news)→w.grownBy w' v.ownBlock→(v.ownBlock=some g∨g=H)→g<w'.heap.size→wpList Tryz.prog ops Q rest (a.put o.dst (.slice (some ⟨g,0,none⟩) (l.length+m) cap)) w'):
  wpList Tryz.prog ops Q (o::rest) a w:=by
 obtain⟨i0,hi,hz0,hz1,hz2⟩:=info_parts info8
 refine wpList_append_lies w hgd s x 33 ho base 5 i0 (.int .u8 0) 1 1 Tryz.underlying33 hi hz0 hz1 hz2 rfl (by omega) v l.length (bv l) hs hown ⟨B,0,none⟩ m c (bv news) hx (by rw[bv_length];omega)
  (fun j u hu=>World.news_of_block hb j u (by simpa using hu)) (bv_one news) hm (by unfold maxLen;omega) (by omega) hbase H hH ?_
 intro g cap w' h1 h2 h3 h4
 exact h g cap w' (by unfold OwnB;rw[bv_append,List.length_append,hl];exact h1) h2 h3 h4
theorem OwnB.empty (w:World)(base:Nat)(hb:base≤w.heap.size):OwnB (w.alloc (.cells #[] 5)) base (.slice (some ⟨w.heap.size,0,none⟩) 0 0) [] :=
 World.ownsRow_made w #[] 0 hb (Nat.zero_le _) rfl
theorem list_appS {ops:Array Oper}{rest:List Oper}{o:Oper}{a:Act}{Q:Exit→Act→World→Prop}(w:World)(hgd:o.guard=none)(s x:Operand)
  (ho:o.op=.call { callee:=.builtin .append,args:=#[s,x],argTypes:=#[33,33] }) (base:Nat)
  (v:Value) (l:List UInt8) (hs:a.eval s=v) (hown:OwnB w base v l) (sa:Option Addr) (m c:Nat) (news:List UInt8) (hx:a.eval x=.slice sa m c) (hB:IsB w sa m c news)
  (hbytes:l.length+m≤140737488355328) (hbase:base≤w.heap.size)
  (h:∀v' w',OwnB w' base v' (l++news)→w.grownBy w' v.ownBlock→wpList Tryz.prog ops Q rest (a.put o.dst v') w'):
  wpList Tryz.prog ops Q (o::rest) a w:=by
 obtain⟨i0,hi,hz0,hz1,hz2⟩:=info_parts info8
 cases sa with
 | none =>
  have h0:=hB.nil rfl
  have hle:=hB.le
  have hm:m=0:=by omega
  subst hm h0
  have hn:news=[]:=List.eq_nil_of_length_eq_zero hB.len_eq
  subst hn
  exact wpList_append_own_none hgd s x 33 ho base 5 i0 1 Tryz.underlying33 hi v l.length (bv l) hs hown hx (h v w (by rw[List.append_nil];exact hown) (World.grownBy.refl _ _))
 | some ad =>
  refine wpList_append_own w hgd s x 33 ho base 5 i0 (.int .u8 0) 1 1 Tryz.underlying33 hi hz0 hz1 hz2 rfl (by omega) v l.length (bv l) hs hown ad m c (bv news) hx (by rw[bv_length,hB.len_eq];omega) ?_ (bv_one news) (by unfold maxLen;omega) (by omega) hbase ?_
  ·intro j u hj
   have hjl:j<news.length:=by
    rcases Nat.lt_or_ge j news.length with h|h
    ·exact h
    ·rw[List.getElem?_eq_none (by rw[bv_length];exact h)] at hj;cases hj
   have hl:=hB.len_eq
   obtain⟨b,off,e,hc⟩:=hB.cells (by omega)
   have e:=Option.some.inj e
   rw[bv_at news j hjl] at hj
   rw[e,Addr.add_lit,hc j (by omega)];exact hj
  ·intro v' w' h1 h2 _
   exact h v' w' (by unfold OwnB;rw[bv_append,List.length_append,hB.len_eq];exact h1) h2
def sL (s:ByteArray):List UInt8:=s.data.toList
theorem sL_length (s:ByteArray):(sL s).length=s.size:=by unfold sL;rw[Array.length_toList];rfl
theorem list_appT {ops:Array Oper}{rest:List Oper}{o:Oper}{a:Act}{Q:Exit→Act→World→Prop}(w:World)(hgd:o.guard=none)(s x:Operand)
  (ho:o.op=.call { callee:=.builtin .append,args:=#[s,x],argTypes:=#[33,9] }) (base:Nat)
  (v:Value) (l:List UInt8) (hs:a.eval s=v) (hown:OwnB w base v l) (t:ByteArray) (hx:a.eval x=.string t)
  (hbytes:l.length+t.size≤140737488355328) (hbase:base≤w.heap.size)
  (h:∀v' w',OwnB w' base v' (l++sL t)→w.grownBy w' v.ownBlock→wpList Tryz.prog ops Q rest (a.put o.dst v') w'):
  wpList Tryz.prog ops Q (o::rest) a w:=by
 obtain⟨i0,hi,hz0,hz1,hz2⟩:=info_parts info8
 refine Lib.wpList_append_own_string w hgd s x 33 9 ho base 5 i0 Tryz.underlying33 Tryz.underlying9 hi hz0 hz1 hz2 v l.length (bv l) hs hown t hx (by unfold maxLen;omega) hbytes hbase ?_
 intro v' w' h1 h2 _
 exact h v' w' (by unfold OwnB;rw[bv_append,List.length_append,sL_length];exact h1) h2
theorem list_app1 {ops:Array Oper}{rest:List Oper}{o:Oper}{a:Act}{Q:Exit→Act→World→Prop}(w:World)(hgd:o.guard=none)(s x:Operand)
  (ho:o.op=.call { callee:=.builtin .append,args:=#[s,x],argTypes:=#[33,33] }) (base:Nat)
  (v:Value) (l:List UInt8) (hs:a.eval s=v) (hown:OwnB w base v l) (B m:Nat) (news:List UInt8) (hx:a.eval x=.slice (some ⟨B,0,none⟩) m m) (hl:news.length=m)
  (hb:w.heap[B]?=some (.cells (bv news).toArray 5 (0,0))) (hbytes:l.length+m≤140737488355328) (hbase:base≤w.heap.size)
  (h:∀v' w',OwnB w' base v' (l++news)→w.grownBy w' v.ownBlock→wpList Tryz.prog ops Q rest (a.put o.dst v') w'):
  wpList Tryz.prog ops Q (o::rest) a w:=by
 subst hl
 exact list_appS w hgd s x ho base v l hs hown (some ⟨B,0,none⟩) news.length news.length news hx (IsB.ofBlock news (by unfold maxLen;omega) hb) hbytes hbase h
def IsV (w:World)(v:Value)(l:List UInt8):Prop:=∃a cap,v=.slice a l.length cap∧IsB w a l.length cap l
theorem IsB.isV {w:World}{a:Option Addr}{len cap:Nat}{l:List UInt8}(h:IsB w a len cap l):IsV w (.slice a len cap) l:=by
 have:=h.len_eq
 subst this
 exact⟨a,cap,rfl,h⟩
theorem OwnB.isV {w:World}{base:Nat}{v:Value}{l:List UInt8}(h:OwnB w base v l):IsV w v l:=h.isB
theorem isB_none (w:World):IsB w none 0 0 []:=⟨rfl,Nat.le_refl _,Nat.zero_le _,fun _=>rfl,fun h=>absurd h (Nat.lt_irrefl 0)⟩
theorem IsV.nil (w:World):IsV w (.slice none 0 0) []:=(isB_none w).isV
theorem grow_bel {w w1 w2:World}{v:Value}{l:List UInt8}(hb:Below w.heap.size w w1)(ho:OwnB w1 w.heap.size v l)(hg:w1.grownBy w2 v.ownBlock):Below w.heap.size w w2 :=
 hb.grown hg hb.size (fun k hk=>(ho.blk k hk).1)
theorem wp_named {P:Program}{c:Code}{Q:Exit→Act→World→Prop}{a:Act}{w:World}(R:World→Prop)(hR:R w)(h:∀w',R w'→Code.wp P c Q a w'):Code.wp P c Q a w:=h w hR
def Blk (w:World)(B t:Nat)(cs:List Value):Prop:=w.heap[B]?=some (.cells cs.toArray t (0,0))
theorem Blk.lt {w:World}{B t:Nat}{cs:List Value}(h:Blk w B t cs):B<w.heap.size:=(Array.getElem?_eq_some_iff.1 h).1
theorem Blk.cell {w:World}{B t:Nat}{cs:List Value}(h:Blk w B t cs)(j:Nat):w.cell? ⟨B,j,none⟩=cs[j]?:=by
 rw[cell_of_row w B j _ _ _ h];simp
theorem Blk.frozen {w:World}{B t:Nat}{cs:List Value}(h:Blk w B t cs)(j:Nat):w.frozen? ⟨B,j,none⟩=false:=frozen_of_row w B j _ _ h
theorem Blk.below {w w':World}{n B t:Nat}{cs:List Value}(h:Blk w B t cs)(hb:Below n w w')(hn:B<n):Blk w' B t cs:=by
 unfold Blk;rw[hb.block B hn];exact h
theorem Blk.on {w w':World}{B t:Nat}{cs:List Value}(h:Blk w B t cs)(hb:Below w.heap.size w w'):Blk w' B t cs:=h.below hb h.lt
theorem Blk.alloc {w:World}{B t:Nat}{cs:List Value}(h:Blk w B t cs)(o:Obj):Blk (w.alloc o) B t cs:=by
 unfold Blk;rw[Below.heap_alloc w o B h.lt];exact h
theorem Blk.new (w:World)(t:Nat)(cs:List Value):Blk (w.alloc (.cells cs.toArray t)) w.heap.size t cs:=heap_alloc_new w _
theorem Blk.newAt (w:World)(B t:Nat)(arr:Array Value)(cs:List Value)(hB:w.heap.size=B)(hc:arr=cs.toArray):Blk (w.alloc (.cells arr t)) B t cs:=by
 subst hB hc;exact heap_alloc_new w _
theorem Blk.set {w:World}{B t:Nat}{cs:List Value}(h:Blk w B t cs)(j:Nat)(u:Value):Blk (w.setCell ⟨B,j,none⟩ u) B t (cs.set j u):=by
 unfold Blk;rw[heap_setCell_same w B j _ t u h];simp
theorem Blk.row {w:World}{B t:Nat}{cs:List Value}(h:Blk w B t cs)(ds:List Value):Blk (w.setRow B ds.toArray) B t ds:=setRow_heap w B _ _ t _ h
theorem Blk.rowOther {w:World}{B t:Nat}{cs:List Value}(h:Blk w B t cs)(g:Nat)(c:Array Value)(hne:B≠g):Blk (w.setRow g c) B t cs:=by
 unfold Blk;rw[setRow_other w g B c hne];exact h
theorem bel_row {B g:Nat}{a w:World}(h:Below B a w)(hg:B≤g)(c:Array Value):Below B a (w.setRow g c):=
 h.trans ⟨rfl,rfl,rfl,by simp[World.setRow],fun k hk=>setRow_other w g k c (by omega)⟩
theorem Blk.other {w:World}{B t:Nat}{cs:List Value}(h:Blk w B t cs)(a:Addr)(u:Value)(hne:B≠a.block):Blk (w.setCell a u) B t cs:=by
 unfold Blk;rw[heap_setCell_other w a B u hne];exact h
structure KeepT (ts:List TypeId)(w w':World):Prop where
 size:w.heap.size≤w'.heap.size
 same:∀(k:Nat) (o:Obj),w.heap[k]?=some o→(∀c t fz,o=.cells c t fz→t∉ts)→w'.heap[k]?=some o
theorem KeepT.refl (ts:List TypeId)(w:World):KeepT ts w w:=⟨Nat.le_refl _,fun _ _ h _=>h⟩
theorem KeepT.trans {ts:List TypeId}{a b c:World}(h:KeepT ts a b)(k:KeepT ts b c):KeepT ts a c:=⟨Nat.le_trans h.size k.size,fun i o hi ho=>k.same i o (h.same i o hi ho) ho⟩
theorem KeepT.of_below {ts:List TypeId}{w w':World}(h:Below w.heap.size w w'):KeepT ts w w':=⟨h.4,fun k _ hk _=>(h.5 k (Array.getElem?_eq_some_iff.1 hk).1).trans hk⟩
theorem KeepT.set {ts:List TypeId}{a w:World}(h:KeepT ts a w){B t:Nat}{cs:List Value}(hb:Blk w B t cs)(ht:t∈ts)(j:Nat)(u:Value):KeepT ts a (w.setCell ⟨B,j,none⟩ u):=
 h.trans ⟨(Nat.le_of_eq (by simp[World.setCell])),fun k o hk ho=>by
  by_cases e:k=B
  ·subst e
   have:o=.cells cs.toArray t (0,0):=Option.some.inj (hk.symm.trans hb)
   exact absurd ht (ho _ _ _ this)
  ·exact(Below.heap_setCell _ _ _ _ (by exact e)).trans hk⟩
theorem KeepT.blk {ts:List TypeId}{w w':World}(h:KeepT ts w w'){B t:Nat}{cs:List Value}(hb:Blk w B t cs)(ht:t∉ts):Blk w' B t cs :=
 h.same B _ hb (fun c t' fz e=>by injection e with _ h2 _;rw[←h2];exact ht)
def isCtl:Obj→Bool
 | .loop _=>true
 | .deferred _=>true
 | _=>false
structure KeepO (us:List TypeId)(w w':World):Prop where
 size:w.heap.size≤w'.heap.size
 same:∀(k:Nat) (c:Array Value) (t:TypeId) (fz:Nat × Nat),w.heap[k]?=some (.cells c t fz)→t∈us→w'.heap[k]?=some (.cells c t fz)
 ctl:∀(k:Nat) (o:Obj),w.heap[k]?=some o→isCtl o=true→w'.heap[k]?=some o
theorem KeepO.refl (us:List TypeId)(w:World):KeepO us w w:=⟨Nat.le_refl _,fun _ _ _ _ h _=>h,fun _ _ h _=>h⟩
theorem KeepO.trans {us:List TypeId}{a b c:World}(h:KeepO us a b)(k:KeepO us b c):KeepO us a c:=⟨Nat.le_trans h.size k.size,fun i c t fz hi ht=>k.same i c t fz (h.same i c t fz hi ht) ht,fun i o hi ho=>k.ctl i o (h.ctl i o hi ho) ho⟩
theorem KeepO.less {us vs:List TypeId}{w w':World}(h:KeepO us w w')(hs:∀t∈vs,t∈us):KeepO vs w w':=⟨h.size,fun k c t fz hk ht=>h.same k c t fz hk (hs t ht),h.ctl⟩
theorem KeepO.of_below {us:List TypeId}{w w':World}(h:Below w.heap.size w w'):KeepO us w w':=⟨h.4,fun k _ _ _ hk _=>(h.5 k (Array.getElem?_eq_some_iff.1 hk).1).trans hk,fun k _ hk _=>(h.5 k (Array.getElem?_eq_some_iff.1 hk).1).trans hk⟩
theorem KeepO.ofT {ts us:List TypeId}{w w':World}(h:KeepT ts w w')(hs:∀t∈us,t∉ts):KeepO us w w' :=
 ⟨h.size,fun k c t fz hk ht=>h.same k _ hk (fun c' t' fz' e=>by injection e with _ h2 _;rw[←h2];exact hs t ht),fun k o hk ho=>h.same k o hk (fun c' t' fz' e=>by subst e;cases ho)⟩
theorem KeepO.blk {us:List TypeId}{w w':World}(h:KeepO us w w'){B t:Nat}{cs:List Value}(hb:Blk w B t cs)(ht:t∈us):Blk w' B t cs:=h.same B _ t _ hb ht
theorem own_keepO {us:List TypeId}{w w':World}(h:KeepO us w w'){e:TypeId}{base size n:Nat}{v:Value}{xs:List Value}(ho:w.ownsRow base e size v n xs)(he:e∈us):w'.ownsRow base e size v n xs:=by
 refine⟨ho.1,?_⟩
 rcases ho.2 with h2|⟨g,cap,cur,h3,h4,h5,h6⟩
 ·exact .inl h2
 ·exact .inr ⟨g,cap,cur,h3,h4,h.same g _ e _ h5 he,h6⟩
theorem own_base {w:World}{e:TypeId}{base base' size n:Nat}{v:Value}{xs:List Value}(h:w.ownsRow base e size v n xs)(hb:base'≤base):w.ownsRow base' e size v n xs:=by
 refine⟨h.1,?_⟩
 rcases h.2 with h2|⟨g,cap,cur,h3,h4,h5⟩
 ·exact .inl h2
 ·exact .inr ⟨g,cap,cur,h3,Nat.le_trans hb h4,h5⟩
structure KeepU (fl:Nat)(us:List TypeId)(w w':World):Prop where
 o:KeepO us w w'
 low:∀k,k<fl→k<w.heap.size→w'.heap[k]?=w.heap[k]?
theorem KeepU.refl (fl:Nat)(us:List TypeId)(w:World):KeepU fl us w w:=⟨KeepO.refl _ _,fun _ _ _=>rfl⟩
theorem KeepU.trans {fl:Nat}{us:List TypeId}{a b c:World}(h:KeepU fl us a b)(k:KeepU fl us b c):KeepU fl us a c:=⟨h.o.trans k.o,fun i h1 h2=>(k.low i h1 (Nat.lt_of_lt_of_le h2 h.o.size)).trans (h.low i h1 h2)⟩
theorem KeepU.less {fl:Nat}{us vs:List TypeId}{w w':World}(h:KeepU fl us w w')(hs:∀t∈vs,t∈us):KeepU fl vs w w':=⟨h.o.less hs,h.low⟩
theorem KeepU.of_below {fl:Nat}{us:List TypeId}{w w':World}(h:Below w.heap.size w w'):KeepU fl us w w':=⟨KeepO.of_below h,fun k _ hk=>h.5 k hk⟩
theorem KeepU.ofB {fl B:Nat}{us:List TypeId}{w w':World}(h:KeepO us w w')(hb:Below B w w')(hle:fl≤B):KeepU fl us w w':=⟨h,fun k hk _=>hb.5 k (Nat.lt_of_lt_of_le hk hle)⟩
theorem KeepU.zero {us:List TypeId}{w w':World}(h:KeepO us w w'):KeepU 0 us w w':=⟨h,fun k hk _=>absurd hk (Nat.not_lt_zero k)⟩
theorem ret_b {a b:Bool}(h:a=b):Ending.returned (.bool a)=.returned (.bool b):=by rw[h]
theorem ret_i {a b:Int}(h:a=b):Ending.returned (.int .i64 a)=.returned (.int .i64 b):=by rw[h]
structure Rd where
 n:Nat
 S:List Wg
 C:List Wg
 off:Bool
 armed:Bool
 left:Nat
 wr:Nat
 fl:Nat
theorem own_keep {ts:List TypeId}{w w':World}(h:KeepT ts w w'){e:TypeId}{base size n:Nat}{v:Value}{xs:List Value}(ho:w.ownsRow base e size v n xs)(he:e∉ts):w'.ownsRow base e size v n xs:=by
 refine⟨ho.1,?_⟩
 rcases ho.2 with h2|⟨g,cap,cur,h3,h4,h5,h6⟩
 ·exact .inl h2
 ·exact .inr ⟨g,cap,cur,h3,h4,h.same g _ h5 (fun c t fz e1=>by injection e1 with _ h7 _;rw[←h7];exact he),h6⟩
def inR (n:Nat)(i:Int):Bool:=decide (0≤i∧i<n)
def stE (r:Rd)(i:Int):Int:=if inR r.n i=true then 0 else 50
def rdE (r:Rd)(i:Int):Int:=if r.off=true then 51 else stE r i
def rdB (r:Rd)(i:Int):List UInt8:=if r.off=true then [] else if inR r.n i=true then readOf r.S r.C i.toNat else []
def flE (r:Rd):Int:=if r.off=true then 51 else 0
theorem takeH {P:Program}{md:Region.Mode}{ops:Array Oper}{Q:Exit→Act→World→Prop}{S:World→Prop}{i:Nat}{oi:Oper}{v:Value}{fuel:Nat}{listed:Array Bool}{a:Act}{w:World}(d:Option Tmp)(hi:ops[i]?=some oi)
  (hs:Region.noSelect ops=true) (hf:Region.free md ops listed i=true) (hr:(Region.ready md ops listed).contains i=true)
  (hQ:∀c a w,Q (.panic c) (a.put oi.dst v) w→Q (.panic c) a w) (hy:YieldsIf P ops S oi v a) (hS:S w) (hd:oi.dst=d)
  (h:wpAnyH P md ops Q S fuel (listed.setIfInBounds i true) (a.put d v) w):wpAnyH P md ops Q S (fuel+1) listed a w:=by
 subst hd;exact wpAnyH_take hi hs hf hr hQ hy hS h
theorem oneH {P:Program}{md:Region.Mode}{ops:Array Oper}{Q:Exit→Act→World→Prop}{S:World→Prop}{fuel:Nat}{listed:Array Bool}{a:Act}{w:World}(i:Nat){oi:Oper}(hi:ops[i]?=some oi)
  (hr:Region.ready md ops listed=[i]) (hw:Region.wanted oi (yielded ops a.tmps)=true)
  (h:oi.wp P a w (fun a' w'=>S w'∧wpAnyH P md ops Q S fuel (listed.setIfInBounds i true) a' w') Q):wpAnyH P md ops Q S (fuel+1) listed a w:=by
 refine wpAnyH_all hr (by simp) fun j hj=>?_
 have:j=i:=by simpa using hj
 subst this
 unfold wpOp
 simp only[hi,hw,if_true]
 exact .inl h
attribute [local go_sem ↓] Go.wp_at_zero Go.wp_at_succ
def wrE (r:Rd)(i:Int)(b:List UInt8):Int:=if r.off=true then 51 else if inR r.n i=false then 50 else if b.length≠512 then 1 else if r.armed=true∧r.left=0 then 51 else 0
end
section
open Go.RowKit
structure Pl where
 n:Nat
 st:Nat→List UInt8
 ca:List (Nat × List UInt8)
 off:Bool
 arm:Option Nat
 wr:Nat
 fl:Nat
namespace Pl
def new (n:Nat):Pl:=⟨n,fun _=>zero512,[],false,none,0,0⟩
def put (st:Nat→List UInt8)(g:Nat × List UInt8):Nat→List UInt8:=fun i=>if g.1=i then g.2 else st i
def kept:List (Nat × List UInt8)→List Bool→List (Nat × List UInt8)
 | g::l,k::ks=>if k=true then g::kept l ks else kept l ks
 | _,_=>[]
def stE (p:Pl)(i:Int):Int:=if inR p.n i=true then 0 else 50
def rdE (p:Pl)(i:Int):Int:=if p.off=true then 51 else p.stE i
def rdB (p:Pl)(i:Int):List UInt8:=if p.off=true then [] else if inR p.n i=true then p.ca.foldl put p.st i.toNat else []
def wrE (p:Pl)(i:Int)(b:List UInt8):Int:=if p.off=true then 51 else if inR p.n i=false then 50 else if b.length≠512 then 1 else if p.arm=some 0 then 51 else 0
def write (p:Pl)(i:Int)(b:List UInt8):Pl :=
 if p.off=true then p else if inR p.n i=false then p else if b.length≠512 then p else if p.arm=some 0 then { p with off:=true } else { p with arm:=p.arm.map (· - 1),wr:=p.wr+1,ca:=p.ca++[(i.toNat,b)] }
def flE (p:Pl):Int:=if p.off=true then 51 else 0
def flush (p:Pl):Pl:=if p.off=true then p else { p with st:=p.ca.foldl put p.st,ca:=[],fl:=p.fl+1 }
def armed (p:Pl)(z:Int):Pl:={ p with arm:=if 0≤z then some z.toNat else none }
end Pl
structure FewP (p:Pl):Prop where
 n:p.n≤4096
 ca:p.ca.length≤1000000
 at_:∀g∈p.ca,g.1<p.n∧g.2.length=512
 wr:p.wr≤1000000
 fl:p.fl≤1000000
attribute [local go_sem ↓] Go.wp_at_zero Go.wp_at_succ
def flag (b:Bool):Int:=if b then 1 else 0
theorem atLoadAt (B o:Nat)(f:Bool)(w:World)(h:w.cell? ⟨B,o,none⟩=some (.int .u32 (flag f))):
  Calls Tryz.prog 85 #[.pointer (some ⟨B,o,none⟩)] w fun e w'=>e=.returned (.bool f)∧w'=w:=by
 have hl:=run_call_load (P:=Tryz.prog) Tryz.func121 (by kernel_rfl) (by kernel_rfl) (by kernel_rfl) .u32 (by kernel_rfl) h
 cases f
 all_goals
  go_enter Tryz.func85,Tryz.ntmps85
  go_wp2
  go_ret
  exact⟨rfl,rfl⟩
theorem atStoreAt (B o:Nat)(b:Bool)(v:Value)(w:World)(h:w.cell? ⟨B,o,none⟩=some v)(hf:w.frozen? ⟨B,o,none⟩=false):
  Calls Tryz.prog 97 #[.pointer (some ⟨B,o,none⟩),.bool b] w fun e w'=>e=.returned (.tuple #[])∧w'=w.drew.setCell ⟨B,o,none⟩ (.int .u32 (flag b)):=by
 cases b
 ·have hs:=run_call_store (P:=Tryz.prog) Tryz.func135 (by kernel_rfl) (by kernel_rfl) (by kernel_rfl) (by kernel_rfl) (k:=.u32) (y:=0) (w:=w.drew) (a:=⟨B,o,none⟩) (u:=v) (by simpa using h) (by simpa using hf)
  go_enter Tryz.func97,Tryz.ntmps97
  go_wp2
  go_region_calls
  all_goals
   go_wp2
   go_end0
   exact⟨rfl,rfl⟩
 ·have hs:=run_call_store (P:=Tryz.prog) Tryz.func135 (by kernel_rfl) (by kernel_rfl) (by kernel_rfl) (by kernel_rfl) (k:=.u32) (y:=1) (w:=w.drew) (a:=⟨B,o,none⟩) (u:=v) (by simpa using h) (by simpa using hf)
  go_enter Tryz.func97,Tryz.ntmps97
  go_wp2
  go_region_calls
  all_goals
   go_wp2
   go_end0
   exact⟨rfl,rfl⟩
theorem at64Add (B o n:Nat)(w:World)(h:w.cell? ⟨B,o,none⟩=some (.int .u64 (n:Int)))(hf:w.frozen? ⟨B,o,none⟩=false)(hn:n≤1000000000):
  Calls Tryz.prog 132 #[.pointer (some ⟨B,o,none⟩),.int .u64 1] w fun e w'=>e=.returned (.int .u64 ((n+1:Nat):Int))∧w'=w.setCell ⟨B,o,none⟩ (.int .u64 ((n+1:Nat):Int)):=by
 have hs:(Op.intArith .add .u64 (n:Int) 1).run Tryz.prog w=.ok (.int .u64 ((n+1:Nat):Int)) w:=by
  have e:IntKind.u64.wrap ((n:Int)+1)=((n+1:Nat):Int):=by
   have:=wrap64_nat (n+1) (by omega)
   rw[Int.natCast_add] at this ⊢
   exact this
  simp[Op.intArith,e]
 have hl:=run_call_add (P:=Tryz.prog) Tryz.func169 (by kernel_rfl) (by kernel_rfl) (by kernel_rfl) .u64 (by kernel_rfl) h hf hs
 generalize (n+1:Nat)=m at *
 clear hs hn
 go_enter Tryz.func132,Tryz.ntmps132
 go_wp2
 go_ret
 exact⟨rfl,rfl⟩
end
section
open Go.RowKit
def wq (g:Nat × List UInt8):List Value:=.int .i64 (g.1:Int):: bv g.2
def wqs:List (Nat × List UInt8)→List Value
 | []=>[]
 | g::l=>wq g++wqs l
def nthQ (l:List (Nat × List UInt8))(i:Nat):Nat × List UInt8:=l.getD i (0,[])
theorem nthQ_eq (l:List (Nat × List UInt8))(i:Nat)(h:i<l.length):nthQ l i=l[i]:=by
 unfold nthQ;rw[List.getD_eq_getElem?_getD,List.getElem?_eq_getElem h];rfl
theorem nthQ_mem (l:List (Nat × List UInt8))(i:Nat)(h:i<l.length):nthQ l i∈l:=by rw[nthQ_eq l i h];exact List.getElem_mem h
theorem wq_length {g:Nat × List UInt8}(h:g.2.length=512):(wq g).length=513:=by simp only[wq,List.length_cons,bv_length,h]
theorem wqs_append (l m:List (Nat × List UInt8)):wqs (l++m)=wqs l++wqs m:=by
 induction l with
 | nil=>rfl
 | cons p l ih=>rw[List.cons_append,wqs,wqs,ih,List.append_assoc]
theorem wqs_at (l:List (Nat × List UInt8))(h:∀g∈l,g.2.length=512)(i j:Nat)(hi:i<l.length)(hj:j<513):(wqs l)[i * 513+j]?=(wq (nthQ l i))[j]?:=by
 induction l generalizing i with
 | nil=>simp at hi
 | cons p l ih =>
  have hp:=wq_length (h p (by simp))
  cases i with
  | zero =>
   rw[wqs,Nat.zero_mul,Nat.zero_add,List.getElem?_append_left (by omega)]
   rfl
  | succ i =>
   rw[wqs,List.getElem?_append_right (by omega),hp,show (i+1) * 513+j-513=i * 513+j by omega]
   exact ih (fun g hg=>h g (by simp[hg])) i (by simpa using hi)
theorem wq_one (g:Nat × List UInt8):∀u∈wq g,u.oneCell'=true:=by
 intro u hu
 rcases List.mem_cons.1 hu with rfl|hu
 ·rfl
 ·exact bv_one _ u hu
def stc (n:Nat)(st:Nat→List UInt8):List Value:=(List.range (n * 512)).map fun k=>.int .u8 ((nth (st (k/512)) (k%512)).toNat:Int)
theorem stc_length (n:Nat)(st:Nat→List UInt8):(stc n st).length=n * 512:=by simp[stc]
theorem stc_at (n:Nat)(st:Nat→List UInt8)(k:Nat)(h:k<n * 512):(stc n st)[k]?=some (.int .u8 ((nth (st (k/512)) (k%512)).toNat:Int)):=by
 simp[stc,h]
def putL:List Value→Nat→List Value→List Value
 | cs,_,[]=>cs
 | cs,o,v::vs=>putL (cs.set o v) (o+1) vs
theorem putL_at (vs cs:List Value)(o k:Nat)(h:o+vs.length≤cs.length):(putL cs o vs)[k]?=if o≤k∧k<o+vs.length then vs[k-o]? else cs[k]?:=by
 induction vs generalizing cs o with
 | nil=>rw[putL,if_neg (by simp<;>omega)]
 | cons v vs ih =>
  rw[List.length_cons] at h
  rw[putL,ih _ _ (by rw[List.length_set];omega),List.length_cons]
  by_cases h1:o+1≤k∧k<o+1+vs.length
  ·rw[if_pos h1,if_pos (by omega),show k-o=(k-(o+1))+1 by omega,List.getElem?_cons_succ]
  ·rw[if_neg h1]
   by_cases h2:k=o
   ·subst h2
    rw[if_pos (by omega),Nat.sub_self,List.getElem?_cons_zero,List.getElem?_set_self (by omega)]
   ·rw[if_neg (by omega),List.getElem?_set_ne (by omega)]
theorem Blk.setCells9 {B t:Nat}(vs:List Value):∀ {w:World} {cs:List Value} (o:Nat),Blk w B t cs→Blk (w.setCells B o vs) B t (putL cs o vs):=by
 induction vs with
 | nil=>intro w cs o h;exact h
 | cons v vs ih=>intro w cs o h;exact ih (o+1) (h.set o v)
theorem gr_setCells (B:Nat)(vs:List Value):∀(w:World) (o:Nat),w.grownBy (w.setCells B o vs) (some B):=by
 induction vs with
 | nil=>intro w o;exact⟨rfl,rfl,rfl,Nat.le_refl _,fun _ _ _=>rfl⟩
 | cons v vs ih =>
  intro w o
  have h1:w.grownBy (w.setCell ⟨B,o,none⟩ v) (some B):=⟨rfl,rfl,rfl,by simp[World.setCell],fun k _ hk=>Below.heap_setCell _ _ _ _ (fun e=>hk (by rw[e]))⟩
  exact h1.trans (ih (w.setCell ⟨B,o,none⟩ v) (o+1))
theorem putL_stc (n:Nat)(st:Nat→List UInt8)(i:Nat)(b:List UInt8)(hi:i<n)(hb:b.length=512):putL (stc n st) (i * 512) (bv b)=stc n (Pl.put st (i,b)):=by
 apply List.ext_getElem?
 intro k
 have hfit:i * 512+(bv b).length≤(stc n st).length:=by
  rw[bv_length,hb,stc_length]
  have:(i+1) * 512≤n * 512:=Nat.mul_le_mul_right _ hi
  omega
 rw[putL_at _ _ _ _ hfit,bv_length,hb]
 by_cases hk:k<n * 512
 ·rw[stc_at _ _ k hk,stc_at _ _ k hk]
  by_cases h1:i * 512≤k∧k<i * 512+512
  ·have e1:k/512=i:=by omega
   have e2:k-i * 512=k%512:=by omega
   rw[if_pos h1,e1,e2,bv_at _ _ (by rw[hb];omega)]
   simp[Pl.put]
  ·have e1:¬i=k/512:=by omega
   rw[if_neg h1]
   simp[Pl.put,e1]
 ·have h2:¬(i * 512≤k∧k<i * 512+512):=by
   have:(i+1) * 512≤n * 512:=Nat.mul_le_mul_right _ hi
   omega
  have h3:∀s2,(stc n s2)[k]?=none:=fun s2=>List.getElem?_eq_none (by rw[stc_length];exact Nat.le_of_not_lt hk)
  rw[if_neg h2,h3,h3]
theorem div512 (i j:Nat)(h:j<512):(i * 512+j)/512=i:=by omega
theorem mod512 (i j:Nat)(h:j<512):(i * 512+j)%512=j:=by omega
theorem Blk.sector {w:World}{S t n:Nat}{st:Nat→List UInt8}(h:Blk w S t (stc n st))(i:Nat)(hi:i<n)(hl:(st i).length=512):w.rangeAt S (i * 512) (bv (st i)):=by
 intro j v hv
 have hj:j<512:=by
  have:=(List.getElem?_eq_some_iff.1 hv).1
  rwa [bv_length,hl] at this
 have hk:i * 512+j<n * 512:=by
  have:(i+1) * 512≤n * 512:=Nat.mul_le_mul_right _ hi
  omega
 rw[h.cell,stc_at _ _ _ hk,←hv,div512 i j hj,mod512 i j hj,bv_at _ _ (by rw[hl];exact hj)]
theorem Blk.there9 {w:World}{B t:Nat}{cs:List Value}(h:Blk w B t cs)(o m:Nat)(hm:o+m≤cs.length):w.there B o m:=fun j hj =>
 ⟨by rw[h.cell,List.getElem?_eq_getElem (by omega)];rfl,h.frozen _⟩
def OwnC (w:World)(base:Nat)(v:Value)(l:List (Nat × List UInt8)):Prop:=w.ownsRow base 200 513 v l.length (wqs l)
theorem OwnC.nil (w:World)(base:Nat):OwnC w base (.slice none 0 0) []:=World.ownsRow_nil _ _ _ _
theorem OwnC.form {w:World}{base:Nat}{v:Value}{l:List (Nat × List UInt8)}(h:OwnC w base v l)(h5:∀g∈l,g.2.length=512):∃a cap,v=.slice a l.length cap∧l.length≤cap∧cap≤maxLen∧(a=none→cap=0) ∧
  (0<l.length→∃g,a=some ⟨g,0,none⟩∧base≤g∧g<w.heap.size∧∀i,i<l.length→w.rangeAt g (i * 513) (wq (nthQ l i))):=by
 obtain⟨h1,h2⟩:=h
 rcases h2 with⟨rfl,h0⟩|⟨g,cap,cur,rfl,hb,hg,hle,hmax,hsz,htk⟩
 ·have:l=[]:=List.eq_nil_of_length_eq_zero h0
  subst this
  exact⟨none,0,rfl,Nat.le_refl _,Nat.zero_le _,fun _=>rfl,fun h=>absurd h (Nat.lt_irrefl 0)⟩
 ·refine⟨_,cap,rfl,hle,hmax,fun e=>(by cases e),fun hp=>⟨g,rfl,hb,(Array.getElem?_eq_some_iff.1 hg).1,fun i hi j u hu=>?_⟩⟩
  have hown:w.ownsRow base 200 513 (.slice (some ⟨g,0,none⟩) l.length cap) l.length (wqs l):=⟨h1,.inr ⟨g,cap,cur,rfl,hb,hg,hle,hmax,hsz,htk⟩⟩
  have hj:j<513:=by
   have:=(List.getElem?_eq_some_iff.1 hu).1
   rwa [wq_length (h5 _ (nthQ_mem l i hi))] at this
  have hk:i * 513+j<l.length * 513:=by
   have:(i+1) * 513≤l.length * 513:=Nat.mul_le_mul_right _ hi
   omega
  rw[World.ownsRow.cellAt hown _ hk,wqs_at l h5 i j hi hj,hu]
def pdc (S:Nat)(vC:Value)(arm:Int)(p:Pl):List Value:=[.slice (some ⟨S,0,none⟩) p.n p.n,vC,.int .i64 arm,.int .u32 (flag p.off),.int .u64 (p.wr:Int),.int .u64 (p.fl:Int)]
def armOf (arm:Int):Option Nat:=if 0≤arm then some arm.toNat else none
structure IsPd (X:Nat→Prop)(w:World)(P base S:Nat)(vC:Value)(arm:Int)(p:Pl):Prop where
 blk:Blk w P 109 (pdc S vC arm p)
 low:base≤P
 st:Blk w S 159 (stc p.n p.st)
 lowS:base≤S
 len:∀i,i<p.n→(p.st i).length=512
 ca:OwnC w base vC p.ca
 armd:p.arm=armOf arm
 lo : -9223372036854775808≤arm
 hi:arm≤9223372036854775807
 pos:0<p.n
 xP:¬X P
 xS:¬X S
 xC:∀k,vC.ownBlock=some k→¬X k
 xlt:∀k,X k→k<w.heap.size
def IsD (X:Nat→Prop)(w:World)(P base:Nat)(p:Pl):Prop:=∃S vC arm,IsPd X w P base S vC arm p
theorem blk_ne {w:World}{B B' t t':Nat}{cs cs':List Value}(h:Blk w B t cs)(h':Blk w B' t' cs')(ht:t≠t'):B≠B':=fun e=>by
 subst e
 have:=Option.some.inj (h.symm.trans h')
 injection this with _ e2 _
 exact ht e2
theorem own_ne {w:World}{B t:Nat}{cs:List Value}(h:Blk w B t cs){e:TypeId}{base size n:Nat}{v:Value}{xs:List Value}(ho:w.ownsRow base e size v n xs)(ht:t≠e):v.ownBlock=none∨v.ownBlock≠some B:=by
 rcases ho.2 with⟨rfl,_⟩|⟨g,cap,cur,rfl,_,hg,_⟩
 ·exact .inl rfl
 ·refine .inr fun e2=>?_
  have e3:g=B:=by simpa [Value.ownBlock] using e2
  subst e3
  have:=Option.some.inj (h.symm.trans hg)
  injection this with _ e4 _
  exact ht e4
theorem IsPd.keep {X:Nat→Prop}{w w':World}{P base S:Nat}{vC:Value}{arm:Int}{p:Pl}(h:IsPd X w P base S vC arm p){ts:List TypeId}(hk:KeepT ts w w')(h1:109∉ts)(h2:159∉ts)(h3:200∉ts):IsPd X w' P base S vC arm p :=
 {h with blk:=hk.blk h.blk h1,st:=hk.blk h.st h2,ca:=own_keep hk h.ca h3,xlt:=fun k hx=>Nat.lt_of_lt_of_le (h.xlt k hx) hk.size }
theorem IsPd.on {X:Nat→Prop}{w w':World}{P base S:Nat}{vC:Value}{arm:Int}{p:Pl}(h:IsPd X w P base S vC arm p)(hb:Below w.heap.size w w'):IsPd X w' P base S vC arm p:=h.keep (ts:=[]) (KeepT.of_below hb) (by simp) (by simp) (by simp)
theorem IsPd.more {X:Nat→Prop}{w:World}{P base S:Nat}{vC:Value}{arm:Int}{p:Pl}(h:IsPd X w P base S vC arm p)(Y:Nat→Prop)(hP:¬Y P)(hS:¬Y S)(hC:∀k,vC.ownBlock=some k→¬Y k)(hl:∀k,Y k→k<w.heap.size):IsPd Y w P base S vC arm p :=
 {h with xP:=hP,xS:=hS,xC:=hC,xlt:=hl }
theorem IsPd.turn {X:Nat→Prop}{w w':World}{P base S:Nat}{vC:Value}{arm:Int}{p:Pl}(h:IsPd X w P base S vC arm p)(hg:w.grownBy w' (some P)){vC':Value}{arm':Int}{p':Pl}(hb:Blk w' P 109 (pdc S vC' arm' p'))(hn:p'.n=p.n)(hst:p'.st=p.st)
  (hca:OwnC w base vC' p'.ca) (hx:∀k,vC'.ownBlock=some k→¬X k) (ha:p'.arm=armOf arm') (hlo : -9223372036854775808≤arm') (hhi:arm'≤9223372036854775807):IsPd X w' P base S vC' arm' p' :=
 {blk:=hb,low:=h.low,st:=by rw[hn,hst];exact(hg.block S h.st.lt (fun e=>blk_ne h.blk h.st (by decide) (Option.some.inj e).symm)).trans h.st,lowS:=h.lowS,len:=by rw[hn,hst];exact h.len
  ca:=World.ownsRow.kept hca hg (own_ne h.blk hca (by decide)),armd:=ha,lo:=hlo,hi:=hhi,pos:=by rw[hn];exact h.pos,xP:=h.xP,xS:=h.xS,xC:=hx,xlt:=fun k hk=>Nat.lt_of_lt_of_le (h.xlt k hk) hg.size }
theorem IsPd.settle {X:Nat→Prop}{w:World}{P base S:Nat}{vC:Value}{arm:Int}{p:Pl}(h:IsPd X w P base S vC arm p)(g:Nat × List UInt8)(hi:g.1<p.n)(hb:g.2.length=512):IsPd X (w.setCells S (g.1 * 512) (bv g.2)) P base S vC arm { p with st:=Pl.put p.st g } :=
 {h with
  blk:=((gr_setCells S _ w _).block P h.blk.lt (fun e=>blk_ne h.blk h.st (by decide) (Option.some.inj e))).trans h.blk
  st:=by have:=h.st.setCells9 (bv g.2) (g.1 * 512);rw[putL_stc p.n p.st g.1 g.2 hi hb] at this;exact this
  len:=fun i hn=>by
   show (Pl.put p.st g i).length=512
   unfold Pl.put
   split
   ·exact hb
   ·exact h.len i hn
  ca:=World.ownsRow.kept h.ca (gr_setCells S _ w _) (own_ne h.st h.ca (by decide))
  xlt:=fun k hk=>Nat.lt_of_lt_of_le (h.xlt k hk) (gr_setCells S _ w _).size }
structure KeepB (X:Nat→Prop)(w w':World):Prop where
 size:w.heap.size≤w'.heap.size
 x:∀k,X k→k<w.heap.size→w'.heap[k]?=w.heap[k]?
theorem KeepB.of_below {X:Nat→Prop}{w w':World}(h:Below w.heap.size w w'):KeepB X w w':=⟨h.size,fun k _ hk=>h.5 k hk⟩
theorem KeepB.refl (X:Nat→Prop)(w:World):KeepB X w w:=KeepB.of_below (Below.refl _ w)
theorem KeepB.trans {X:Nat→Prop}{a b c:World}(h:KeepB X a b)(k:KeepB X b c):KeepB X a c:=⟨Nat.le_trans h.size k.size,fun i hi hl=>(k.x i hi (Nat.lt_of_lt_of_le hl h.size)).trans (h.x i hi hl)⟩
theorem KeepB.less {X Y:Nat→Prop}{w w':World}(h:KeepB X w w')(hy:∀k,Y k→X k):KeepB Y w w':=⟨h.size,fun k hk=>h.x k (hy k hk)⟩
theorem KeepB.one {X:Nat→Prop}{w w':World}{B:Nat}(hg:w.grownBy w' (some B))(hx:¬X B):KeepB X w w' :=
 ⟨hg.size,fun k hk hl=>hg.block k hl (fun e=>hx ((Option.some.inj e)▸hk))⟩
theorem KeepB.none {X:Nat→Prop}{w w':World}(hg:w.grownBy w' none):KeepB X w w':=⟨hg.size,fun k _ hl=>hg.block k hl (by simp)⟩
theorem bel_one {w w':World}{B base:Nat}(hg:w.grownBy w' (some B))(hb:base≤B)(hl:B<w.heap.size):Below base w w' :=
 (Below.refl _ w).grown hg (by omega) (fun k e=>by have:=Option.some.inj e;omega)
attribute [local go_sem ↓] Go.wp_at_zero Go.wp_at_succ
def beAt (n size j:Nat):UInt8:=UInt8.ofNat (n/2 ^ (8 * (size-1-j)))
def beL (n size k:Nat):List UInt8:=(List.range k).map (beAt n size)
theorem beL_length (n size k:Nat):(beL n size k).length=k:=by simp[beL]
theorem beL_succ (n size k:Nat):beL n size (k+1)=beL n size k++[beAt n size k]:=by
 unfold beL;rw[List.range_succ,List.map_append];rfl
theorem beAt_val (n size j:Nat):(n:Int)/2 ^ (8 * (size-1-j))%256=((beAt n size j).toNat:Int):=by
 unfold beAt
 rw[UInt8.toNat_ofNat',Int.natCast_emod,Int.natCast_ediv,Int.natCast_pow];rfl
def behL (l:List UInt8)(mark:UInt8)(n size k:Nat):List UInt8:=l++mark::beL n size k
theorem behL_length (l:List UInt8)(mark:UInt8)(n size k:Nat):(behL l mark n size k).length=l.length+1+k:=by simp[behL,beL_length];omega
theorem behL_succ (l:List UInt8)(mark:UInt8)(n size k:Nat):behL l mark n size (k+1)=behL l mark n size k++[beAt n size k]:=by
 simp[behL,beL_succ]
theorem canBehind (a:Option Addr)(len cap:Nat)(l:List UInt8)(mark:UInt8)(n size more:Nat)(w:World)(h:IsB w a len cap l)(hs:size≤8)(hl:len≤140737488351232)(hm:more≤140737488351232):
  Calls Tryz.prog 164 #[.slice a len cap,.int .u8 (mark.toNat:Int),.int .u64 (n:Int),.int .i64 (size:Int),.int .i64 (more:Int)] w fun e w'=>∃v,e=.returned v∧OwnB w' w.heap.size v (behL l mark n size size)∧Below w.heap.size w w':=by
 have H:Hid (IsB w a len cap l):=h
 have HE:Hid (l.length=len):=h.len_eq
 have hle:=h.le
 have hmx:=h.max
 unfold maxLen at hmx
 clear h
 go_enter Tryz.func164,Tryz.ntmps164
 go_wp2_with (first
  | (at_make;refine make_own8 _ rfl _ _ rfl w.heap.size .i64 .i64 _ (len+1+size+more) rfl rfl (by omega) (by omega) (Nat.le_refl _) ?_;intro w1 hown1 hgrow1)
  | (at_builtin;refine list_appS _ rfl (.tmp 21) (.tmp 22) rfl w.heap.size _ [] rfl hown1 a len cap l rfl (H.out.below ((Below.refl _ _).grown hgrow1 (Nat.le_refl _) (fun k h=>by cases h)) rfl) (by simp;omega) (by have:=hgrow1.size;omega) ?_;intro v2 w2 hown2 hgrow2)
  | (at_builtin;refine list_app8 _ rfl (.tmp 24) (.tmp 26) rfl w.heap.size v2 ([]++l) rfl (hown2.alloc _) w2.heap.size 1 1 [mark] rfl rfl (heap_alloc_new w2 _) (by omega) (by have:=HE.out;simp;omega) (by have:=hgrow1.size;have:=hgrow2.size;simp;omega) _ rfl ?_;intro g3 cap3 w3 hown3 hgrow3 hat3 hlt3))
 have hbel1:Below w.heap.size w w1:=(Below.refl _ _).grown hgrow1 (Nat.le_refl _) (fun k h=>by cases h)
 have hbel2:Below w.heap.size w w2:=hbel1.grown hgrow2 hbel1.size (fun k hk=>(hown1.blk k hk).1)
 have hbel3:Below w.heap.size w w3:=(hbel2.alloc hbel2.size _).grown hgrow3 (by have:=hbel2.size;simp;omega) (fun k hk=>(hown2.blk k hk).1)
 have hown0:OwnB w3 w.heap.size (.slice (some ⟨g3,0,none⟩) (([]++l).length+1) cap3) (behL l mark n size 0):=hown3
 clear hown1 hgrow1 hown2 hgrow2 hown3 hgrow3 hbel1 hbel2 hat3 hlt3
 go_loopw [11,12] (fun v i wr=>∃j:Nat,j≤size∧i=.int .i64 (8 * ((size:Int)-1-(j:Int)))∧OwnB wr w.heap.size v (behL l mark n size j)∧Below w.heap.size w wr) (fun _ i _=>(intOf i+8).toNat)
 case atStart=>exact⟨0,Nat.zero_le _,by go_num,hown0,hbel3⟩
 case round =>
  clear hown0 hbel3
  obtain⟨j,hj,rfl,hown,hbel⟩:=hrel
  have HL4:Hid ((behL l mark n size j).length=len+1+j):=by unfold Hid;rw[behL_length,HE.out]
  by_cases hlt:j<size
  ·obtain⟨t,ht⟩:∃t:Nat,(size:Int)-1-(j:Int)=(t:Int):=⟨size-1-j,by omega⟩
   have HT:Hid ((size:Int)-1-(j:Int)=(t:Int)):=ht
   have ht8:t<8:=by omega
   have htj:size-1-j=t:=by omega
   have HV:Hid ((n:Int)/2 ^ (8 * t)%256=((beAt n size j).toNat:Int)):=by
    have:=beAt_val n size j
    unfold Hid;rw[←this,htj]
   have HVw:IntKind.u8.wrap ((n:Int)/2 ^ (8 * t))=((beAt n size j).toNat:Int):=by rw[wrap8_mod];exact HV.out
   have HO:Hid (behL l mark n size (j+1)=behL l mark n size j++[beAt n size j]):=behL_succ l mark n size j
   have HB:=hown.blk
   clear htj
   rw[ht]
   clear ht
   have h8:(8 * (t:Int)).toNat=8 * t:=by omega
   go_wp2_with (at_builtin;refine list_app8 _ rfl (.tmp 35) (.tmp 40) rfl w.heap.size _ (behL l mark n size j) rfl (hown.alloc _) wr.heap.size 1 1 [beAt n size j] rfl rfl (heap_alloc_new wr _) (by omega) (by rw[HL4.out];omega) (by have:=hbel.size;simp;omega) _ rfl ?_;intro g4 cap4 w4 hown4 hgrow4 hat4 hlt4)
   go_roundw
   case rel=>exact⟨j+1,by omega,by have:=HT.out;go_num,by rw[HO.out];exact hown4,(hbel.alloc hbel.size _).grown hgrow4 (by have:=hbel.size;simp;omega) (fun q hq=>(HB q hq).1)⟩
   case measure=>simp[intOf];omega
  ·have e:j=size:=by omega
   have hge:¬((0:Int)≤8 * ((size:Int)-1-(j:Int))):=by omega
   have HO:Hid (OwnB wr w.heap.size u11 (behL l mark n size size)):=by
    have:=hown
    rw[e] at this;exact this
   clear hown e
   go_wp2
   go_ret
   exact⟨_,rfl,HO.out,hbel⟩
end
section
open Go.RowKit
attribute [local go_sem ↓] Go.wp_at_zero Go.wp_at_succ
def uintL (l:List UInt8)(n:Nat):List UInt8:=behL l 117 n 8 8
def bytesL (l b:List UInt8):List UInt8:=behL l 98 b.length 4 4++b
def textL (l b:List UInt8):List UInt8:=behL l 115 b.length 4 4++b
def listL (l:List UInt8)(n:Int):List UInt8:=behL l 108 (if n<0∨2147483647<n then 0 else n.toNat) 4 4
theorem canUint (a:Option Addr)(len cap:Nat)(l:List UInt8)(n:Nat)(w:World)(h:IsB w a len cap l)(hl:len≤140737488351232):
  Calls Tryz.prog 125 #[.slice a len cap,.int .u64 (n:Int)] w fun e w'=>∃v,e=.returned v∧OwnB w' w.heap.size v (uintL l n)∧Below w.heap.size w w':=by
 have H:Hid (IsB w a len cap l):=h
 clear h
 go_enter Tryz.func125,Tryz.ntmps125
 go_wp2_with fail
 refine(canBehind a len cap l 117 n 8 0 w H.out (by omega) hl (by omega)).mono ?_
 rintro e w1 ⟨v,rfl,ho,hb⟩
 go_wp2_with fail
 go_ret
 exact⟨_,rfl,ho,hb⟩
theorem canList (a:Option Addr)(len cap:Nat)(l:List UInt8)(n:Int)(w:World)(h:IsB w a len cap l)(hl:len≤140737488351232):
  Calls Tryz.prog 127 #[.slice a len cap,.int .i64 n] w fun e w'=>∃v,e=.returned v∧OwnB w' w.heap.size v (listL l n)∧Below w.heap.size w w':=by
 have H:Hid (IsB w a len cap l):=h
 clear h
 by_cases h0:n<0
 ·go_enter Tryz.func127,Tryz.ntmps127
  go_wp2_with fail
  refine(canBehind a len cap l 108 0 4 0 w H.out (by omega) hl (by omega)).mono ?_
  rintro e w1 ⟨v,rfl,ho,hb⟩
  have e1:listL l n=behL l 108 0 4 4:=by unfold listL;rw[if_pos (.inl h0)]
  have HO:Hid (OwnB w1 w.heap.size v (listL l n)):=by rw[e1];exact ho
  clear ho e1
  go_wp2_with fail
  go_ret
  exact⟨_,rfl,HO.out,hb⟩
 ·by_cases h1:2147483647<n
  ·go_enter Tryz.func127,Tryz.ntmps127
   go_wp2_with fail
   refine(canBehind a len cap l 108 0 4 0 w H.out (by omega) hl (by omega)).mono ?_
   rintro e w1 ⟨v,rfl,ho,hb⟩
   have e1:listL l n=behL l 108 0 4 4:=by unfold listL;rw[if_pos (.inr h1)]
   have HO:Hid (OwnB w1 w.heap.size v (listL l n)):=by rw[e1];exact ho
   clear ho e1
   go_wp2_with fail
   go_ret
   exact⟨_,rfl,HO.out,hb⟩
  ·obtain⟨m,rfl⟩:∃m:Nat,n=(m:Int):=⟨n.toNat,by omega⟩
   have hm:(m:Int)≤2147483647:=by omega
   go_enter Tryz.func127,Tryz.ntmps127
   go_wp2_with fail
   refine(canBehind a len cap l 108 m 4 0 w H.out (by omega) hl (by omega)).mono ?_
   rintro e w1 ⟨v,rfl,ho,hb⟩
   have e1:listL l (m:Int)=behL l 108 m 4 4:=by unfold listL;rw[if_neg (by omega)];rfl
   have HO:Hid (OwnB w1 w.heap.size v (listL l (m:Int))):=by rw[e1];exact ho
   clear ho e1
   go_wp2_with fail
   go_ret
   exact⟨_,rfl,HO.out,hb⟩
theorem canBytes (a:Option Addr)(len cap:Nat)(l:List UInt8)(a1:Option Addr)(len1 cap1:Nat)(b:List UInt8)(w:World)(h:IsB w a len cap l)(h1:IsB w a1 len1 cap1 b)(hl:len≤1099511627776)(hl1:len1≤1099511627776):
  Calls Tryz.prog 130 #[.slice a len cap,.slice a1 len1 cap1] w fun e w'=>∃v,e=.returned v∧OwnB w' w.heap.size v (bytesL l b)∧Below w.heap.size w w':=by
 have H:Hid (IsB w a len cap l):=h
 have H1:Hid (IsB w a1 len1 cap1 b):=h1
 have HE:Hid (l.length=len):=h.len_eq
 have HE1:Hid (b.length=len1):=h1.len_eq
 clear h h1
 go_enter Tryz.func130,Tryz.ntmps130
 go_wp2_with fail
 refine(canBehind a len cap l 98 len1 4 len1 w H.out (by omega) (by omega) (by omega)).mono ?_
 rintro e w1 ⟨v,rfl,ho,hb⟩
 go_wp2_with (at_builtin;refine list_appS _ rfl (.tmp 11) (.tmp 12) rfl w.heap.size v (behL l 98 len1 4 4) rfl ho a1 len1 cap1 b rfl (H1.out.below hb rfl) (by rw[behL_length,HE.out];omega) hb.size ?_;intro v2 w2 ho2 hg2)
 go_ret
 refine⟨_,rfl,?_,grow_bel hb ho hg2⟩
 unfold bytesL;rw[HE1.out];exact ho2
theorem canText (a:Option Addr)(len cap:Nat)(l:List UInt8)(s:ByteArray)(w:World)(h:IsB w a len cap l)(hl:len≤1099511627776)(hl1:s.size≤1099511627776):
  Calls Tryz.prog 126 #[.slice a len cap,.string s] w fun e w'=>∃v,e=.returned v∧OwnB w' w.heap.size v (textL l (sL s))∧Below w.heap.size w w':=by
 have H:Hid (IsB w a len cap l):=h
 have HE:Hid (l.length=len):=h.len_eq
 have HE1:Hid ((sL s).length=s.size):=sL_length s
 clear h
 go_enter Tryz.func126,Tryz.ntmps126
 go_wp2_with fail
 refine(canBehind a len cap l 115 s.size 4 s.size w H.out (by omega) (by omega) (by omega)).mono ?_
 rintro e w1 ⟨v,rfl,ho,hb⟩
 go_wp2_with (at_builtin;refine list_appT _ rfl (.tmp 11) (.tmp 12) rfl w.heap.size v (behL l 115 s.size 4 4) rfl ho s rfl (by rw[behL_length,HE.out];omega) hb.size ?_;intro v2 w2 ho2 hg2)
 go_ret
 refine⟨_,rfl,?_,grow_bel hb ho hg2⟩
 unfold textL;rw[HE1.out];exact ho2
end
section
open Go.RowKit
attribute [local go_sem ↓] Go.wp_at_zero Go.wp_at_succ
def rcell (a:Option Addr)(len cap:Nat)(br:Bool):List Value:=[.slice a len cap,.int .u32 (flag br)]
theorem atLoad (B:Nat)(f:Bool)(w:World)(h:w.cell? ⟨B,1,none⟩=some (.int .u32 (flag f))):
  Calls Tryz.prog 85 #[.pointer (some ⟨B,1,none⟩)] w fun e w'=>e=.returned (.bool f)∧w'=w:=atLoadAt B 1 f w h
theorem atStore (B:Nat)(v:Value)(w:World)(h:w.cell? ⟨B,1,none⟩=some v)(hf:w.frozen? ⟨B,1,none⟩=false):
  Calls Tryz.prog 97 #[.pointer (some ⟨B,1,none⟩),.bool true] w fun e w'=>e=.returned (.tuple #[])∧w'=w.drew.setCell ⟨B,1,none⟩ (.int .u32 1):=atStoreAt B 1 true v w h hf
def IsR (w:World)(B:Nat)(l:List UInt8)(br:Bool):Prop :=
 ∃a cap,Blk w B 188 (rcell a l.length cap br)∧IsB w a l.length cap l∧∀x,a=some x→x.block<B
theorem gr_set (w:World)(B j:Nat)(v:Value):w.grownBy (w.setCell ⟨B,j,none⟩ v) (some B):=
 ⟨rfl,rfl,rfl,by simp[World.setCell],fun k _ hk=>Below.heap_setCell _ _ _ _ (fun e=>hk (by rw[e]))⟩
theorem gr_trans {w w1 w2:World}{o:Option Nat}(h:w.grownBy w1 o)(h1:w1.grownBy w2 o):w.grownBy w2 o:=h.trans h1
def markOf (l:List UInt8)(br:Bool):UInt8:=if br then 0 else nth l 0
theorem cmark (B:Nat)(l:List UInt8)(br:Bool)(w:World)(h:IsR w B l br):
  Calls Tryz.prog 163 #[.pointer (some ⟨B,0,none⟩)] w fun e w'=>e=.returned (.int .u8 ((markOf l br).toNat:Int))∧w'=w:=by
 obtain⟨a,cap,hb,hi,hne⟩:=h
 have c0:=hb.cell 0
 have c1:=hb.cell 1
 have HI:Hid (IsB w a l.length cap l):=hi
 clear hb hi hne
 simp only[rcell,gZ0,gZ1] at c0 c1
 generalize hn:l.length=n at *
 have HN:Hid (l.length=n):=hn
 clear hn
 cases br
 ·by_cases h0:n=0
  ·have hz:markOf l false=0:=by
    have:l=[]:=List.eq_nil_of_length_eq_zero (HN.out.trans h0)
    subst this;rfl
   have h0':((n:Int)==0)=true:=by simp[h0]
   rw[hz]
   clear h0 hz
   go_enter Tryz.func163,Tryz.ntmps163
   go_wp2_with fail
   refine(atLoad B false w c1).mono ?_
   rintro e w1 ⟨rfl,rfl⟩
   go_wp2_with fail
   go_ret
   exact⟨rfl,rfl⟩
  ·have hz:markOf l false=nth l 0:=rfl
   have h0':((n:Int)==0)=false:=by simp;omega
   rw[hz]
   clear hz
   obtain⟨b,off,rfl,hc⟩:=HI.out.cells (by omega)
   have g0:=hc 0 (by omega)
   rw[Nat.add_zero] at g0
   have hpos:(0:Int)<(n:Int):=by omega
   clear hc h0
   go_enter Tryz.func163,Tryz.ntmps163
   go_wp2_with fail
   refine(atLoad B false w c1).mono ?_
   rintro e w1 ⟨rfl,rfl⟩
   go_wp2_with fail
   go_ret
   exact⟨rfl,rfl⟩
 ·have hz:markOf l true=0:=rfl
  rw[hz]
  go_enter Tryz.func163,Tryz.ntmps163
  go_wp2_with fail
  refine(atLoad B true w c1).mono ?_
  rintro e w1 ⟨rfl,rfl⟩
  go_wp2_with fail
  go_ret
  exact⟨rfl,rfl⟩
theorem isR_fail {w:World}{B:Nat}{l:List UInt8}{br:Bool}(h:IsR w B l br):IsR (w.drew.setCell ⟨B,1,none⟩ (.int .u32 1)) B l true:=by
 obtain⟨a,cap,hb,hi,hne⟩:=h
 refine⟨a,cap,Blk.set (w:=w.drew) (cs:=rcell a l.length cap br) hb 1 (.int .u32 1),⟨hi.len_eq,hi.le,hi.max,hi.nil,fun hp=>?_⟩,hne⟩
 obtain⟨b,off,e,hc⟩:=hi.cells hp
 refine⟨b,off,e,fun i hl=>?_⟩
 rw[World.cell?_setCell_other _ _ _ _ (fun e'=>Nat.ne_of_lt (hne _ e) (by injection e' with e1;exact e1.symm))]
 exact hc i hl
theorem cfail (B:Nat)(l:List UInt8)(br:Bool)(w:World)(h:IsR w B l br):
  Calls Tryz.prog 124 #[.pointer (some ⟨B,0,none⟩)] w fun e w'=>e=.returned (.tuple #[])∧IsR w' B l true∧w.grownBy w' (some B):=by
 have H:Hid (IsR w B l br):=h
 obtain⟨a,cap,hb,hi,hne⟩:=h
 have c1:=hb.cell 1
 have f1:=hb.frozen 1
 clear hb hi hne
 simp only[rcell,gZ0,gZ1] at c1
 go_enter Tryz.func124,Tryz.ntmps124
 go_wp2_with fail
 refine(atStore B _ w c1 f1).mono ?_
 rintro e w1 ⟨rfl,rfl⟩
 go_wp2_with fail
 go_end0
 exact⟨rfl,isR_fail H.out,gr_trans (gr_set w B 1 (.int .u32 1)) ⟨rfl,rfl,rfl,Nat.le_refl _,fun _ _ _=>rfl⟩⟩
end
section
open Go.RowKit
def cutA (b off cap m:Nat):Option Addr:=some (if cap=m then ⟨b,off,none⟩ else ⟨b,off+m,none⟩)
theorem slB (b off r cap m:Nat)(hm:m≤r)(w:World):(Instr.slice 33 (.slice (some ⟨b,off,none⟩) r cap) (some (.int .i64 (m:Int))) none none).run Tryz.prog w=.ok (.slice (cutA b off cap m) (r-m) (cap-m)) w:=by
 have he:Tryz.prog.elem 33=5:=by kernel_rfl
 have hz:(sizeOf 5).run Tryz.prog w=.ok 1 w:=by
  obtain⟨i0,hi,hz0,hz1,hz2⟩:=info_parts info8
  simp[sizeOf,typeInfo,hi,hz1]
 rw[run_slice_l w 33 _ r cap (by rw[he];exact Tryz.underlying33) .i64 (m:Int) (by omega) (by omega),he,hz]
 simp only[Result.andThen,sliced,Int.toNat_natCast,Nat.mul_one,Option.map_some,Addr.add_lit,cutA]
 split<;>rfl
end
end Go.Proofs.YtpecobmfabmpkaaGreatDoor
