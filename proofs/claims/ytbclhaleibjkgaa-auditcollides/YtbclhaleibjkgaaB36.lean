/- Results that lie in a variable. · Rows of records in a world; the document's Next. · What slices.Backward of records hands out. -/
import Derived.Test.YtbclhaleibjkgaaB0
import Derived.Laws.ResultCell
import Derived.Laws.Rows
import Derived.Test.YtbclhaleibjkgaaAu2
import Derived.Deep.MidRow
import Derived.Shelf.Abstract
import Derived.Shelf.RegionOpen
import Derived.WalkKit
import Derived.OwnWalkIn
import Derived.TacticsInMore
import Derived.LoopNIn
import Derived.LoopIn
import Derived.Sort.QuietIn
import Derived.Test.YtbclhaleibjkgaaRngM
namespace Go.Proofs.Ytbclhaleibjkgaa
open Go.RowKit

theorem results_cell1 {P : Program} {fn : Func} {p : Tmp} {ty : TypeId} (h : fn.results = #[.cell p ty]) (tmps : Array Value) (w : World) (g : Nat) (x : Value)
    (hp : tmps.getD p undef = .pointer (some ⟨g, 0, none⟩)) (hl : (loadVar ty ⟨g, 0, none⟩).run P w = .ok x w) : (results fn tmps).run P w = .ok x w := by
  have q1 : tmps[p]?.getD undef = .pointer (some ⟨g, 0, none⟩) := by simpa using hp
  simp only [results, h]
  simp [q1, asAddr, hl]

theorem results_cellrow {P : Program} {fn : Func} {p : Tmp} {ty : TypeId} (h : fn.results = #[.cell p ty]) (tmps : Array Value) (w : World) (g : Nat) (t : TypeId) (cs : Array Value) (fr : Nat × Nat) (d : TypeDesc)
    (hp : tmps.getD p undef = .pointer (some ⟨g, 0, none⟩)) (hg : w.heap[g]? = some (.cells cs t fr))
    (hu : P.underlying ty = some d) (hd : (match d with | .struct _ | .array _ _ => true | _ => false) = true) (hi : (P.info? ty).map (·.size) = some cs.size) :
    (results fn tmps).run P w = .ok (.agg cs) w := results_cell1 h tmps w g _ hp (run_loadVar_row w g t ty cs fr d hg hu hd hi)
theorem results_cellrow_tmp {P : Program} {fn : Func} {p u : Tmp} {ty : TypeId} (h : fn.results = #[.cell p ty, .tmp u]) (tmps : Array Value) (w : World) (g : Nat) (t : TypeId) (cs : Array Value) (fr : Nat × Nat) (d : TypeDesc)
    (hp : tmps.getD p undef = .pointer (some ⟨g, 0, none⟩)) (hg : w.heap[g]? = some (.cells cs t fr))
    (hu : P.underlying ty = some d) (hd : (match d with | .struct _ | .array _ _ => true | _ => false) = true) (hi : (P.info? ty).map (·.size) = some cs.size) :
    (results fn tmps).run P w = .ok (.tuple #[.agg cs, tmps.getD u undef]) w := by
  rw [results_cell_tmp h, hp]
  simp [asAddr, Result.andThen, run_loadVar_row w g t ty cs fr d hg hu hd hi]
end Go.Proofs.Ytbclhaleibjkgaa
namespace Go.Proofs.Ytbclhaleibjkgaa
open Go.RowKit

abbrev Rq14 := Rc × RcA
/-- a row of records -/
structure IsRl (w : World) (a : Option Addr) (n : Nat) (l : List Rq14) : Prop where
  len : l.length = n
  cells : 0 < n → ∃ g off, a = some ⟨g, off, none⟩ ∧ ∀ (k : Nat) (x : Rq14), l[k]? = some x → w.rangeAt g (off + k * 10) (rcc x.1 x.2)
  recs : ∀ x ∈ l, IsRec w x.1 x.2
theorem range_below14 {w w' : World} {g o : Nat} {cs : List Value} (h : w.rangeAt g o cs) (hb : Below w.heap.size w w') : w'.rangeAt g o cs := fun j v hv => by rw [hb.cell (p := ⟨g, o + j, none⟩) (cell_lt (h j v hv))]; exact h j v hv
theorem IsRl.below {w w' : World} {a : Option Addr} {n : Nat} {l : List Rq14} (h : IsRl w a n l) (hb : Below w.heap.size w w') : IsRl w' a n l :=
  ⟨h.len, fun hp => by obtain ⟨g, off, e, hc⟩ := h.cells hp; exact ⟨g, off, e, fun k x hx => range_below14 (hc k x hx) hb⟩, fun x hx => (h.recs x hx).below hb⟩
theorem rcc_len14 (r : Rc) (q : RcA) : (rcc r q).length = 10 := rfl
theorem info14 (r : Rc) (q : RcA) : (Try.prog.info? 26).map (·.size) = some (rcc r q).length := by rw [rcc_len14]; kernel_rfl
theorem infoA14 (r : Rc) (q : RcA) : (Try.prog.info? 26).map (·.size) = some (rcc r q).toArray.size := by rw [show (rcc r q).toArray.size = 10 from rfl]; kernel_rfl
/-- Next -/
def nextRc (l : List Rc) (r : Rc) : Rc := match l.getLast? with
  | none => { r with seq := 1, prev := [] }
  | some x => { r with seq := (x.seq + 1) % 18446744073709551616, prev := digRc x }
theorem last14 {l : List Rq14} {x : Rq14} {n : Nat} (hn : l.length = n + 1) (hx : l[n]? = some x) : (l.map Prod.fst).getLast? = some x.1 := by
  rw [List.getLast?_eq_getElem?, List.length_map, hn, List.getElem?_map, Nat.add_sub_cancel, hx]; rfl
theorem mod14 (n : Nat) : ((n : Int) + 1) % 18446744073709551616 = (((n + 1) % 18446744073709551616 : Nat) : Int) := by omega
theorem KeepT.row14 {ts : List TypeId} {a w : World} (h : KeepT ts a w) {B t : Nat} {cs : List Value} (hb : Blk w B t cs) (ht : t ∈ ts) (c : Array Value) : KeepT ts a (w.setRow B c) :=
  h.trans ⟨(Nat.le_of_eq (by simp [World.setRow])), fun k o hk ho => by
    by_cases e : k = B
    · subst e
      have : o = .cells cs.toArray t (0, 0) := Option.some.inj (hk.symm.trans hb)
      exact absurd ht (ho _ _ _ this)
    · rw [setRow_other w B k c e]; exact hk⟩
theorem own_keepR14 {w w' : World} {base : Nat} {v : Value} {l : List UInt8} (h : OwnB w base v l) (k : KeepT [26] w w') : OwnB w' base v l := own_keepO (us := [5]) (KeepO.ofT k (by decide)) h (by decide)
theorem one14 (s c : Int) (who : ByteArray) (k : Int) (b ky : ByteArray) (v e : Int) (sa : Option Addr) (sn sc : Nat) (pa : Option Addr) (pn pc : Nat) :
    (#[.int .u64 s, .int .u64 c, .string who, .int .i64 k, .string b, .string ky, .int .u64 v, .int .i64 e, .slice sa sn sc, .slice pa pn pc] : Array Value).all (·.oneCell') = true :=
  all_oneCell_toArray (cs := [.int .u64 s, .int .u64 c, .string who, .int .i64 k, .string b, .string ky, .int .u64 v, .int .i64 e, .slice sa sn sc, .slice pa pn pc]) (by intro x hx; simp only [List.mem_cons, List.not_mem_nil, or_false] at hx; rcases hx with rfl | rfl | rfl | rfl | rfl | rfl | rfl | rfl | rfl | rfl <;> rfl)
end Go.Proofs.Ytbclhaleibjkgaa
namespace Go.Proofs.Ytbclhaleibjkgaa
open Go.RowKit Go.Shelf
attribute [local go_sem] Oper.semAt_some

/-- a row is loaded, in a round or by itself -/
theorem wpListIn_load_mid14 {F : Fence} {n : Nat} {P : Program} {ops : Array Oper} {rest : List Oper} {op : Oper} {a : Act} {w : World} {Q : Exit → Act → World → Prop} (hgd : op.guard = none) (ty : TypeId) (x : Operand) (ho : op.op = .load ty x)
    (b o : Nat) (hx : a.eval x = .pointer (some ⟨b, o, none⟩)) (cs : List Value) (d : TypeDesc) (hc : w.rangeAt b o cs)
    (hu : P.underlying ty = some d) (hd : d.isRow = true) (hi : (P.info? ty).map (·.size) = some cs.length)
    (h : wpListIn F n P ops Q rest (a.put op.dst (.agg cs.toArray)) w) : wpListIn F n P ops Q (op :: rest) a w := by
  refine wpListIn_plain hgd fun K hK' => ?_
  unfold Oper.wpIn
  refine ⟨by simp [Oper.about, ho], ?_⟩
  rw [Oper.semAt_plain F _ _ (by rw [ho]; intro c hc'; cases hc')]
  unfold execOp
  simp only [ho, hx, Instr.loadAt, Instr.sureAddr, Sem.run_bind, Sem.run_pure, Result.andThen_ok, run_loadVar_mid w b o ty cs d hc hu hd hi]
  exact hK' _ _ h
/-- rows of records that can be read -/
def RowsR (B off : Nat) (l : List Rq14) (W : World) : Prop := ∀ (k : Nat) (x : Rq14), l[k]? = some x → W.rangeAt B (off + k * 10) (rcc x.1 x.2)
theorem RowsR.on {B off : Nat} {l : List Rq14} {A W : World} (h : RowsR B off l A) (hb : Below A.heap.size A W) : RowsR B off l W := fun k x hx => range_below14 (h k x hx) hb
theorem range_blk14 {A W : World} {B o : Nat} {cs : List Value} (h : A.rangeAt B o cs) (hb : W.heap[B]? = A.heap[B]?) : W.rangeAt B o cs := fun j v hv => by
  have := h j v hv
  unfold World.cell? at this ⊢
  simp only [] at this ⊢
  rw [hb]; exact this
/-- the function's variable, and what its slice holds -/
def VarB (Bs : Nat) (a : Option Addr) (len cap : Nat) (B off : Nat) (l : List Rq14) (W : World) : Prop := Blk W Bs 36 [.slice a len cap] ∧ RowsR B off l W
def KpB (Bs : Nat) (a : Option Addr) (len cap : Nat) (B off : Nat) (l : List Rq14) (A W : World) : Prop := VarB Bs a len cap B off l A → VarB Bs a len cap B off l W
theorem VarB.on {Bs : Nat} {a : Option Addr} {len cap B off : Nat} {l : List Rq14} {A W : World} (h : VarB Bs a len cap B off l A) (hb : Below A.heap.size A W) : VarB Bs a len cap B off l W := ⟨h.1.on hb, h.2.on hb⟩
theorem VarB.keepO {Bs : Nat} {a : Option Addr} {len cap B off : Nat} {l : List Rq14} {A W : World} (h : VarB Bs a len cap B off l A) (h1 : W.heap[Bs]? = A.heap[Bs]?) (h2 : 0 < l.length → W.heap[B]? = A.heap[B]?) : VarB Bs a len cap B off l W := ⟨h1.trans h.1, fun k x hx => range_blk14 (h.2 k x hx) (h2 (by have := (List.getElem?_eq_some_iff.1 hx).1; omega))⟩
/-- the k-th pair: from behind -/
def enB (l : List Rq14) (k : Nat) : Array Value := match l[l.length - 1 - k]? with
  | some x => #[.int .i64 ((l.length : Int) - 1 - (k : Int)), .agg (rcc x.1 x.2).toArray]
  | none => #[.int .i64 0, .int .i64 0]
theorem enB_size (l : List Rq14) (k : Nat) : (enB l k).size = 2 := by unfold enB; split <;> rfl
theorem enB_eq {l : List Rq14} {k i : Nat} {x : Rq14} (hi : i + 1 + k = l.length) (hx : l[i]? = some x) : enB l k = #[.int .i64 (i : Int), .agg (rcc x.1 x.2).toArray] := by
  unfold enB
  rw [show l.length - 1 - k = i by omega, hx, show ((l.length : Int) - 1 - (k : Int)) = (i : Int) by omega]
set_option maxHeartbeats 1000000 in
theorem codBackward14 (n : Nat) (a : Option Addr) (len cap : Nat) (w : World) :
    CallsIn Fence.wide n Try.prog 48 #[.slice a len cap] w fun e w' => e = .returned (.func (.func 66) #[] #[.pointer (some ⟨w.heap.size, 0, none⟩)]) ∧ w' = w.alloc (.cells #[.slice a len cap] 36) := by
  refine callsIn_of_wp Try.func48 rfl trivial ?_ rfl
  simp only [Try.ntmps48, List.size_toArray, List.length_cons, List.length_nil, Nat.reduceAdd, Nat.reduceSub, Array.replicate_succ, Array.replicate_zero, List.push_toArray, List.append_toArray, List.nil_append, List.cons_append]
  gi_wp2
  go_ret
  exact ⟨rfl, rfl⟩
set_option maxRecDepth 100000 in
set_option maxHeartbeats 2000000 in
theorem seqBackward14 (n : Nat) (hn : 1 ≤ n) (Bs B off : Nat) (len cap : Nat) (l : List Rq14) (hl : l.length = len) (hlen : len ≤ 100000) :
    SeqN n Try.prog 66 #[.pointer (some ⟨Bs, 0, none⟩)] (enB l) (KpB Bs (some ⟨B, off, none⟩) len cap B off l) len (VarB Bs (some ⟨B, off, none⟩) len cap B off l) := by
  intro l0 J Jx W hV hJb hY h0
  have HJb : Hid (∀ k A B, J k A → Below A.heap.size A B → J k B) := hJb
  have HY : Hid (∀ k A, J k A → k < len → YieldAt Fence.wide (n - 1) Try.prog l0 (enB l k) A fun e C => (e = .returned (.bool true) ∧ J (k + 1) C ∧ KpB Bs (some ⟨B, off, none⟩) len cap B off l A C) ∨ (e = .returned (.bool false) ∧ Jx (k + 1) C)) := hY
  have HV : Hid (VarB Bs (some ⟨B, off, none⟩) len cap B off l W) := hV
  have HJ0 : Hid (J 0 W) := h0
  have HL := mkHid hl
  clear hJb hY hV h0 hl
  show CallsIn Fence.wide n Try.prog 66 #[.func (.yield l0) #[] #[], .pointer (some ⟨Bs, 0, none⟩)] W _
  refine callsIn_of_wp Try.func66 rfl trivial ?_ rfl
  simp only [Try.ntmps66, List.size_toArray, List.length_cons, List.length_nil, Nat.reduceAdd, Nat.reduceSub, Array.replicate_succ, Array.replicate_zero, List.push_toArray, List.append_toArray, List.nil_append, List.cons_append]
  have c0 : W.cell? ⟨Bs, 0, none⟩ = some (.slice (some ⟨B, off, none⟩) len cap) := HV.out.1.cell 0
  gi_wp2
  clear c0
  gi_loopw [3] (fun i wr => ∃ k : Nat, k ≤ len ∧ i = .int .i64 ((len : Int) - 1 - (k : Int)) ∧ Hid (VarB Bs (some ⟨B, off, none⟩) len cap B off l wr) ∧ Hid (J k wr)) (fun i _ => ((Go.RowKit.intOf i) + 1).toNat)
  case atStart => exact ⟨0, Nat.zero_le _, by simp, HV, HJ0⟩
  case round =>
    clear HV HJ0
    obtain ⟨k, hk, rfl, HV, HJ⟩ := hrel
    have c1 : wr.cell? ⟨Bs, 0, none⟩ = some (.slice (some ⟨B, off, none⟩) len cap) := HV.out.1.cell 0
    by_cases hlt : k < len
    · obtain ⟨i, hi⟩ : ∃ i : Nat, i + 1 + k = len := ⟨len - 1 - k, by omega⟩
      obtain ⟨x, hx⟩ : ∃ x, l[i]? = some x := ⟨l[i]'(by have := HL.out; omega), List.getElem?_eq_getElem _⟩
      have HX0 : Hid (∀ A, J k A → YieldAt Fence.wide (n - 1) Try.prog l0 (enB l k) A fun e C => (e = .returned (.bool true) ∧ J (k + 1) C ∧ KpB Bs (some ⟨B, off, none⟩) len cap B off l A C) ∨ (e = .returned (.bool false) ∧ Jx (k + 1) C)) := fun A hA => HY.out k A hA hlt
      rw [enB_eq (by have := HL.out; omega) hx] at HX0
      have hC := HV.out.2 i x hx
      have HI := info14 x.1 x.2
      have hii : ((len : Int) - 1 - (k : Int)) = (i : Int) := by omega
      have hge : (0 : Int) ≤ (i : Int) := by omega
      have hlt2 : (i : Int) < (len : Int) := by omega
      have HI2 : Hid ((len : Int) - 1 - ((k + 1 : Nat) : Int) = (i : Int) - 1) := by unfold Hid; omega
      have HX := HX0.out wr HJ.out
      have Hlt := mkHid hlt
      rw [hii]
      clear HX0 HY HJb HJ hi hlt hii hx
      generalize rcc x.1 x.2 = rc at *
      obtain ⟨fn, tmps, assign, body, hy, hR⟩ := HX
      gi_wp2_with (first | (refine wpListIn_load_mid14 rfl 26 _ rfl B (off + i * 10) rfl _ _ hC Try.underlying26 rfl HI ?_))
      refine hR.mono ?_
      rintro e W3 (⟨rfl, hJ3, hk3⟩ | ⟨rfl, hJx3⟩)
      · have HV3 := mkHid (hk3 HV.out)
        have HJ3 := mkHid hJ3
        clear c1 hJ3 hk3 HV hC
        gi_wp2
        go_roundw
        case rel => exact ⟨k + 1, Hlt.out, by rw [HI2.out], HV3, HJ3⟩
        case measure => simp [Go.RowKit.intOf]
      · gi_wp2
        refine bodyPost_ret (results_none rfl _ _ _) rfl ?_
        exact ⟨⟨_, rfl⟩, .inr ⟨k + 1, hJx3⟩⟩
    · have hge : ¬ (0 : Int) ≤ ((len : Int) - 1 - (k : Int)) := by omega
      have HJN : Hid (J len wr) := by
        have : k = len := by omega
        unfold Hid; rw [← this]; exact HJ.out
      clear hlt HJ HV
      gi_wp2
      go_end0
      exact ⟨⟨_, rfl⟩, .inl HJN.out⟩
set_option maxRecDepth 100000 in
set_option maxHeartbeats 2000000 in
theorem seqBackward14_0 (n : Nat) (Bs B off : Nat) (a : Option Addr) (cap : Nat) :
    SeqN n Try.prog 66 #[.pointer (some ⟨Bs, 0, none⟩)] (enB []) (KpB Bs a 0 cap B off []) 0 (VarB Bs a 0 cap B off []) := by
  intro l0 J Jx W hV hJb hY h0
  have HJ0 : Hid (J 0 W) := h0
  have c0 : W.cell? ⟨Bs, 0, none⟩ = some (.slice a 0 cap) := hV.1.cell 0
  clear hJb hY hV h0
  show CallsIn Fence.wide n Try.prog 66 #[.func (.yield l0) #[] #[], .pointer (some ⟨Bs, 0, none⟩)] W _
  refine callsIn_of_wp Try.func66 rfl trivial ?_ rfl
  simp only [Try.ntmps66, List.size_toArray, List.length_cons, List.length_nil, Nat.reduceAdd, Nat.reduceSub, Array.replicate_succ, Array.replicate_zero, List.push_toArray, List.append_toArray, List.nil_append, List.cons_append]
  gi_wp2
  clear c0
  gi_loopw [3] (fun i wr => i = .int .i64 (-1) ∧ Hid (J 0 wr)) (fun _ _ => 0)
  case atStart => exact ⟨by simp, HJ0⟩
  case round =>
    clear HJ0
    obtain ⟨rfl, HJ⟩ := hrel
    gi_wp2
    go_end0
    exact ⟨⟨_, rfl⟩, .inl HJ.out⟩
theorem seqBackwardA14 (n : Nat) (hn : 1 ≤ n) (Bs B off : Nat) (a : Option Addr) (len cap : Nat) (l : List Rq14) (hl : l.length = len) (hlen : len ≤ 100000) (ha : 0 < len → a = some ⟨B, off, none⟩) :
    SeqN n Try.prog 66 #[.pointer (some ⟨Bs, 0, none⟩)] (enB l) (KpB Bs a len cap B off l) len (VarB Bs a len cap B off l) := by
  rcases Nat.eq_zero_or_pos len with h0 | h0
  · have hl0 : l = [] := List.length_eq_zero_iff.1 (hl.trans h0)
    subst h0 hl0
    exact seqBackward14_0 n Bs B off a cap
  · obtain rfl := ha h0
    exact seqBackward14 n hn Bs B off len cap l hl hlen
end Go.Proofs.Ytbclhaleibjkgaa
