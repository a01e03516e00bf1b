/- Results that lie in a variable. · Rows of records in a world; the document's Next. -/
import Derived.Test.YtbclhaleibjkgabB0
import Derived.Laws.ResultCell
import Derived.Laws.Rows
import Derived.Test.YtbclhaleibjkgabAu2
import Derived.Deep.MidRow
namespace Go.Proofs.Ytbclhaleibjkgab
open Go.RowKit

theorem results_cell1 {P : Program} {fn : Func} {p : Tmp} {ty : TypeId} (h : fn.results = #[.cell p ty]) (tmps : Array Value) (w : World) (g : Nat) (x : Value)
    (hp : tmps.getD p undef = .pointer (some ⟨g, 0, none⟩)) (hl : (loadVar ty ⟨g, 0, none⟩).run P w = .ok x w) : (results fn tmps).run P w = .ok x w := by
  have q1 : tmps[p]?.getD undef = .pointer (some ⟨g, 0, none⟩) := by simpa using hp
  simp only [results, h]
  simp [q1, asAddr, hl]

theorem results_cellrow {P : Program} {fn : Func} {p : Tmp} {ty : TypeId} (h : fn.results = #[.cell p ty]) (tmps : Array Value) (w : World) (g : Nat) (t : TypeId) (cs : Array Value) (fr : Nat × Nat) (d : TypeDesc)
    (hp : tmps.getD p undef = .pointer (some ⟨g, 0, none⟩)) (hg : w.heap[g]? = some (.cells cs t fr))
    (hu : P.underlying ty = some d) (hd : (match d with | .struct _ | .array _ _ => true | _ => false) = true) (hi : (P.info? ty).map (·.size) = some cs.size) :
    (results fn tmps).run P w = .ok (.agg cs) w := results_cell1 h tmps w g _ hp (run_loadVar_row w g t ty cs fr d hg hu hd hi)
theorem results_cellrow_tmp {P : Program} {fn : Func} {p u : Tmp} {ty : TypeId} (h : fn.results = #[.cell p ty, .tmp u]) (tmps : Array Value) (w : World) (g : Nat) (t : TypeId) (cs : Array Value) (fr : Nat × Nat) (d : TypeDesc)
    (hp : tmps.getD p undef = .pointer (some ⟨g, 0, none⟩)) (hg : w.heap[g]? = some (.cells cs t fr))
    (hu : P.underlying ty = some d) (hd : (match d with | .struct _ | .array _ _ => true | _ => false) = true) (hi : (P.info? ty).map (·.size) = some cs.size) :
    (results fn tmps).run P w = .ok (.tuple #[.agg cs, tmps.getD u undef]) w := by
  rw [results_cell_tmp h, hp]
  simp [asAddr, Result.andThen, run_loadVar_row w g t ty cs fr d hg hu hd hi]
end Go.Proofs.Ytbclhaleibjkgab
namespace Go.Proofs.Ytbclhaleibjkgab
open Go.RowKit

abbrev Rq14 := Rc × RcA
/-- a row of records -/
structure IsRl (w : World) (a : Option Addr) (n : Nat) (l : List Rq14) : Prop where
  len : l.length = n
  cells : 0 < n → ∃ g off, a = some ⟨g, off, none⟩ ∧ ∀ (k : Nat) (x : Rq14), l[k]? = some x → w.rangeAt g (off + k * 10) (rcc x.1 x.2)
  recs : ∀ x ∈ l, IsRec w x.1 x.2
theorem range_below14 {w w' : World} {g o : Nat} {cs : List Value} (h : w.rangeAt g o cs) (hb : Below w.heap.size w w') : w'.rangeAt g o cs := fun j v hv => by rw [hb.cell (p := ⟨g, o + j, none⟩) (cell_lt (h j v hv))]; exact h j v hv
theorem IsRl.below {w w' : World} {a : Option Addr} {n : Nat} {l : List Rq14} (h : IsRl w a n l) (hb : Below w.heap.size w w') : IsRl w' a n l :=
  ⟨h.len, fun hp => by obtain ⟨g, off, e, hc⟩ := h.cells hp; exact ⟨g, off, e, fun k x hx => range_below14 (hc k x hx) hb⟩, fun x hx => (h.recs x hx).below hb⟩
theorem rcc_len14 (r : Rc) (q : RcA) : (rcc r q).length = 10 := rfl
theorem info14 (r : Rc) (q : RcA) : (Try.prog.info? 29).map (·.size) = some (rcc r q).length := by rw [rcc_len14]; kernel_rfl
theorem infoA14 (r : Rc) (q : RcA) : (Try.prog.info? 29).map (·.size) = some (rcc r q).toArray.size := by rw [show (rcc r q).toArray.size = 10 from rfl]; kernel_rfl
/-- Next -/
def nextRc (l : List Rc) (r : Rc) : Rc := match l.getLast? with
  | none => { r with seq := 1, prev := [] }
  | some x => { r with seq := (x.seq + 1) % 18446744073709551616, prev := digRc x }
theorem last14 {l : List Rq14} {x : Rq14} {n : Nat} (hn : l.length = n + 1) (hx : l[n]? = some x) : (l.map Prod.fst).getLast? = some x.1 := by
  rw [List.getLast?_eq_getElem?, List.length_map, hn, List.getElem?_map, Nat.add_sub_cancel, hx]; rfl
theorem mod14 (n : Nat) : ((n : Int) + 1) % 18446744073709551616 = (((n + 1) % 18446744073709551616 : Nat) : Int) := by omega
theorem KeepT.row14 {ts : List TypeId} {a w : World} (h : KeepT ts a w) {B t : Nat} {cs : List Value} (hb : Blk w B t cs) (ht : t ∈ ts) (c : Array Value) : KeepT ts a (w.setRow B c) :=
  h.trans ⟨(Nat.le_of_eq (by simp [World.setRow])), fun k o hk ho => by
    by_cases e : k = B
    · subst e
      have : o = .cells cs.toArray t (0, 0) := Option.some.inj (hk.symm.trans hb)
      exact absurd ht (ho _ _ _ this)
    · rw [setRow_other w B k c e]; exact hk⟩
theorem own_keepR14 {w w' : World} {base : Nat} {v : Value} {l : List UInt8} (h : OwnB w base v l) (k : KeepT [29] w w') : OwnB w' base v l := own_keepO (us := [5]) (KeepO.ofT k (by decide)) h (by decide)
theorem one14 (s c : Int) (who : ByteArray) (k : Int) (b ky : ByteArray) (v e : Int) (sa : Option Addr) (sn sc : Nat) (pa : Option Addr) (pn pc : Nat) :
    (#[.int .u64 s, .int .u64 c, .string who, .int .i64 k, .string b, .string ky, .int .u64 v, .int .i64 e, .slice sa sn sc, .slice pa pn pc] : Array Value).all (·.oneCell') = true :=
  all_oneCell_toArray (cs := [.int .u64 s, .int .u64 c, .string who, .int .i64 k, .string b, .string ky, .int .u64 v, .int .i64 e, .slice sa sn sc, .slice pa pn pc]) (by intro x hx; simp only [List.mem_cons, List.not_mem_nil, or_false] at hx; rcases hx with rfl | rfl | rfl | rfl | rfl | rfl | rfl | rfl | rfl | rfl <;> rfl)
end Go.Proofs.Ytbclhaleibjkgab
