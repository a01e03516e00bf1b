/- Small facts on what is handed back. · The document's disk in a world; New, is, last. · The statements' own: a sector's bytes, the bytes of a call. · What the document's Stable, Read and Arm answer. · What the document's settle does. · What the document's Flush and Arm do. -/
import Derived.Test.YtbclhaleibjkgaaB0
import Derived.Test.YtbclhaleibjkgaaDk1
import Derived.BigQuiet
import Derived.Deep.CutBlock
import Derived.Deep.CutRange
namespace Go.Proofs.Ytbclhaleibjkgaa
open Go.RowKit

theorem ret_b {a b : Bool} (h : a = b) : Ending.returned (.bool a) = .returned (.bool b) := by rw [h]
theorem ret_i {a b : Int} (h : a = b) : Ending.returned (.int .i64 a) = .returned (.int .i64 b) := by rw [h]
theorem ret_sc {a b : List UInt8} {e f : Int} (h : a = b) (h2 : e = f) : Ending.returned (.tuple #[.string ⟨a.toArray⟩, .int .i64 e]) = .returned (.tuple #[.string ⟨b.toArray⟩, .int .i64 f]) := by rw [h, h2]
theorem ret_ss {a b c d : ByteArray} (h : a = b) (h2 : c = d) : Ending.returned (.tuple #[.string a, .string c]) = .returned (.tuple #[.string b, .string d]) := by rw [h, h2]
theorem ret_sb {a b : ByteArray} {c d : Bool} (h : a = b) (h2 : c = d) : Ending.returned (.tuple #[.string a, .bool c]) = .returned (.tuple #[.string b, .bool d]) := by rw [h, h2]
end Go.Proofs.Ytbclhaleibjkgaa
namespace Go.Proofs.Ytbclhaleibjkgaa
open Go.RowKit

/-- how the document's disk stands -/
structure Rd where
  n : Nat
  S : List Wg
  C : List Wg
  off : Bool
  armed : Bool
  left : Nat
  wr : Nat
  fl : Nat
def rdc (r : Rd) (vS vC : Value) : List Value := [.int .i64 (r.n : Int), vS, vC, .bool r.off, .bool r.armed, .int .i64 (r.left : Int), .int .u64 (r.wr : Int), .int .u64 (r.fl : Int)]
/-- the bytes of writes, each in a block of its own -/
def Bys (w : World) (base : Nat) (l : List Wg) : Prop := ∀ g ∈ l, g.b.length = 512 ∧ OwnB w base (.slice g.ad g.b.length g.cap) g.b
theorem own_keep {ts : List TypeId} {w w' : World} (h : KeepT ts w w') {e : TypeId} {base size n : Nat} {v : Value} {xs : List Value} (ho : w.ownsRow base e size v n xs) (he : e ∉ ts) : w'.ownsRow base e size v n xs := by
  refine ⟨ho.1, ?_⟩
  rcases ho.2 with h2 | ⟨g, cap, cur, h3, h4, h5, h6⟩
  · exact .inl h2
  · exact .inr ⟨g, cap, cur, h3, h4, h.same g _ h5 (fun c t fz e1 => by injection e1 with _ h7 _; rw [← h7]; exact he), h6⟩
theorem Bys.keep {ts : List TypeId} {w w' : World} (h : KeepT ts w w') {base : Nat} {l : List Wg} (hb : Bys w base l) (he : 5 ∉ ts) : Bys w' base l := fun g hg => ⟨(hb g hg).1, own_keep h (hb g hg).2 he⟩
theorem Bys.mem {w : World} {base : Nat} {l m : List Wg} (hb : Bys w base l) (h : ∀ g ∈ m, g ∈ l) : Bys w base m := fun g hg => hb g (h g hg)
theorem Bys.append {w : World} {base : Nat} {l m : List Wg} (h1 : Bys w base l) (h2 : Bys w base m) : Bys w base (l ++ m) := fun g hg => (List.mem_append.1 hg).elim (h1 g) (h2 g)
theorem lastW_drop {l : List Wg} {k i : Nat} (hk : k < l.length) : lastW (l.drop k) i = match lastW (l.drop (k + 1)) i with | some b => some b | none => if (nthG l k).at_ = i then some (nthG l k).b else none := by
  rw [List.drop_eq_getElem_cons hk, lastW, nthG_eq l k hk]
  cases lastW (l.drop (k + 1)) i <;> rfl
theorem lastW_found {l : List Wg} {k i : Nat} (hk : k < l.length) (h : lastW (l.drop (k + 1)) i = none) (ha : (nthG l k).at_ = i) : lastW l i = some (nthG l k).b := by
  have h2 := lastW_drop (l := l) (i := i) hk
  rw [h, if_pos ha] at h2
  have h3 := lastW_append (l.take k) (l.drop k) i
  rw [List.take_append_drop, h2] at h3
  exact h3
theorem lastW_more {l : List Wg} {k i : Nat} (hk : k < l.length) (h : lastW (l.drop (k + 1)) i = none) (ha : ¬ (nthG l k).at_ = i) : lastW (l.drop k) i = none := by
  have h2 := lastW_drop (l := l) (i := i) hk
  rw [h, if_neg ha] at h2
  exact h2

end Go.Proofs.Ytbclhaleibjkgaa
namespace Go.Proofs.Ytbclhaleibjkgaa
open Go.RowKit

/-- a sector filled by a byte, and another one at a place -/
def secL (by' odd : UInt8) : List UInt8 := (List.replicate 512 by').set odd.toNat odd
theorem secL_len (a b : UInt8) : (secL a b).length = 512 := by rw [secL, List.length_set, List.length_replicate]
/-- how far it is filled -/
def secTo (a : UInt8) (k : Nat) : List UInt8 := List.replicate k a ++ List.replicate (512 - k) 0
theorem secTo_len (a : UInt8) (k : Nat) (h : k ≤ 512) : (secTo a k).length = 512 := by simp [secTo]; omega
theorem secTo_set (a : UInt8) (k : Nat) (h : k < 512) : (secTo a k).set k a = secTo a (k + 1) := by
  unfold secTo
  rw [List.set_append_right _ _ (by simp), List.length_replicate, Nat.sub_self]
  have e : 512 - k = (512 - (k + 1)) + 1 := by omega
  rw [e, List.replicate_succ, List.set_cons_zero, List.replicate_succ', List.append_assoc]
  rfl
theorem secTo_all (a b : UInt8) : (secTo a 512).set b.toNat b = secL a b := by unfold secTo secL; rw [Nat.sub_self, List.replicate_zero, List.append_nil]

end Go.Proofs.Ytbclhaleibjkgaa
namespace Go.Proofs.Ytbclhaleibjkgaa
open Go.RowKit

def inR (n : Nat) (i : Int) : Bool := decide (0 ≤ i ∧ i < n)
def stE (r : Rd) (i : Int) : Int := if inR r.n i = true then 0 else 50
def stB (r : Rd) (i : Int) : List UInt8 := if inR r.n i = true then stableOf r.S i.toNat else []
def rdE (r : Rd) (i : Int) : Int := if r.off = true then 51 else stE r i
def rdB (r : Rd) (i : Int) : List UInt8 := if r.off = true then [] else if inR r.n i = true then readOf r.S r.C i.toNat else []
theorem ret_v9 {v : Value} {e e' : Int} (h : e = e') : Ending.returned (.tuple #[v, .int .i64 e]) = .returned (.tuple #[v, .int .i64 e']) := by rw [h]
/-- how many writes there may be -/
def Few (r : Rd) : Prop := r.S.length ≤ 1000000 ∧ r.C.length ≤ 1000000

end Go.Proofs.Ytbclhaleibjkgaa
namespace Go.Proofs.Ytbclhaleibjkgaa
open Go.RowKit

def offW (j : Nat) (l : List Wg) (k : Nat) : List Wg := (l.take k).filter (fun h => !(h.at_ == j))
theorem offW_yes (j : Nat) (l : List Wg) (k : Nat) (hk : k < l.length) (h : ¬ (nthG l k).at_ = j) : offW j l (k + 1) = offW j l k ++ [nthG l k] := by
  unfold offW
  rw [takeW l k hk, List.filter_append, List.filter_cons_of_pos (by simp [h])]; rfl
theorem offW_no (j : Nat) (l : List Wg) (k : Nat) (hk : k < l.length) (h : (nthG l k).at_ = j) : offW j l (k + 1) = offW j l k := by
  unfold offW
  rw [takeW l k hk, List.filter_append, List.filter_cons_of_neg (by simp [h])]; simp
theorem offW_len (j : Nat) (l : List Wg) (k : Nat) : (offW j l k).length ≤ l.length := by
  unfold offW
  exact Nat.le_trans (List.length_filter_le _ _) (by rw [List.length_take]; omega)
theorem offW_all (l : List Wg) (g : Wg) : offW g.at_ l l.length ++ [g] = settleW l g := by unfold offW settleW; rw [List.take_length]
theorem settle_len (l : List Wg) (g : Wg) : (settleW l g).length ≤ l.length + 1 := by rw [← offW_all, List.length_append]; have := offW_len g.at_ l l.length; simp; omega
theorem ret_none9 {x : Value} (h : x = .tuple #[]) : Ending.returned x = .returned (.tuple #[]) := by rw [h]

end Go.Proofs.Ytbclhaleibjkgaa
namespace Go.Proofs.Ytbclhaleibjkgaa
open Go.RowKit

def flushR (r : Rd) : Rd := if r.off = true then r else { r with S := r.C.foldl settleW r.S, C := [], fl := r.fl + 1 }
def fluC (r : Rd) (vC : Value) : Value := if r.off = true then vC else .slice none 0 0
def flE (r : Rd) : Int := if r.off = true then 51 else 0
def armR (r : Rd) (z : Int) : Rd := { r with armed := decide (0 ≤ z), left := (max z 0).toNat }
theorem fold_len (m S : List Wg) : (m.foldl settleW S).length ≤ S.length + m.length := by
  induction m generalizing S with
  | nil => exact Nat.le_refl _
  | cons g m ih =>
    rw [List.foldl_cons, List.length_cons]
    have h1 := ih (settleW S g)
    have h2 := settle_len S g
    omega
theorem fold_take (l S : List Wg) (k : Nat) (h : k < l.length) : (l.take (k + 1)).foldl settleW S = settleW ((l.take k).foldl settleW S) (nthG l k) := by
  rw [takeW l k h, List.foldl_append]; rfl
end Go.Proofs.Ytbclhaleibjkgaa
