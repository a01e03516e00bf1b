/- A disk, plain: sectors, writes, what is stable. -/
import Derived.Test.YtjmgodlefaadoaaBase
namespace Go.Proofs.Ytjmgodlefaadoaa

/-- a write: where, what, and where its bytes lie -/
structure Wg where
  at_ : Nat
  b : List UInt8
  ad : Option Addr
  cap : Nat
def zero512 : List UInt8 := List.replicate 512 0
/-- the last write to a sector -/
def lastW : List Wg → Nat → Option (List UInt8)
  | [], _ => none
  | g :: l, i => match lastW l i with
    | some b => some b
    | none => if g.at_ = i then some g.b else none
theorem lastW_snoc (l : List Wg) (g : Wg) (i : Nat) : lastW (l ++ [g]) i = if g.at_ = i then some g.b else lastW l i := by
  induction l with
  | nil => simp [lastW]
  | cons h l ih =>
    rw [List.cons_append, lastW, ih]
    by_cases hi : g.at_ = i
    · rw [if_pos hi, if_pos hi]
    · rw [if_neg hi, if_neg hi, lastW]
theorem lastW_append (l m : List Wg) (i : Nat) : lastW (l ++ m) i = match lastW m i with | some b => some b | none => lastW l i := by
  induction l with
  | nil => rw [List.nil_append]; cases lastW m i <;> rfl
  | cons h l ih =>
    rw [List.cons_append, lastW, ih]
    cases hm : lastW m i with
    | some b => rfl
    | none => rw [lastW]
/-- a write to what is stable: one elder of the same sector is gone -/
def settleW (S : List Wg) (g : Wg) : List Wg := S.filter (fun h => !(h.at_ == g.at_)) ++ [g]
theorem lastW_filter (S : List Wg) (j i : Nat) (h : j ≠ i) : lastW (S.filter (fun g => !(g.at_ == j))) i = lastW S i := by
  induction S with
  | nil => rfl
  | cons g S ih =>
    by_cases hg : g.at_ = j
    · rw [List.filter_cons_of_neg (by simp [hg]), ih, lastW]
      cases lastW S i with
      | some b => rfl
      | none => rw [if_neg (by omega)]
    · rw [List.filter_cons_of_pos (by simp [hg]), lastW, lastW, ih]
theorem lastW_settle (S : List Wg) (g : Wg) (i : Nat) : lastW (settleW S g) i = if g.at_ = i then some g.b else lastW S i := by
  unfold settleW
  rw [lastW_snoc]
  by_cases h : g.at_ = i
  · rw [if_pos h, if_pos h]
  · rw [if_neg h, if_neg h, lastW_filter S g.at_ i h]
/-- how many sectors -/
theorem settle_mem {S : List Wg} {g h : Wg} (hm : h ∈ settleW S g) : h ∈ S ∨ h = g := by
  unfold settleW at hm
  rcases List.mem_append.1 hm with e | e
  · exact .inl (List.mem_filter.1 e).1
  · exact .inr (List.mem_singleton.1 e)
/-- the writes that a crash keeps -/
def keptW : List Wg → List Bool → List Wg
  | g :: l, k :: ks => if k = true then g :: keptW l ks else keptW l ks
  | _, _ => []
def stableOf (S : List Wg) (i : Nat) : List UInt8 := (lastW S i).getD zero512
def readOf (S C : List Wg) (i : Nat) : List UInt8 := (lastW C i).getD (stableOf S i)
theorem stable_foldl (l S : List Wg) (i : Nat) : stableOf (l.foldl settleW S) i = (lastW l i).getD (stableOf S i) := by
  induction l generalizing S with
  | nil => rfl
  | cons g l ih =>
    rw [List.foldl_cons, ih, lastW]
    cases h : lastW l i with
    | some b => rfl
    | none =>
      unfold stableOf
      rw [lastW_settle]
      by_cases hi : g.at_ = i
      · rw [if_pos hi, if_pos hi]; first | done | rfl
      · rw [if_neg hi, if_neg hi]; first | done | rfl
end Go.Proofs.Ytjmgodlefaadoaa
