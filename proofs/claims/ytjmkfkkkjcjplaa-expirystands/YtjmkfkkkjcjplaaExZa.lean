/- The program's expiry: the map of the latest: its keys, what it says; over; Latest. -/
import Derived.Test.YtjmkfkkkjcjplaaEx3
import Derived.Maps.OwnSet
import Derived.ChangeKeys
import Derived.DeepKeys4
namespace Go.Proofs.Ytjmkfkkkjcjplaa
open Go.RowKit

abbrev objT : TypeId := 45
/-- an object as a key -/
def keyK (b k : ByteArray) : Lit := .string (keyBytes [.string b.data.toList, .string k.data.toList])
def keyV (b k : ByteArray) : Value := .agg #[.string b, .string k]
theorem lawObj : WideMaps.KeyLaw Try.prog objT := deep_law_laid (show laidOutB Try.prog = true by kernel_rfl) (m := 3) (by omega) (by decide) (by kernel_rfl) (by kernel_rfl)
theorem keyedObj : Maps.Keyed Try.prog objT := Maps.Keyed.of_law lawObj
theorem lits_str (d : Nat) (s : ByteArray) (h : s.size ≤ maxLen) : Try.prog.keyLits (d + 1) 9 [.string s] = some [.string s.data.toList] := by
  unfold Program.keyLits
  simp only [Try.underlying9]
  rw [if_pos h]
theorem keyOf_obj {b k : ByteArray} (hb : b.size ≤ maxLen) (hk : k.size ≤ maxLen) : keyOf Try.prog objT (keyV b k) = some (keyK b k) := by
  unfold keyOf keyV keyK
  have hu := Try.underlying45
  simp only [hu]
  rw [if_pos (by rw [show Try.prog.keyType objT = true by kernel_rfl, Bool.true_and]; simp only [Value.formed, hu]; rfl)]
  have hpos : 0 < Try.prog.types.size := by decide
  obtain ⟨m, hm⟩ : ∃ m, Try.prog.types.size + 1 = m + 2 := ⟨Try.prog.types.size - 1, by omega⟩
  rw [hm]
  unfold Program.keyLits
  simp only [hu, Value.cells]
  rw [if_pos ⟨by kernel_rfl, by kernel_rfl⟩]
  rw [List.mapM_cons, List.mapM_cons, List.mapM_nil]
  simp only [List.drop, List.take, show Try.prog.cellsOf 9 = 1 by kernel_rfl]
  rw [lits_str m b hb, lits_str m k hk]
  rfl
theorem keyK_inj {b k b' k' : ByteArray} (hb : b.size ≤ maxLen) (hk : k.size ≤ maxLen) (hb' : b'.size ≤ maxLen) (hk' : k'.size ≤ maxLen) (h : keyK b k = keyK b' k') : b = b' ∧ k = k' := by
  unfold keyK at h
  injection h with h
  have := keyBytes_inj (l := [.string b.data.toList, .string k.data.toList]) (l' := [.string b'.data.toList, .string k'.data.toList]) ⟨trivial, trivial, trivial⟩
    (by intro a ha; simp only [List.mem_cons, List.not_mem_nil, or_false] at ha; rcases ha with rfl | rfl
        · exact (show _ ≤ maxLen from (by simpa using hb))
        · exact (show _ ≤ maxLen from (by simpa using hk)))
    (by intro a ha; simp only [List.mem_cons, List.not_mem_nil, or_false] at ha; rcases ha with rfl | rfl
        · exact (show _ ≤ maxLen from (by simpa using hb'))
        · exact (show _ ≤ maxLen from (by simpa using hk'))) h
  simp only [List.cons.injEq, Lit.string.injEq, and_true, Array.toList_inj] at this
  obtain ⟨h1, h2⟩ := this
  cases b; cases k; cases b'; cases k'
  simp only at h1 h2
  subst h1; subst h2
  exact ⟨rfl, rfl⟩
abbrev Dm := DataW Unit
/-- the number as an element -/
def nmD (z : Int) : Dm := .lit (.int .i64 z)
/-- what the map says behind the first so many -/
structure LatD (l : List Vs) (m : Nat) (D : Dm) : Prop where
  map : Maps.IsMap D
  has : ∀ b k : ByteArray, b.size ≤ maxLen → k.size ≤ maxLen → Maps.has D (keyK b k) = decide (0 ≤ latN l b k m)
  num : ∀ b k : ByteArray, b.size ≤ maxLen → k.size ≤ maxLen → D.atKey (keyK b k) (nmD 0) = nmD (if 0 ≤ latN l b k m then latN l b k m else 0)
theorem LatD.start (l : List Vs) : LatD l 0 (.map []) :=
  ⟨Maps.isMap_empty, fun b k _ _ => by unfold latN; rfl, fun b k _ _ => by unfold latN; rfl⟩
theorem LatD.skip {l : List Vs} {m : Nat} {D : Dm} {v : Vs} (h : LatD l m D) (hv : l[m]? = some v) (hn : 0 ≤ latN l v.bkt v.key m ∧ v.ord ≤ ordAt l (latN l v.bkt v.key m)) : LatD l (m + 1) D := by
  have he : ∀ b k, latN l b k (m + 1) = latN l b k m := fun b k => by
    rw [latN_at b k hv]
    unfold ofK
    by_cases h1 : v.bkt = b
    · by_cases h2 : v.key = k
      · subst h1; subst h2
        rw [if_neg (by simp; omega)]
      · rw [if_neg (by simp [h2])]
    · rw [if_neg (by simp [h1])]
  refine ⟨h.map, fun b k h1 h2 => ?_, fun b k h1 h2 => ?_⟩
  · rw [he]; exact h.has b k h1 h2
  · rw [he]; exact h.num b k h1 h2
theorem LatD.put {l : List Vs} {m : Nat} {D : Dm} {v : Vs} (h : LatD l m D) (hv : l[m]? = some v) (hs : v.bkt.size ≤ maxLen ∧ v.key.size ≤ maxLen) (hn : latN l v.bkt v.key m < 0 ∨ ordAt l (latN l v.bkt v.key m) < v.ord) : LatD l (m + 1) (D.put (keyK v.bkt v.key) (nmD (m : Int))) := by
  have hkey : WideAt.IsKeyLit (keyK v.bkt v.key) := trivial
  have hne : ∀ b k, ¬ (v.bkt = b ∧ v.key = k) → latN l b k (m + 1) = latN l b k m := fun b k e => by
    rw [latN_at b k hv]
    unfold ofK
    rw [if_neg (by simp only [Bool.and_eq_true, decide_eq_true_eq]; rintro ⟨h3, _⟩; exact e h3)]
  have heq : latN l v.bkt v.key (m + 1) = (m : Int) := by
    rw [latN_at _ _ hv]
    unfold ofK
    rw [if_pos (by rcases hn with hn | hn <;> simp [hn])]
  refine ⟨h.map.put _ _, fun b k h1 h2 => ?_, fun b k h1 h2 => ?_⟩
  all_goals by_cases e : v.bkt = b ∧ v.key = k
  · obtain ⟨rfl, rfl⟩ := e
    rw [Maps.has_put_same h.map hkey, heq, decide_eq_true (Int.natCast_nonneg m)]
  · rw [Maps.has_put_other (by intro e'; exact e (keyK_inj hs.1 hs.2 h1 h2 e'.symm)), h.has b k h1 h2, hne b k e]
  · obtain ⟨rfl, rfl⟩ := e
    rw [Maps.atKey_put_same h.map hkey, heq, if_pos (Int.natCast_nonneg m)]
  · rw [Maps.atKey_put_other (by intro e'; exact e (keyK_inj hs.1 hs.2 h1 h2 e'.symm)), h.num b k h1 h2, hne b k e]
/-- the map of the latest in a world -/
def MapL (w : World) (M n : Nat) (l : List Vs) : Prop := ∃ D, w.ownsMap Try.prog objT (plainElem Try.prog 3) M n D ∧ LatD l l.length D
end Go.Proofs.Ytjmkfkkkjcjplaa
