/- Two readers in one world. -/
import Derived.Test.YtonndplenacgjaaRefRdr5
import Derived.Test.YtonndplenacgjaaAlive
namespace Go.Proofs.Ytonndplenacgjaa
open Go.RowKit

theorem IsB.other {w w' : World} {a : Option Addr} {len cap : Nat} {l : List UInt8} {X : Nat} (h : IsB w a len cap l) (hg : w.grownBy w' (some X)) (hX : ∀ j n, w.cell? ⟨X, j, none⟩ ≠ some (.int .u8 n)) : IsB w' a len cap l :=
  ⟨h.len_eq, h.le, h.max, h.nil, fun hp => by
    obtain ⟨b, off, e, hc⟩ := h.cells hp
    refine ⟨b, off, e, fun i hi => ?_⟩
    have := hc i hi
    refine (hg.cell this ?_)
    intro e'
    injection e' with e'
    have e2 : b = X := e'
    subst e2
    exact hX _ _ this⟩
theorem Blk.other' {w w' : World} {B t : Nat} {cs : List Value} {X : Nat} (h : Blk w B t cs) (hg : w.grownBy w' (some X)) (hne : X ≠ B) : Blk w' B t cs := by
  unfold Blk
  rw [hg.block B h.lt (fun e => hne (by injection e with e; exact e.symm))]
  exact h
theorem xcell_no {w : World} {X : Nat} {a : Option Addr} {len cap k : Nat} {bad : Bool} (h : Blk w X 38 (xcell a len cap k bad)) : ∀ j n, w.cell? ⟨X, j, none⟩ ≠ some (.int .u8 n) := by
  intro j n
  rw [h.cell j]
  match j with
  | 0 => simp [xcell]
  | 1 => simp [xcell]
  | 2 => simp [xcell]
  | j + 3 => simp [xcell]
theorem rcell_no {w : World} {X : Nat} {a : Option Addr} {len cap : Nat} {bad : Bool} (h : Blk w X 65 (rcell a len cap bad)) : ∀ j n, w.cell? ⟨X, j, none⟩ ≠ some (.int .u8 n) := by
  intro j n
  rw [h.cell j]
  match j with
  | 0 => simp [rcell]
  | 1 => simp [rcell]
  | j + 2 => simp [rcell]
/-- the program's reader, where the document's goes on -/
theorem IsR.other {w w' : World} {B X : Nat} {l : List UInt8} {br : Bool} (h : IsR w B l br) (hg : w.grownBy w' (some X)) (hne : X ≠ B) {a : Option Addr} {len cap k : Nat} {bad : Bool} (hX : Blk w X 38 (xcell a len cap k bad)) : IsR w' B l br := by
  obtain ⟨a, cap, h1, h2, h3⟩ := h
  exact ⟨a, cap, h1.other' hg hne, h2.other hg (xcell_no hX), h3⟩
/-- the document's reader, where the program's goes on -/
theorem IsX.other {w w' : World} {B X : Nat} {a : Option Addr} {len cap : Nat} {l : List UInt8} {k : Nat} {bad : Bool} (h : IsX w X a len cap l k bad) (hg : w.grownBy w' (some B)) (hne : B ≠ X) {l' : List UInt8} {br : Bool} (hB : IsR w B l' br) : IsX w' X a len cap l k bad := by
  obtain ⟨a', cap', h1, _, _⟩ := hB
  exact ⟨h.1.other' hg hne, h.2.1.other hg (rcell_no h1), h.2.2.1, h.2.2.2⟩

/-- both readers, at the same place -/
def Both (w w' : World) (B X : Nat) (a : Option Addr) (len cap : Nat) (l : List UInt8) : Prop :=
  ∃ k br, IsR w' B (l.drop k) br ∧ IsX w' X a len cap l k br ∧ Below w.heap.size w w'

/-- a slice of whole numbers -/
theorem IsRow.ints {w : World} {a : Option Addr} {len cap : Nat} {zs : List Int} (h : IsRow .i64 w a len cap zs) (hp : 0 < len) : ∃ b off, a = some ⟨b, off, none⟩ ∧ ∀ i, i < len → w.cell? ⟨b, off + i, none⟩ = some (.int .i64 (zs.getD i 0)) := by
  rcases h with ⟨rfl, rfl, rfl, _⟩ | ⟨⟨b, off, spot⟩, rfl, h2, h3, h4, h5, h6⟩
  · omega
  · have hc := h5 0 (by omega)
    have hspot : spot = none := by simpa [Addr.add] using World.cell?_spot hc
    subst hspot
    refine ⟨b, off, rfl, fun i hi => ?_⟩
    have hx := h5 i (by omega)
    rw [Addr.add_lit] at hx
    exact hx
end Go.Proofs.Ytonndplenacgjaa
