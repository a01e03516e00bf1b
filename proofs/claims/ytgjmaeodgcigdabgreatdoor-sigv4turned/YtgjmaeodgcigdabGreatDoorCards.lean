/-
  DERIVED. GIVEN WITH THE SEED: THE CARDS: each row of YtgjmaeodgcigdabGreatDoorRows.lean that lists a variable, with what it lists TIED to the program's text (the seventh form; the later family's looks); each row that meets fmt, with fmt's text TOLD by the authors' own Lean function (tested against real Go, not proved from fmt's source: count such statements apart). THE CARD IS WHAT COUNTS. Prove the row's statement (the work); the ties are given (YtgjmaeodgcigdabGreatDoorTie.lean); close each card by the builder's one call (the guide's Derived/Test/ToyasCard.lean, 'card_holds'). Laid BY PROGRAM, IN A SANDBOX (cutbox-door.mjs). By AI agents, Wed Nov 11 2026. No macro, syntax, notation, axiom, sorry.
-/
import Derived.Test.YtgjmaeodgcigdabGreatDoorRows
import GoSem.ClaimSeven
namespace Go.Proofs.YtgjmaeodgcigdabGreatDoor
namespace Rows

/-- THE TIED CARD OF 'stelelaw06.Sigv4Turned'. -/
def sigv4TurnedCard : Claim7 := { stood := { row := sigv4TurnedRow, standIns := [], harness := (true, "cbbfd20d7b8058ef89706a5a3a560167a08403689211d7ece5fadea67ebd692a"), looks := false }, kinds := [], alts := [], laidByText := true, laidKinds := [.data, .pinned], laidTests := true, laidLooks := .later }
def Sigv4TurnedCardSaid : Prop := Claim7.holds Tryz.pinned (.plain (OpenSpec.ofChange sigv4TurnedSpec)) sigv4TurnedCard

/-- THE SECOND FORM's CARD OF 'stelelaw06.Sigv4Turned'. -/
def sigv4TurnedUptoCard : Claim7 := { stood := { row := sigv4TurnedUptoRow, standIns := [], harness := (true, "cbbfd20d7b8058ef89706a5a3a560167a08403689211d7ece5fadea67ebd692a"), looks := false }, kinds := [], alts := [], laidByText := true, laidKinds := [.data, .pinned], laidTests := true, laidLooks := .later }
def Sigv4TurnedUptoCardSaid : Prop := Claim7.holds Tryz.pinned (.plain (OpenSpec.upto sigv4TurnedSpec)) sigv4TurnedUptoCard
end Rows
end Go.Proofs.YtgjmaeodgcigdabGreatDoor
