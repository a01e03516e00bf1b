/-
  DERIVED. GIVEN WITH THE SEED: THE CARDS: each row of YtbknabmcelknmaaGreatDoorRows.lean that lists a variable, with what it lists TIED to the program's text (the seventh form; the later family's looks); each row that meets fmt, with fmt's text TOLD by the authors' own Lean function (tested against real Go, not proved from fmt's source: count such statements apart). THE CARD IS WHAT COUNTS. Prove the row's statement (the work); the ties are given (YtbknabmcelknmaaGreatDoorTie.lean); close each card by the builder's one call (the guide's Derived/Test/ToyasCard.lean, 'card_holds'). Laid BY PROGRAM, IN A SANDBOX (cutbox-door.mjs). By AI agents, Wed Nov 11 2026. No macro, syntax, notation, axiom, sorry.
-/
import Derived.Test.YtbknabmcelknmaaGreatDoorRows
import GoSem.ClaimSeven
namespace Go.Proofs.YtbknabmcelknmaaGreatDoor
namespace Rows

/-- THE TIED CARD OF 'stelelaw05.RequestParses'. -/
def requestParsesCard : Claim7 := { stood := { row := requestParsesRow, standIns := [], harness := (true, "f2389388e2f2e10da73dcae3fd7d706459c288688ed86d2da4c5b4b475769d1e"), looks := true }, kinds := [], alts := [], laidByText := true, laidKinds := [.data, .data, .data, .data, .sentinel, .sentinel, .pinned, .pinned], laidTests := true, laidLooks := .later }
def RequestParsesCardSaid : Prop := Claim7.holds Tryz.pinned (.plain (OpenSpec.ofChange requestParsesSpec)) requestParsesCard

/-- THE TIED CARD OF 'stelelaw05.RequestShows'. -/
def requestShowsCard : Claim7 := { stood := { row := requestShowsRow, standIns := [], harness := (true, "f2389388e2f2e10da73dcae3fd7d706459c288688ed86d2da4c5b4b475769d1e"), looks := true }, kinds := [], alts := [], laidByText := true, laidKinds := [.data, .data, .data, .data, .sentinel, .sentinel, .pinned, .pinned], laidTests := true, laidLooks := .later }
def RequestShowsCardSaid : Prop := Claim7.holds Tryz.pinned (.plain (OpenSpec.ofChange requestShowsSpec)) requestShowsCard

/-- THE TIED CARD OF 'stelelaw05.RequestGets'. -/
def requestGetsCard : Claim7 := { stood := { row := requestGetsRow, standIns := [], harness := (true, "f2389388e2f2e10da73dcae3fd7d706459c288688ed86d2da4c5b4b475769d1e"), looks := true }, kinds := [], alts := [], laidByText := true, laidKinds := [.data, .data, .data, .data, .sentinel, .sentinel, .pinned, .pinned], laidTests := true, laidLooks := .later }
def RequestGetsCardSaid : Prop := Claim7.holds Tryz.pinned (.plain (OpenSpec.ofChange requestGetsSpec)) requestGetsCard

/-- THE TIED CARD OF 'stelelaw05.RequestNumbers'. -/
def requestNumbersCard : Claim7 := { stood := { row := requestNumbersRow, standIns := [], harness := (true, "f2389388e2f2e10da73dcae3fd7d706459c288688ed86d2da4c5b4b475769d1e"), looks := true }, kinds := [], alts := [], laidByText := true, laidKinds := [.data, .data, .data, .data, .sentinel, .sentinel, .pinned, .pinned], laidTests := true, laidLooks := .later }
def RequestNumbersCardSaid : Prop := Claim7.holds Tryz.pinned (.plain (OpenSpec.ofChange requestNumbersSpec)) requestNumbersCard

/-- THE TIED CARD OF 'stelelaw05.RequestAnswers'. -/
def requestAnswersCard : Claim7 := { stood := { row := requestAnswersRow, standIns := [], harness := (true, "f2389388e2f2e10da73dcae3fd7d706459c288688ed86d2da4c5b4b475769d1e"), looks := true }, kinds := [], alts := [], laidByText := true, laidKinds := [.data, .data, .data, .data, .sentinel, .sentinel, .pinned, .pinned], laidTests := true, laidLooks := .later }
def RequestAnswersCardSaid : Prop := Claim7.holds Tryz.pinned (.plain (OpenSpec.ofChange requestAnswersSpec)) requestAnswersCard

/-- THE TIED CARD OF 'stelelaw05.RequestBack'. -/
def requestBackCard : Claim7 := { stood := { row := requestBackRow, standIns := [], harness := (true, "f2389388e2f2e10da73dcae3fd7d706459c288688ed86d2da4c5b4b475769d1e"), looks := true }, kinds := [], alts := [], laidByText := true, laidKinds := [.data, .data, .data, .data, .sentinel, .sentinel, .pinned, .pinned], laidTests := true, laidLooks := .later }
def RequestBackCardSaid : Prop := Claim7.holds Tryz.pinned (.plain (OpenSpec.ofChange requestBackSpec)) requestBackCard

/-- THE SECOND FORM's CARD OF 'stelelaw05.RequestParses'. -/
def requestParsesUptoCard : Claim7 := { stood := { row := requestParsesUptoRow, standIns := [], harness := (true, "f2389388e2f2e10da73dcae3fd7d706459c288688ed86d2da4c5b4b475769d1e"), looks := true }, kinds := [], alts := [], laidByText := true, laidKinds := [.data, .data, .data, .data, .sentinel, .sentinel, .pinned, .pinned], laidTests := true, laidLooks := .later }
def RequestParsesUptoCardSaid : Prop := Claim7.holds Tryz.pinned (.plain (OpenSpec.upto requestParsesSpec)) requestParsesUptoCard

/-- THE SECOND FORM's CARD OF 'stelelaw05.RequestShows'. -/
def requestShowsUptoCard : Claim7 := { stood := { row := requestShowsUptoRow, standIns := [], harness := (true, "f2389388e2f2e10da73dcae3fd7d706459c288688ed86d2da4c5b4b475769d1e"), looks := true }, kinds := [], alts := [], laidByText := true, laidKinds := [.data, .data, .data, .data, .sentinel, .sentinel, .pinned, .pinned], laidTests := true, laidLooks := .later }
def RequestShowsUptoCardSaid : Prop := Claim7.holds Tryz.pinned (.plain (OpenSpec.upto requestShowsSpec)) requestShowsUptoCard

/-- THE SECOND FORM's CARD OF 'stelelaw05.RequestGets'. -/
def requestGetsUptoCard : Claim7 := { stood := { row := requestGetsUptoRow, standIns := [], harness := (true, "f2389388e2f2e10da73dcae3fd7d706459c288688ed86d2da4c5b4b475769d1e"), looks := true }, kinds := [], alts := [], laidByText := true, laidKinds := [.data, .data, .data, .data, .sentinel, .sentinel, .pinned, .pinned], laidTests := true, laidLooks := .later }
def RequestGetsUptoCardSaid : Prop := Claim7.holds Tryz.pinned (.plain (OpenSpec.upto requestGetsSpec)) requestGetsUptoCard

/-- THE SECOND FORM's CARD OF 'stelelaw05.RequestNumbers'. -/
def requestNumbersUptoCard : Claim7 := { stood := { row := requestNumbersUptoRow, standIns := [], harness := (true, "f2389388e2f2e10da73dcae3fd7d706459c288688ed86d2da4c5b4b475769d1e"), looks := true }, kinds := [], alts := [], laidByText := true, laidKinds := [.data, .data, .data, .data, .sentinel, .sentinel, .pinned, .pinned], laidTests := true, laidLooks := .later }
def RequestNumbersUptoCardSaid : Prop := Claim7.holds Tryz.pinned (.plain (OpenSpec.upto requestNumbersSpec)) requestNumbersUptoCard

/-- THE SECOND FORM's CARD OF 'stelelaw05.RequestAnswers'. -/
def requestAnswersUptoCard : Claim7 := { stood := { row := requestAnswersUptoRow, standIns := [], harness := (true, "f2389388e2f2e10da73dcae3fd7d706459c288688ed86d2da4c5b4b475769d1e"), looks := true }, kinds := [], alts := [], laidByText := true, laidKinds := [.data, .data, .data, .data, .sentinel, .sentinel, .pinned, .pinned], laidTests := true, laidLooks := .later }
def RequestAnswersUptoCardSaid : Prop := Claim7.holds Tryz.pinned (.plain (OpenSpec.upto requestAnswersSpec)) requestAnswersUptoCard

/-- THE SECOND FORM's CARD OF 'stelelaw05.RequestBack'. -/
def requestBackUptoCard : Claim7 := { stood := { row := requestBackUptoRow, standIns := [], harness := (true, "f2389388e2f2e10da73dcae3fd7d706459c288688ed86d2da4c5b4b475769d1e"), looks := true }, kinds := [], alts := [], laidByText := true, laidKinds := [.data, .data, .data, .data, .sentinel, .sentinel, .pinned, .pinned], laidTests := true, laidLooks := .later }
def RequestBackUptoCardSaid : Prop := Claim7.holds Tryz.pinned (.plain (OpenSpec.upto requestBackSpec)) requestBackUptoCard
end Rows
end Go.Proofs.YtbknabmcelknmaaGreatDoor
