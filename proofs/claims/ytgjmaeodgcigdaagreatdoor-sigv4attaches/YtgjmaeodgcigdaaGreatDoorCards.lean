/-
  DERIVED. GIVEN WITH THE SEED: THE CARDS: each row of YtgjmaeodgcigdaaGreatDoorRows.lean that lists a variable, with what it lists TIED to the program's text (the seventh form; the later family's looks); each row that meets fmt, with fmt's text TOLD by the authors' own Lean function (tested against real Go, not proved from fmt's source: count such statements apart). THE CARD IS WHAT COUNTS. Prove the row's statement (the work); the ties are given (YtgjmaeodgcigdaaGreatDoorTie.lean); close each card by the builder's one call (the guide's Derived/Test/ToyasCard.lean, 'card_holds'). Laid BY PROGRAM, IN A SANDBOX (cutbox-door.mjs). By AI agents, Wed Nov 11 2026. No macro, syntax, notation, axiom, sorry.
-/
import Derived.Test.YtgjmaeodgcigdaaGreatDoorRows
import GoSem.ClaimSeven
namespace Go.Proofs.YtgjmaeodgcigdaaGreatDoor
namespace Rows

/-- THE TIED CARD OF 'stelelaw06.Sigv4Canonical'. -/
def sigv4CanonicalCard : Claim7 := { stood := { row := sigv4CanonicalRow, standIns := [], harness := (true, "aece7ff2e31cf27435d337f8ba0578a9c3a1f2e371230e26c370f0124ef9ced8"), looks := false }, kinds := [], alts := [], laidByText := true, laidKinds := [.data, .pinned], laidTests := true, laidLooks := .later }
def Sigv4CanonicalCardSaid : Prop := Claim7.holds Tryz.pinned (.plain (OpenSpec.ofChange sigv4CanonicalSpec)) sigv4CanonicalCard

/-- THE TIED CARD OF 'stelelaw06.Sigv4Signs'. -/
def sigv4SignsCard : Claim7 := { stood := { row := sigv4SignsRow, standIns := [], harness := (true, "aece7ff2e31cf27435d337f8ba0578a9c3a1f2e371230e26c370f0124ef9ced8"), looks := false }, kinds := [], alts := [], laidByText := true, laidKinds := [.data, .pinned], laidTests := true, laidLooks := .later }
def Sigv4SignsCardSaid : Prop := Claim7.holds Tryz.pinned (.plain (OpenSpec.ofChange sigv4SignsSpec)) sigv4SignsCard

/-- THE TIED CARD OF 'stelelaw06.Sigv4Auths'. -/
def sigv4AuthsCard : Claim7 := { stood := { row := sigv4AuthsRow, standIns := [], harness := (true, "aece7ff2e31cf27435d337f8ba0578a9c3a1f2e371230e26c370f0124ef9ced8"), looks := false }, kinds := [], alts := [], laidByText := true, laidKinds := [.data, .pinned], laidTests := true, laidLooks := .later }
def Sigv4AuthsCardSaid : Prop := Claim7.holds Tryz.pinned (.plain (OpenSpec.ofChange sigv4AuthsSpec)) sigv4AuthsCard

/-- THE TIED CARD OF 'stelelaw06.Sigv4Attaches'. -/
def sigv4AttachesCard : Claim7 := { stood := { row := sigv4AttachesRow, standIns := [], harness := (true, "aece7ff2e31cf27435d337f8ba0578a9c3a1f2e371230e26c370f0124ef9ced8"), looks := false }, kinds := [], alts := [], laidByText := true, laidKinds := [.data, .pinned], laidTests := true, laidLooks := .later }
def Sigv4AttachesCardSaid : Prop := Claim7.holds Tryz.pinned (.plain (OpenSpec.ofChange sigv4AttachesSpec)) sigv4AttachesCard

/-- THE TIED CARD OF 'stelelaw06.Sigv4Verifies'. -/
def sigv4VerifiesCard : Claim7 := { stood := { row := sigv4VerifiesRow, standIns := [], harness := (true, "aece7ff2e31cf27435d337f8ba0578a9c3a1f2e371230e26c370f0124ef9ced8"), looks := false }, kinds := [], alts := [], laidByText := true, laidKinds := [.data, .pinned], laidTests := true, laidLooks := .later }
def Sigv4VerifiesCardSaid : Prop := Claim7.holds Tryz.pinned (.plain (OpenSpec.ofChange sigv4VerifiesSpec)) sigv4VerifiesCard

/-- THE TIED CARD OF 'stelelaw06.Sigv4Back'. -/
def sigv4BackCard : Claim7 := { stood := { row := sigv4BackRow, standIns := [], harness := (true, "aece7ff2e31cf27435d337f8ba0578a9c3a1f2e371230e26c370f0124ef9ced8"), looks := false }, kinds := [], alts := [], laidByText := true, laidKinds := [.data, .pinned], laidTests := true, laidLooks := .later }
def Sigv4BackCardSaid : Prop := Claim7.holds Tryz.pinned (.plain (OpenSpec.ofChange sigv4BackSpec)) sigv4BackCard

/-- THE SECOND FORM's CARD OF 'stelelaw06.Sigv4Canonical'. -/
def sigv4CanonicalUptoCard : Claim7 := { stood := { row := sigv4CanonicalUptoRow, standIns := [], harness := (true, "aece7ff2e31cf27435d337f8ba0578a9c3a1f2e371230e26c370f0124ef9ced8"), looks := false }, kinds := [], alts := [], laidByText := true, laidKinds := [.data, .pinned], laidTests := true, laidLooks := .later }
def Sigv4CanonicalUptoCardSaid : Prop := Claim7.holds Tryz.pinned (.plain (OpenSpec.upto sigv4CanonicalSpec)) sigv4CanonicalUptoCard

/-- THE SECOND FORM's CARD OF 'stelelaw06.Sigv4Signs'. -/
def sigv4SignsUptoCard : Claim7 := { stood := { row := sigv4SignsUptoRow, standIns := [], harness := (true, "aece7ff2e31cf27435d337f8ba0578a9c3a1f2e371230e26c370f0124ef9ced8"), looks := false }, kinds := [], alts := [], laidByText := true, laidKinds := [.data, .pinned], laidTests := true, laidLooks := .later }
def Sigv4SignsUptoCardSaid : Prop := Claim7.holds Tryz.pinned (.plain (OpenSpec.upto sigv4SignsSpec)) sigv4SignsUptoCard

/-- THE SECOND FORM's CARD OF 'stelelaw06.Sigv4Auths'. -/
def sigv4AuthsUptoCard : Claim7 := { stood := { row := sigv4AuthsUptoRow, standIns := [], harness := (true, "aece7ff2e31cf27435d337f8ba0578a9c3a1f2e371230e26c370f0124ef9ced8"), looks := false }, kinds := [], alts := [], laidByText := true, laidKinds := [.data, .pinned], laidTests := true, laidLooks := .later }
def Sigv4AuthsUptoCardSaid : Prop := Claim7.holds Tryz.pinned (.plain (OpenSpec.upto sigv4AuthsSpec)) sigv4AuthsUptoCard

/-- THE SECOND FORM's CARD OF 'stelelaw06.Sigv4Attaches'. -/
def sigv4AttachesUptoCard : Claim7 := { stood := { row := sigv4AttachesUptoRow, standIns := [], harness := (true, "aece7ff2e31cf27435d337f8ba0578a9c3a1f2e371230e26c370f0124ef9ced8"), looks := false }, kinds := [], alts := [], laidByText := true, laidKinds := [.data, .pinned], laidTests := true, laidLooks := .later }
def Sigv4AttachesUptoCardSaid : Prop := Claim7.holds Tryz.pinned (.plain (OpenSpec.upto sigv4AttachesSpec)) sigv4AttachesUptoCard

/-- THE SECOND FORM's CARD OF 'stelelaw06.Sigv4Verifies'. -/
def sigv4VerifiesUptoCard : Claim7 := { stood := { row := sigv4VerifiesUptoRow, standIns := [], harness := (true, "aece7ff2e31cf27435d337f8ba0578a9c3a1f2e371230e26c370f0124ef9ced8"), looks := false }, kinds := [], alts := [], laidByText := true, laidKinds := [.data, .pinned], laidTests := true, laidLooks := .later }
def Sigv4VerifiesUptoCardSaid : Prop := Claim7.holds Tryz.pinned (.plain (OpenSpec.upto sigv4VerifiesSpec)) sigv4VerifiesUptoCard

/-- THE SECOND FORM's CARD OF 'stelelaw06.Sigv4Back'. -/
def sigv4BackUptoCard : Claim7 := { stood := { row := sigv4BackUptoRow, standIns := [], harness := (true, "aece7ff2e31cf27435d337f8ba0578a9c3a1f2e371230e26c370f0124ef9ced8"), looks := false }, kinds := [], alts := [], laidByText := true, laidKinds := [.data, .pinned], laidTests := true, laidLooks := .later }
def Sigv4BackUptoCardSaid : Prop := Claim7.holds Tryz.pinned (.plain (OpenSpec.upto sigv4BackSpec)) sigv4BackUptoCard
end Rows
end Go.Proofs.YtgjmaeodgcigdaaGreatDoor
