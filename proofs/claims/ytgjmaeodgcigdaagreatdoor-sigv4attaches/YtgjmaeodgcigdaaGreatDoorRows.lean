/-
  NARROWER THAN 'FOR EVERY INPUT', by the rows' own cells (each row's printed sentence says how): Sigv4Canonical: laid · Sigv4Signs: laid · Sigv4Auths: laid · Sigv4Attaches: laid · Sigv4Verifies: laid · Sigv4Back: laid.
  DERIVED. THE GIVEN ROWS OF THIS SEAT. 6 by the template 'for every input the law returns true; each argument reads behind the call as it read before'; 0 by the template 'total and deterministic' (their statements: YtgjmaeodgcigdaaGreatDoorTotals.lean).
  GIVEN WITH THE SEED: the statements are not yours to turn. If you find one false, say at which input.
  Laid BY PROGRAM, IN A SANDBOX (cutbox-rows.mjs): the forced cells as the released guide's own fill.sh prints them over the translation 326de882bc87f838… (all of the seat's roots in one cut). By AI agents, Wed Nov 11 2026. No macro, syntax, notation, axiom, sorry.
-/
import Derived.Test.YtgjmaeodgcigdaaGreatDoorChecked
import GoSem.PinnedTables
import GoSem.Claim
import GoSem.ClaimJoined
import GoSem.ClaimMapViews
import Derived.JoinedTies
import Derived.KernelRfl
namespace Go.Proofs.YtgjmaeodgcigdaaGreatDoor
/- THE CELL 'sum', in the pinned program and in every row, IS THE sha256 OF THE DUMP (.gsa) THAT YtgjmaeodgcigdaaGreatDoorProg.lean LOADS. Nothing in Lean hashes anything: it is a label: what it is worth is what the hold of that sum in a sandbox is worth. -/
noncomputable def Tryz.pinned : Pinned := { name := "ytgjmaeodgcigdaagreatdoor", sum := "326de882bc87f83897a2d42bce8abd8bacddb94a71e002630829f48f9be2f0ec", checked := Tryz.checked }
namespace Rows
def none {H : Type} : Left H := { results := [], args := [] }

/- WHAT THE LISTED PACKAGE-LEVEL VARIABLES READ AS WHEN THE CALL BEGINS. Each datum BY PROGRAM (the guide's laid-datum.mjs) off the statement by which the dump's own 'gosem.cut.vars' lays the variable. In a bare row this is a premise. The card (YtgjmaeodgcigdaaGreatDoorCards.lean) ties it to the program's text. -/
def laid_unicode_utf8_acceptRanges {H : Type} : DataW H := .agg [.agg [.lit (.int .u8 128), .lit (.int .u8 191)], .agg [.lit (.int .u8 160), .lit (.int .u8 191)], .agg [.lit (.int .u8 128), .lit (.int .u8 159)], .agg [.lit (.int .u8 144), .lit (.int .u8 191)], .agg [.lit (.int .u8 128), .lit (.int .u8 143)], .agg [.lit (.int .u8 0), .lit (.int .u8 0)], .agg [.lit (.int .u8 0), .lit (.int .u8 0)], .agg [.lit (.int .u8 0), .lit (.int .u8 0)], .agg [.lit (.int .u8 0), .lit (.int .u8 0)], .agg [.lit (.int .u8 0), .lit (.int .u8 0)], .agg [.lit (.int .u8 0), .lit (.int .u8 0)], .agg [.lit (.int .u8 0), .lit (.int .u8 0)], .agg [.lit (.int .u8 0), .lit (.int .u8 0)], .agg [.lit (.int .u8 0), .lit (.int .u8 0)], .agg [.lit (.int .u8 0), .lit (.int .u8 0)], .agg [.lit (.int .u8 0), .lit (.int .u8 0)]]
/-- One of Go's own tables, pinned by name: the form's constant. -/
def laid_unicode_utf8_first : DataW Unit := Go.Pinned.utf8First

/-- 'stelelaw06.Sigv4Canonical': WHATEVER THE INPUT: true; the input reads as it did. -/
def sigv4CanonicalSpec : ChangeSpec := { name := "sigv4Canonical", fn := fun _ => fun
  | [d1, d2] => { results := [.lit (.bool true)], args := [d1, d2] }
  | _ => none }
def sigv4CanonicalRow : OpenClaim := { program := "ytgjmaeodgcigdaagreatdoor", sum := "326de882bc87f83897a2d42bce8abd8bacddb94a71e002630829f48f9be2f0ec", func := "stele/stelelaw06.Sigv4Canonical", spec := "sigv4Canonical", inPlace := ["internal/abi.NoEscape", "internal/bytealg.IndexByteString", "internal/bytealg.IndexString", "internal/bytealg.abigen_runtime_cmpstring", "internal/bytealg.MakeNoZero", "internal/bytealg.CountString"], unfollowed := true, recurses := true, named := ["internal/bytealg.MaxLen", "unicode/utf8.first", "unicode/utf8.acceptRanges"], apart := false, laid := [("unicode/utf8.acceptRanges", laid_unicode_utf8_acceptRanges), ("unicode/utf8.first", laid_unicode_utf8_first)] }
def Sigv4CanonicalSaid : Prop := sigv4CanonicalRow.holds Tryz.pinned (OpenSpec.ofChange sigv4CanonicalSpec)

/-- ITS FALSE NEIGHBOUR: 'it returns false'. Refute it at one input. -/
def sigv4CanonicalWrong : ChangeSpec := { name := "sigv4Canonical", fn := fun _ => fun
  | [d1, d2] => { results := [.lit (.bool false)], args := [d1, d2] }
  | _ => none }
def Sigv4CanonicalWrongFalsely : Prop := sigv4CanonicalRow.holds Tryz.pinned (OpenSpec.ofChange sigv4CanonicalWrong)

/-- 'stelelaw06.Sigv4Signs': WHATEVER THE INPUT: true; the input reads as it did. -/
def sigv4SignsSpec : ChangeSpec := { name := "sigv4Signs", fn := fun _ => fun
  | [d1, d2, d3, d4, d5] => { results := [.lit (.bool true)], args := [d1, d2, d3, d4, d5] }
  | _ => none }
def sigv4SignsRow : OpenClaim := { program := "ytgjmaeodgcigdaagreatdoor", sum := "326de882bc87f83897a2d42bce8abd8bacddb94a71e002630829f48f9be2f0ec", func := "stele/stelelaw06.Sigv4Signs", spec := "sigv4Signs", inPlace := ["internal/abi.NoEscape", "internal/bytealg.IndexByteString", "internal/bytealg.IndexString", "internal/bytealg.abigen_runtime_cmpstring", "internal/bytealg.MakeNoZero", "internal/bytealg.CountString"], unfollowed := true, recurses := true, named := ["internal/bytealg.MaxLen", "unicode/utf8.first", "unicode/utf8.acceptRanges"], apart := false, laid := [("unicode/utf8.acceptRanges", laid_unicode_utf8_acceptRanges), ("unicode/utf8.first", laid_unicode_utf8_first)] }
def Sigv4SignsSaid : Prop := sigv4SignsRow.holds Tryz.pinned (OpenSpec.ofChange sigv4SignsSpec)

/-- ITS FALSE NEIGHBOUR: 'it returns false'. Refute it at one input. -/
def sigv4SignsWrong : ChangeSpec := { name := "sigv4Signs", fn := fun _ => fun
  | [d1, d2, d3, d4, d5] => { results := [.lit (.bool false)], args := [d1, d2, d3, d4, d5] }
  | _ => none }
def Sigv4SignsWrongFalsely : Prop := sigv4SignsRow.holds Tryz.pinned (OpenSpec.ofChange sigv4SignsWrong)

/-- 'stelelaw06.Sigv4Auths': WHATEVER THE INPUT: true; the input reads as it did. -/
def sigv4AuthsSpec : ChangeSpec := { name := "sigv4Auths", fn := fun _ => fun
  | [d1, d2] => { results := [.lit (.bool true)], args := [d1, d2] }
  | _ => none }
def sigv4AuthsRow : OpenClaim := { program := "ytgjmaeodgcigdaagreatdoor", sum := "326de882bc87f83897a2d42bce8abd8bacddb94a71e002630829f48f9be2f0ec", func := "stele/stelelaw06.Sigv4Auths", spec := "sigv4Auths", inPlace := ["internal/abi.NoEscape", "internal/bytealg.IndexByteString", "internal/bytealg.IndexString", "internal/bytealg.abigen_runtime_cmpstring", "internal/bytealg.MakeNoZero", "internal/bytealg.CountString"], unfollowed := true, recurses := true, named := ["internal/bytealg.MaxLen", "unicode/utf8.first", "unicode/utf8.acceptRanges"], apart := false, laid := [("unicode/utf8.acceptRanges", laid_unicode_utf8_acceptRanges), ("unicode/utf8.first", laid_unicode_utf8_first)] }
def Sigv4AuthsSaid : Prop := sigv4AuthsRow.holds Tryz.pinned (OpenSpec.ofChange sigv4AuthsSpec)

/-- ITS FALSE NEIGHBOUR: 'it returns false'. Refute it at one input. -/
def sigv4AuthsWrong : ChangeSpec := { name := "sigv4Auths", fn := fun _ => fun
  | [d1, d2] => { results := [.lit (.bool false)], args := [d1, d2] }
  | _ => none }
def Sigv4AuthsWrongFalsely : Prop := sigv4AuthsRow.holds Tryz.pinned (OpenSpec.ofChange sigv4AuthsWrong)

/-- 'stelelaw06.Sigv4Attaches': WHATEVER THE INPUT: true; the input reads as it did. -/
def sigv4AttachesSpec : ChangeSpec := { name := "sigv4Attaches", fn := fun _ => fun
  | [d1, d2, d3, d4] => { results := [.lit (.bool true)], args := [d1, d2, d3, d4] }
  | _ => none }
def sigv4AttachesRow : OpenClaim := { program := "ytgjmaeodgcigdaagreatdoor", sum := "326de882bc87f83897a2d42bce8abd8bacddb94a71e002630829f48f9be2f0ec", func := "stele/stelelaw06.Sigv4Attaches", spec := "sigv4Attaches", inPlace := ["internal/abi.NoEscape", "internal/bytealg.IndexByteString", "internal/bytealg.IndexString", "internal/bytealg.abigen_runtime_cmpstring", "internal/bytealg.MakeNoZero", "internal/bytealg.CountString"], unfollowed := true, recurses := true, named := ["internal/bytealg.MaxLen", "unicode/utf8.first", "unicode/utf8.acceptRanges"], apart := false, laid := [("unicode/utf8.acceptRanges", laid_unicode_utf8_acceptRanges), ("unicode/utf8.first", laid_unicode_utf8_first)] }
def Sigv4AttachesSaid : Prop := sigv4AttachesRow.holds Tryz.pinned (OpenSpec.ofChange sigv4AttachesSpec)

/-- ITS FALSE NEIGHBOUR: 'it returns false'. Refute it at one input. -/
def sigv4AttachesWrong : ChangeSpec := { name := "sigv4Attaches", fn := fun _ => fun
  | [d1, d2, d3, d4] => { results := [.lit (.bool false)], args := [d1, d2, d3, d4] }
  | _ => none }
def Sigv4AttachesWrongFalsely : Prop := sigv4AttachesRow.holds Tryz.pinned (OpenSpec.ofChange sigv4AttachesWrong)

/-- 'stelelaw06.Sigv4Verifies': WHATEVER THE INPUT: true; the input reads as it did. -/
def sigv4VerifiesSpec : ChangeSpec := { name := "sigv4Verifies", fn := fun _ => fun
  | [d1, d2, d3] => { results := [.lit (.bool true)], args := [d1, d2, d3] }
  | _ => none }
def sigv4VerifiesRow : OpenClaim := { program := "ytgjmaeodgcigdaagreatdoor", sum := "326de882bc87f83897a2d42bce8abd8bacddb94a71e002630829f48f9be2f0ec", func := "stele/stelelaw06.Sigv4Verifies", spec := "sigv4Verifies", inPlace := ["internal/abi.NoEscape", "internal/bytealg.IndexByteString", "internal/bytealg.IndexString", "internal/bytealg.abigen_runtime_cmpstring", "internal/bytealg.MakeNoZero", "internal/bytealg.CountString"], unfollowed := true, recurses := true, named := ["internal/bytealg.MaxLen", "unicode/utf8.first", "unicode/utf8.acceptRanges"], apart := false, laid := [("unicode/utf8.acceptRanges", laid_unicode_utf8_acceptRanges), ("unicode/utf8.first", laid_unicode_utf8_first)] }
def Sigv4VerifiesSaid : Prop := sigv4VerifiesRow.holds Tryz.pinned (OpenSpec.ofChange sigv4VerifiesSpec)

/-- ITS FALSE NEIGHBOUR: 'it returns false'. Refute it at one input. -/
def sigv4VerifiesWrong : ChangeSpec := { name := "sigv4Verifies", fn := fun _ => fun
  | [d1, d2, d3] => { results := [.lit (.bool false)], args := [d1, d2, d3] }
  | _ => none }
def Sigv4VerifiesWrongFalsely : Prop := sigv4VerifiesRow.holds Tryz.pinned (OpenSpec.ofChange sigv4VerifiesWrong)

/-- 'stelelaw06.Sigv4Back': WHATEVER THE INPUT: true; the input reads as it did. -/
def sigv4BackSpec : ChangeSpec := { name := "sigv4Back", fn := fun _ => fun
  | [d1, d2, d3, d4, d5] => { results := [.lit (.bool true)], args := [d1, d2, d3, d4, d5] }
  | _ => none }
def sigv4BackRow : OpenClaim := { program := "ytgjmaeodgcigdaagreatdoor", sum := "326de882bc87f83897a2d42bce8abd8bacddb94a71e002630829f48f9be2f0ec", func := "stele/stelelaw06.Sigv4Back", spec := "sigv4Back", inPlace := ["internal/abi.NoEscape", "internal/bytealg.IndexByteString", "internal/bytealg.IndexString", "internal/bytealg.abigen_runtime_cmpstring", "internal/bytealg.MakeNoZero", "internal/bytealg.CountString"], unfollowed := true, recurses := true, named := ["internal/bytealg.MaxLen", "unicode/utf8.first", "unicode/utf8.acceptRanges"], apart := false, laid := [("unicode/utf8.acceptRanges", laid_unicode_utf8_acceptRanges), ("unicode/utf8.first", laid_unicode_utf8_first)] }
def Sigv4BackSaid : Prop := sigv4BackRow.holds Tryz.pinned (OpenSpec.ofChange sigv4BackSpec)

/-- ITS FALSE NEIGHBOUR: 'it returns false'. Refute it at one input. -/
def sigv4BackWrong : ChangeSpec := { name := "sigv4Back", fn := fun _ => fun
  | [d1, d2, d3, d4, d5] => { results := [.lit (.bool false)], args := [d1, d2, d3, d4, d5] }
  | _ => none }
def Sigv4BackWrongFalsely : Prop := sigv4BackRow.holds Tryz.pinned (OpenSpec.ofChange sigv4BackWrong)

/- THE SECOND FORM. 'bulk': how many values and letters a reading holds, each counted each time it is reached (what is shared counts as often as it is met; a slice's spare places count too). A statement '..UptoSaid' is the law's where the arguments, and the package variables that the reading takes, are together of bulk at most 1048576: NARROWER than '..Said'. Prove '..Said' where nothing that the law and all that it calls make is longer than what came in: it says more and counts as full. Else prove '..UptoSaid'. A law counts once. -/
mutual
def uptoBulk {H : Type} : DataW H → Nat
  | .lit (.string bytes) => bytes.length + 1
  | .lit _ => 1
  | .nil => 1
  | .ptr d => uptoBulk d + 1
  | .slice elems spare => uptoBulkAll elems + uptoBulkAll spare + 1
  | .agg parts => uptoBulkAll parts + 1
  | .iface _ d => uptoBulk d + 1
  | .map entries => uptoBulkEntries entries + 1
  | .held _ => 1
def uptoBulkAll {H : Type} : List (DataW H) → Nat
  | [] => 0
  | d :: r => uptoBulk d + uptoBulkAll r
def uptoBulkEntries {H : Type} : List (Lit × DataW H) → Nat
  | [] => 0
  | x :: r => uptoBulkEntry x + uptoBulkEntries r
def uptoBulkEntry {H : Type} : Lit × DataW H → Nat
  | (.string bytes, d) => bytes.length + uptoBulk d + 1
  | (_, d) => uptoBulk d + 1
 end
def uptoSmall : (H : Type) → List (DataW H) → Bool := fun _ ds => decide (uptoBulkAll ds ≤ 1048576)
def OpenSpec.upto (s : _root_.Go.ChangeSpec) : _root_.Go.OpenSpec := { _root_.Go.OpenSpec.ofChange s with cond := some uptoSmall }

/-- 'stelelaw06.Sigv4Canonical', WHERE WHAT IT READS IS OF BULK AT MOST 1048576: true; the input reads as it did. -/
def sigv4CanonicalUptoRow : OpenClaim := { program := "ytgjmaeodgcigdaagreatdoor", sum := "326de882bc87f83897a2d42bce8abd8bacddb94a71e002630829f48f9be2f0ec", func := "stele/stelelaw06.Sigv4Canonical", spec := "sigv4Canonical", inPlace := ["internal/abi.NoEscape", "internal/bytealg.IndexByteString", "internal/bytealg.IndexString", "internal/bytealg.abigen_runtime_cmpstring", "internal/bytealg.MakeNoZero", "internal/bytealg.CountString"], unfollowed := true, recurses := true, named := ["internal/bytealg.MaxLen", "unicode/utf8.first", "unicode/utf8.acceptRanges"], apart := false, laid := [("unicode/utf8.acceptRanges", laid_unicode_utf8_acceptRanges), ("unicode/utf8.first", laid_unicode_utf8_first)], narrowed := true }
def Sigv4CanonicalUptoSaid : Prop := sigv4CanonicalUptoRow.holds Tryz.pinned (OpenSpec.upto sigv4CanonicalSpec)

/-- 'stelelaw06.Sigv4Signs', WHERE WHAT IT READS IS OF BULK AT MOST 1048576: true; the input reads as it did. -/
def sigv4SignsUptoRow : OpenClaim := { program := "ytgjmaeodgcigdaagreatdoor", sum := "326de882bc87f83897a2d42bce8abd8bacddb94a71e002630829f48f9be2f0ec", func := "stele/stelelaw06.Sigv4Signs", spec := "sigv4Signs", inPlace := ["internal/abi.NoEscape", "internal/bytealg.IndexByteString", "internal/bytealg.IndexString", "internal/bytealg.abigen_runtime_cmpstring", "internal/bytealg.MakeNoZero", "internal/bytealg.CountString"], unfollowed := true, recurses := true, named := ["internal/bytealg.MaxLen", "unicode/utf8.first", "unicode/utf8.acceptRanges"], apart := false, laid := [("unicode/utf8.acceptRanges", laid_unicode_utf8_acceptRanges), ("unicode/utf8.first", laid_unicode_utf8_first)], narrowed := true }
def Sigv4SignsUptoSaid : Prop := sigv4SignsUptoRow.holds Tryz.pinned (OpenSpec.upto sigv4SignsSpec)

/-- 'stelelaw06.Sigv4Auths', WHERE WHAT IT READS IS OF BULK AT MOST 1048576: true; the input reads as it did. -/
def sigv4AuthsUptoRow : OpenClaim := { program := "ytgjmaeodgcigdaagreatdoor", sum := "326de882bc87f83897a2d42bce8abd8bacddb94a71e002630829f48f9be2f0ec", func := "stele/stelelaw06.Sigv4Auths", spec := "sigv4Auths", inPlace := ["internal/abi.NoEscape", "internal/bytealg.IndexByteString", "internal/bytealg.IndexString", "internal/bytealg.abigen_runtime_cmpstring", "internal/bytealg.MakeNoZero", "internal/bytealg.CountString"], unfollowed := true, recurses := true, named := ["internal/bytealg.MaxLen", "unicode/utf8.first", "unicode/utf8.acceptRanges"], apart := false, laid := [("unicode/utf8.acceptRanges", laid_unicode_utf8_acceptRanges), ("unicode/utf8.first", laid_unicode_utf8_first)], narrowed := true }
def Sigv4AuthsUptoSaid : Prop := sigv4AuthsUptoRow.holds Tryz.pinned (OpenSpec.upto sigv4AuthsSpec)

/-- 'stelelaw06.Sigv4Attaches', WHERE WHAT IT READS IS OF BULK AT MOST 1048576: true; the input reads as it did. -/
def sigv4AttachesUptoRow : OpenClaim := { program := "ytgjmaeodgcigdaagreatdoor", sum := "326de882bc87f83897a2d42bce8abd8bacddb94a71e002630829f48f9be2f0ec", func := "stele/stelelaw06.Sigv4Attaches", spec := "sigv4Attaches", inPlace := ["internal/abi.NoEscape", "internal/bytealg.IndexByteString", "internal/bytealg.IndexString", "internal/bytealg.abigen_runtime_cmpstring", "internal/bytealg.MakeNoZero", "internal/bytealg.CountString"], unfollowed := true, recurses := true, named := ["internal/bytealg.MaxLen", "unicode/utf8.first", "unicode/utf8.acceptRanges"], apart := false, laid := [("unicode/utf8.acceptRanges", laid_unicode_utf8_acceptRanges), ("unicode/utf8.first", laid_unicode_utf8_first)], narrowed := true }
def Sigv4AttachesUptoSaid : Prop := sigv4AttachesUptoRow.holds Tryz.pinned (OpenSpec.upto sigv4AttachesSpec)

/-- 'stelelaw06.Sigv4Verifies', WHERE WHAT IT READS IS OF BULK AT MOST 1048576: true; the input reads as it did. -/
def sigv4VerifiesUptoRow : OpenClaim := { program := "ytgjmaeodgcigdaagreatdoor", sum := "326de882bc87f83897a2d42bce8abd8bacddb94a71e002630829f48f9be2f0ec", func := "stele/stelelaw06.Sigv4Verifies", spec := "sigv4Verifies", inPlace := ["internal/abi.NoEscape", "internal/bytealg.IndexByteString", "internal/bytealg.IndexString", "internal/bytealg.abigen_runtime_cmpstring", "internal/bytealg.MakeNoZero", "internal/bytealg.CountString"], unfollowed := true, recurses := true, named := ["internal/bytealg.MaxLen", "unicode/utf8.first", "unicode/utf8.acceptRanges"], apart := false, laid := [("unicode/utf8.acceptRanges", laid_unicode_utf8_acceptRanges), ("unicode/utf8.first", laid_unicode_utf8_first)], narrowed := true }
def Sigv4VerifiesUptoSaid : Prop := sigv4VerifiesUptoRow.holds Tryz.pinned (OpenSpec.upto sigv4VerifiesSpec)

/-- 'stelelaw06.Sigv4Back', WHERE WHAT IT READS IS OF BULK AT MOST 1048576: true; the input reads as it did. -/
def sigv4BackUptoRow : OpenClaim := { program := "ytgjmaeodgcigdaagreatdoor", sum := "326de882bc87f83897a2d42bce8abd8bacddb94a71e002630829f48f9be2f0ec", func := "stele/stelelaw06.Sigv4Back", spec := "sigv4Back", inPlace := ["internal/abi.NoEscape", "internal/bytealg.IndexByteString", "internal/bytealg.IndexString", "internal/bytealg.abigen_runtime_cmpstring", "internal/bytealg.MakeNoZero", "internal/bytealg.CountString"], unfollowed := true, recurses := true, named := ["internal/bytealg.MaxLen", "unicode/utf8.first", "unicode/utf8.acceptRanges"], apart := false, laid := [("unicode/utf8.acceptRanges", laid_unicode_utf8_acceptRanges), ("unicode/utf8.first", laid_unicode_utf8_first)], narrowed := true }
def Sigv4BackUptoSaid : Prop := sigv4BackUptoRow.holds Tryz.pinned (OpenSpec.upto sigv4BackSpec)

end Rows
end Go.Proofs.YtgjmaeodgcigdaaGreatDoor
