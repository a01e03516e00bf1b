/-
  No cell of these rows narrows 'for every input' (looked for: loops, veiled, ifaces, maps, wideKeys, modest, calm, conditions, laid).
  DERIVED. THE GIVEN ROWS OF THIS SEAT. 5 by the template 'for every input the law returns true; each argument reads behind the call as it read before'; 0 by the template 'total and deterministic' (their statements: YtmgflcglmakceaaTotals.lean).
  GIVEN WITH THE SEED: the statements are not yours to turn. If you find one false, say at which input.
  Laid BY PROGRAM, IN A SANDBOX (cutbox-rows.mjs): the forced cells as the released guide's own fill.sh prints them over the translation 201edefae5849ef6… (all of the seat's roots in one cut). By AI agents, Wed Nov 11 2026. No macro, syntax, notation, axiom, sorry.
-/
import Derived.Test.YtmgflcglmakceaaChecked
import GoSem.Claim
import GoSem.ClaimJoined
import GoSem.ClaimMapViews
import Derived.JoinedTies
import Derived.KernelRfl
namespace Go.Proofs.Ytmgflcglmakceaa
/- THE CELL 'sum', in the pinned program and in every row, IS THE sha256 OF THE DUMP (.gsa) THAT YtmgflcglmakceaaProg.lean LOADS. Nothing in Lean hashes anything: it is a label: what it is worth is what the hold of that sum in a sandbox is worth. -/
noncomputable def Try.pinned : Pinned := { name := "ytmgflcglmakceaa", sum := "201edefae5849ef6cef0c41859e39ef1d68cb99094690d7a93accf1cf74ce659", checked := Try.checked }
namespace Rows
def none {H : Type} : Left H := { results := [], args := [] }

/-- 'stelelaw07.TotpCodes': WHATEVER THE INPUT: true; the input reads as it did. -/
def totpCodesSpec : ChangeSpec := { name := "totpCodes", fn := fun _ => fun
  | [d1, d2, d3] => { results := [.lit (.bool true)], args := [d1, d2, d3] }
  | _ => none }
def totpCodesRow : OpenClaim := { program := "ytmgflcglmakceaa", sum := "201edefae5849ef6cef0c41859e39ef1d68cb99094690d7a93accf1cf74ce659", func := "stele/stelelaw07.TotpCodes", spec := "totpCodes", unfollowed := true, recurses := true, apart := false }
def TotpCodesSaid : Prop := totpCodesRow.holds Try.pinned (OpenSpec.ofChange totpCodesSpec)

/-- ITS FALSE NEIGHBOUR: 'it returns false'. Refute it at one input. -/
def totpCodesWrong : ChangeSpec := { name := "totpCodes", fn := fun _ => fun
  | [d1, d2, d3] => { results := [.lit (.bool false)], args := [d1, d2, d3] }
  | _ => none }
def TotpCodesWrongFalsely : Prop := totpCodesRow.holds Try.pinned (OpenSpec.ofChange totpCodesWrong)

/-- 'stelelaw07.TotpChecks': WHATEVER THE INPUT: true; the input reads as it did. -/
def totpChecksSpec : ChangeSpec := { name := "totpChecks", fn := fun _ => fun
  | [d1, d2, d3] => { results := [.lit (.bool true)], args := [d1, d2, d3] }
  | _ => none }
def totpChecksRow : OpenClaim := { program := "ytmgflcglmakceaa", sum := "201edefae5849ef6cef0c41859e39ef1d68cb99094690d7a93accf1cf74ce659", func := "stele/stelelaw07.TotpChecks", spec := "totpChecks", unfollowed := true, recurses := true, apart := false }
def TotpChecksSaid : Prop := totpChecksRow.holds Try.pinned (OpenSpec.ofChange totpChecksSpec)

/-- ITS FALSE NEIGHBOUR: 'it returns false'. Refute it at one input. -/
def totpChecksWrong : ChangeSpec := { name := "totpChecks", fn := fun _ => fun
  | [d1, d2, d3] => { results := [.lit (.bool false)], args := [d1, d2, d3] }
  | _ => none }
def TotpChecksWrongFalsely : Prop := totpChecksRow.holds Try.pinned (OpenSpec.ofChange totpChecksWrong)

/-- 'stelelaw07.TotpSigns': WHATEVER THE INPUT: true; the input reads as it did. -/
def totpSignsSpec : ChangeSpec := { name := "totpSigns", fn := fun _ => fun
  | [d1, d2] => { results := [.lit (.bool true)], args := [d1, d2] }
  | _ => none }
def totpSignsRow : OpenClaim := { program := "ytmgflcglmakceaa", sum := "201edefae5849ef6cef0c41859e39ef1d68cb99094690d7a93accf1cf74ce659", func := "stele/stelelaw07.TotpSigns", spec := "totpSigns", apart := false }
def TotpSignsSaid : Prop := totpSignsRow.holds Try.pinned (OpenSpec.ofChange totpSignsSpec)

/-- ITS FALSE NEIGHBOUR: 'it returns false'. Refute it at one input. -/
def totpSignsWrong : ChangeSpec := { name := "totpSigns", fn := fun _ => fun
  | [d1, d2] => { results := [.lit (.bool false)], args := [d1, d2] }
  | _ => none }
def TotpSignsWrongFalsely : Prop := totpSignsRow.holds Try.pinned (OpenSpec.ofChange totpSignsWrong)

/-- 'stelelaw07.TotpBack': WHATEVER THE INPUT: true; the input reads as it did. -/
def totpBackSpec : ChangeSpec := { name := "totpBack", fn := fun _ => fun
  | [d1, d2] => { results := [.lit (.bool true)], args := [d1, d2] }
  | _ => none }
def totpBackRow : OpenClaim := { program := "ytmgflcglmakceaa", sum := "201edefae5849ef6cef0c41859e39ef1d68cb99094690d7a93accf1cf74ce659", func := "stele/stelelaw07.TotpBack", spec := "totpBack", apart := false }
def TotpBackSaid : Prop := totpBackRow.holds Try.pinned (OpenSpec.ofChange totpBackSpec)

/-- ITS FALSE NEIGHBOUR: 'it returns false'. Refute it at one input. -/
def totpBackWrong : ChangeSpec := { name := "totpBack", fn := fun _ => fun
  | [d1, d2] => { results := [.lit (.bool false)], args := [d1, d2] }
  | _ => none }
def TotpBackWrongFalsely : Prop := totpBackRow.holds Try.pinned (OpenSpec.ofChange totpBackWrong)

/-- 'stelelaw07.TotpStep': WHATEVER THE INPUT: true; the input reads as it did. -/
def totpStepSpec : ChangeSpec := { name := "totpStep", fn := fun _ => fun
  | [d1, d2, d3] => { results := [.lit (.bool true)], args := [d1, d2, d3] }
  | _ => none }
def totpStepRow : OpenClaim := { program := "ytmgflcglmakceaa", sum := "201edefae5849ef6cef0c41859e39ef1d68cb99094690d7a93accf1cf74ce659", func := "stele/stelelaw07.TotpStep", spec := "totpStep", unfollowed := true, recurses := true, apart := false }
def TotpStepSaid : Prop := totpStepRow.holds Try.pinned (OpenSpec.ofChange totpStepSpec)

/-- ITS FALSE NEIGHBOUR: 'it returns false'. Refute it at one input. -/
def totpStepWrong : ChangeSpec := { name := "totpStep", fn := fun _ => fun
  | [d1, d2, d3] => { results := [.lit (.bool false)], args := [d1, d2, d3] }
  | _ => none }
def TotpStepWrongFalsely : Prop := totpStepRow.holds Try.pinned (OpenSpec.ofChange totpStepWrong)

/- THE SECOND FORM. 'bulk': how many values and letters a reading holds, each counted each time it is reached (what is shared counts as often as it is met; a slice's spare places count too). A statement '..UptoSaid' is the law's where the arguments, and the package variables that the reading takes, are together of bulk at most 1048576: NARROWER than '..Said'. Prove '..Said' where nothing that the law and all that it calls make is longer than what came in: it says more and counts as full. Else prove '..UptoSaid'. A law counts once. -/
mutual
def uptoBulk {H : Type} : DataW H → Nat
  | .lit (.string bytes) => bytes.length + 1
  | .lit _ => 1
  | .nil => 1
  | .ptr d => uptoBulk d + 1
  | .slice elems spare => uptoBulkAll elems + uptoBulkAll spare + 1
  | .agg parts => uptoBulkAll parts + 1
  | .iface _ d => uptoBulk d + 1
  | .map entries => uptoBulkEntries entries + 1
  | .held _ => 1
def uptoBulkAll {H : Type} : List (DataW H) → Nat
  | [] => 0
  | d :: r => uptoBulk d + uptoBulkAll r
def uptoBulkEntries {H : Type} : List (Lit × DataW H) → Nat
  | [] => 0
  | x :: r => uptoBulkEntry x + uptoBulkEntries r
def uptoBulkEntry {H : Type} : Lit × DataW H → Nat
  | (.string bytes, d) => bytes.length + uptoBulk d + 1
  | (_, d) => uptoBulk d + 1
 end
def uptoSmall : (H : Type) → List (DataW H) → Bool := fun _ ds => decide (uptoBulkAll ds ≤ 1048576)
def OpenSpec.upto (s : _root_.Go.ChangeSpec) : _root_.Go.OpenSpec := { _root_.Go.OpenSpec.ofChange s with cond := some uptoSmall }

/-- 'stelelaw07.TotpCodes', WHERE WHAT IT READS IS OF BULK AT MOST 1048576: true; the input reads as it did. -/
def totpCodesUptoRow : OpenClaim := { program := "ytmgflcglmakceaa", sum := "201edefae5849ef6cef0c41859e39ef1d68cb99094690d7a93accf1cf74ce659", func := "stele/stelelaw07.TotpCodes", spec := "totpCodes", unfollowed := true, recurses := true, apart := false, narrowed := true }
def TotpCodesUptoSaid : Prop := totpCodesUptoRow.holds Try.pinned (OpenSpec.upto totpCodesSpec)

/-- 'stelelaw07.TotpChecks', WHERE WHAT IT READS IS OF BULK AT MOST 1048576: true; the input reads as it did. -/
def totpChecksUptoRow : OpenClaim := { program := "ytmgflcglmakceaa", sum := "201edefae5849ef6cef0c41859e39ef1d68cb99094690d7a93accf1cf74ce659", func := "stele/stelelaw07.TotpChecks", spec := "totpChecks", unfollowed := true, recurses := true, apart := false, narrowed := true }
def TotpChecksUptoSaid : Prop := totpChecksUptoRow.holds Try.pinned (OpenSpec.upto totpChecksSpec)

/-- 'stelelaw07.TotpSigns', WHERE WHAT IT READS IS OF BULK AT MOST 1048576: true; the input reads as it did. -/
def totpSignsUptoRow : OpenClaim := { program := "ytmgflcglmakceaa", sum := "201edefae5849ef6cef0c41859e39ef1d68cb99094690d7a93accf1cf74ce659", func := "stele/stelelaw07.TotpSigns", spec := "totpSigns", apart := false, narrowed := true }
def TotpSignsUptoSaid : Prop := totpSignsUptoRow.holds Try.pinned (OpenSpec.upto totpSignsSpec)

/-- 'stelelaw07.TotpBack', WHERE WHAT IT READS IS OF BULK AT MOST 1048576: true; the input reads as it did. -/
def totpBackUptoRow : OpenClaim := { program := "ytmgflcglmakceaa", sum := "201edefae5849ef6cef0c41859e39ef1d68cb99094690d7a93accf1cf74ce659", func := "stele/stelelaw07.TotpBack", spec := "totpBack", apart := false, narrowed := true }
def TotpBackUptoSaid : Prop := totpBackUptoRow.holds Try.pinned (OpenSpec.upto totpBackSpec)

/-- 'stelelaw07.TotpStep', WHERE WHAT IT READS IS OF BULK AT MOST 1048576: true; the input reads as it did. -/
def totpStepUptoRow : OpenClaim := { program := "ytmgflcglmakceaa", sum := "201edefae5849ef6cef0c41859e39ef1d68cb99094690d7a93accf1cf74ce659", func := "stele/stelelaw07.TotpStep", spec := "totpStep", unfollowed := true, recurses := true, apart := false, narrowed := true }
def TotpStepUptoSaid : Prop := totpStepUptoRow.holds Try.pinned (OpenSpec.upto totpStepSpec)

end Rows
end Go.Proofs.Ytmgflcglmakceaa
