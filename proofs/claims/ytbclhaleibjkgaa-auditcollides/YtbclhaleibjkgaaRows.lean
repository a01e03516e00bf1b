/-
  No cell of these rows narrows 'for every input' (looked for: loops, veiled, ifaces, maps, wideKeys, modest, calm, conditions, laid).
  DERIVED. THE GIVEN ROWS OF THIS SEAT. 6 by the template 'for every input the law returns true; each argument reads behind the call as it read before'; 0 by the template 'total and deterministic' (their statements: YtbclhaleibjkgaaTotals.lean).
  GIVEN WITH THE SEED: the statements are not yours to turn. If you find one false, say at which input.
  Laid BY PROGRAM, IN A SANDBOX (cutbox-rows.mjs): the forced cells as the released guide's own fill.sh prints them over the translation 7275237ba2b7bb33… (all of the seat's roots in one cut). By AI agents, Wed Nov 11 2026. No macro, syntax, notation, axiom, sorry.
-/
import Derived.Test.YtbclhaleibjkgaaChecked
import GoSem.Claim
import GoSem.ClaimJoined
import GoSem.ClaimMapViews
import Derived.JoinedTies
import Derived.KernelRfl
namespace Go.Proofs.Ytbclhaleibjkgaa
/- THE CELL 'sum', in the pinned program and in every row, IS THE sha256 OF THE DUMP (.gsa) THAT YtbclhaleibjkgaaProg.lean LOADS. Nothing in Lean hashes anything: it is a label: what it is worth is what the hold of that sum in a sandbox is worth. -/
noncomputable def Try.pinned : Pinned := { name := "ytbclhaleibjkgaa", sum := "7275237ba2b7bb339900bb6316065baa084cf97b1d87cdf0b344031399d8c0fc", checked := Try.checked }
namespace Rows
def none {H : Type} : Left H := { results := [], args := [] }

/-- 'stelelaw14.AuditShows': WHATEVER THE INPUT: true; the input reads as it did. -/
def auditShowsSpec : ChangeSpec := { name := "auditShows", fn := fun _ => fun
  | [d1, d2, d3] => { results := [.lit (.bool true)], args := [d1, d2, d3] }
  | _ => none }
def auditShowsRow : OpenClaim := { program := "ytbclhaleibjkgaa", sum := "7275237ba2b7bb339900bb6316065baa084cf97b1d87cdf0b344031399d8c0fc", func := "stele/stelelaw14.AuditShows", spec := "auditShows", unfollowed := true, recurses := true, apart := false }
def AuditShowsSaid : Prop := auditShowsRow.holds Try.pinned (OpenSpec.ofChange auditShowsSpec)

/-- ITS FALSE NEIGHBOUR: 'it returns false'. Refute it at one input. -/
def auditShowsWrong : ChangeSpec := { name := "auditShows", fn := fun _ => fun
  | [d1, d2, d3] => { results := [.lit (.bool false)], args := [d1, d2, d3] }
  | _ => none }
def AuditShowsWrongFalsely : Prop := auditShowsRow.holds Try.pinned (OpenSpec.ofChange auditShowsWrong)

/-- 'stelelaw14.AuditReads': WHATEVER THE INPUT: true; the input reads as it did. -/
def auditReadsSpec : ChangeSpec := { name := "auditReads", fn := fun _ => fun
  | [d] => { results := [.lit (.bool true)], args := [d] }
  | _ => none }
def auditReadsRow : OpenClaim := { program := "ytbclhaleibjkgaa", sum := "7275237ba2b7bb339900bb6316065baa084cf97b1d87cdf0b344031399d8c0fc", func := "stele/stelelaw14.AuditReads", spec := "auditReads", inPlace := ["sync/atomic.LoadUint32", "sync/atomic.StoreUint32"], unfollowed := true, recurses := true, apart := false }
def AuditReadsSaid : Prop := auditReadsRow.holds Try.pinned (OpenSpec.ofChange auditReadsSpec)

/-- ITS FALSE NEIGHBOUR: 'it returns false'. Refute it at one input. -/
def auditReadsWrong : ChangeSpec := { name := "auditReads", fn := fun _ => fun
  | [d] => { results := [.lit (.bool false)], args := [d] }
  | _ => none }
def AuditReadsWrongFalsely : Prop := auditReadsRow.holds Try.pinned (OpenSpec.ofChange auditReadsWrong)

/-- 'stelelaw14.AuditNexts': WHATEVER THE INPUT: true; the input reads as it did. -/
def auditNextsSpec : ChangeSpec := { name := "auditNexts", fn := fun _ => fun
  | [d1, d2] => { results := [.lit (.bool true)], args := [d1, d2] }
  | _ => none }
def auditNextsRow : OpenClaim := { program := "ytbclhaleibjkgaa", sum := "7275237ba2b7bb339900bb6316065baa084cf97b1d87cdf0b344031399d8c0fc", func := "stele/stelelaw14.AuditNexts", spec := "auditNexts", unfollowed := true, recurses := true, apart := false }
def AuditNextsSaid : Prop := auditNextsRow.holds Try.pinned (OpenSpec.ofChange auditNextsSpec)

/-- ITS FALSE NEIGHBOUR: 'it returns false'. Refute it at one input. -/
def auditNextsWrong : ChangeSpec := { name := "auditNexts", fn := fun _ => fun
  | [d1, d2] => { results := [.lit (.bool false)], args := [d1, d2] }
  | _ => none }
def AuditNextsWrongFalsely : Prop := auditNextsRow.holds Try.pinned (OpenSpec.ofChange auditNextsWrong)

/-- 'stelelaw14.AuditVerifies': WHATEVER THE INPUT: true; the input reads as it did. -/
def auditVerifiesSpec : ChangeSpec := { name := "auditVerifies", fn := fun _ => fun
  | [d1, d2] => { results := [.lit (.bool true)], args := [d1, d2] }
  | _ => none }
def auditVerifiesRow : OpenClaim := { program := "ytbclhaleibjkgaa", sum := "7275237ba2b7bb339900bb6316065baa084cf97b1d87cdf0b344031399d8c0fc", func := "stele/stelelaw14.AuditVerifies", spec := "auditVerifies", unfollowed := true, recurses := true, apart := false }
def AuditVerifiesSaid : Prop := auditVerifiesRow.holds Try.pinned (OpenSpec.ofChange auditVerifiesSpec)

/-- ITS FALSE NEIGHBOUR: 'it returns false'. Refute it at one input. -/
def auditVerifiesWrong : ChangeSpec := { name := "auditVerifies", fn := fun _ => fun
  | [d1, d2] => { results := [.lit (.bool false)], args := [d1, d2] }
  | _ => none }
def AuditVerifiesWrongFalsely : Prop := auditVerifiesRow.holds Try.pinned (OpenSpec.ofChange auditVerifiesWrong)

/-- 'stelelaw14.AuditCollides': WHATEVER THE INPUT: true; the input reads as it did. -/
def auditCollidesSpec : ChangeSpec := { name := "auditCollides", fn := fun _ => fun
  | [d1, d2] => { results := [.lit (.bool true)], args := [d1, d2] }
  | _ => none }
def auditCollidesRow : OpenClaim := { program := "ytbclhaleibjkgaa", sum := "7275237ba2b7bb339900bb6316065baa084cf97b1d87cdf0b344031399d8c0fc", func := "stele/stelelaw14.AuditCollides", spec := "auditCollides", unfollowed := true, recurses := true, apart := false }
def AuditCollidesSaid : Prop := auditCollidesRow.holds Try.pinned (OpenSpec.ofChange auditCollidesSpec)

/-- ITS FALSE NEIGHBOUR: 'it returns false'. Refute it at one input. -/
def auditCollidesWrong : ChangeSpec := { name := "auditCollides", fn := fun _ => fun
  | [d1, d2] => { results := [.lit (.bool false)], args := [d1, d2] }
  | _ => none }
def AuditCollidesWrongFalsely : Prop := auditCollidesRow.holds Try.pinned (OpenSpec.ofChange auditCollidesWrong)

/-- 'stelelaw14.AuditBack': WHATEVER THE INPUT: true; the input reads as it did. -/
def auditBackSpec : ChangeSpec := { name := "auditBack", fn := fun _ => fun
  | [d1, d2] => { results := [.lit (.bool true)], args := [d1, d2] }
  | _ => none }
def auditBackRow : OpenClaim := { program := "ytbclhaleibjkgaa", sum := "7275237ba2b7bb339900bb6316065baa084cf97b1d87cdf0b344031399d8c0fc", func := "stele/stelelaw14.AuditBack", spec := "auditBack", inPlace := ["sync/atomic.LoadUint32", "sync/atomic.StoreUint32"], unfollowed := true, recurses := true, apart := false }
def AuditBackSaid : Prop := auditBackRow.holds Try.pinned (OpenSpec.ofChange auditBackSpec)

/-- ITS FALSE NEIGHBOUR: 'it returns false'. Refute it at one input. -/
def auditBackWrong : ChangeSpec := { name := "auditBack", fn := fun _ => fun
  | [d1, d2] => { results := [.lit (.bool false)], args := [d1, d2] }
  | _ => none }
def AuditBackWrongFalsely : Prop := auditBackRow.holds Try.pinned (OpenSpec.ofChange auditBackWrong)

/- THE SECOND FORM. 'bulk': how many values and letters a reading holds, each counted each time it is reached (what is shared counts as often as it is met; a slice's spare places count too). A statement '..UptoSaid' is the law's where the arguments, and the package variables that the reading takes, are together of bulk at most 1048576: NARROWER than '..Said'. Prove '..Said' where nothing that the law and all that it calls make is longer than what came in: it says more and counts as full. Else prove '..UptoSaid'. A law counts once. -/
mutual
def uptoBulk {H : Type} : DataW H → Nat
  | .lit (.string bytes) => bytes.length + 1
  | .lit _ => 1
  | .nil => 1
  | .ptr d => uptoBulk d + 1
  | .slice elems spare => uptoBulkAll elems + uptoBulkAll spare + 1
  | .agg parts => uptoBulkAll parts + 1
  | .iface _ d => uptoBulk d + 1
  | .map entries => uptoBulkEntries entries + 1
  | .held _ => 1
def uptoBulkAll {H : Type} : List (DataW H) → Nat
  | [] => 0
  | d :: r => uptoBulk d + uptoBulkAll r
def uptoBulkEntries {H : Type} : List (Lit × DataW H) → Nat
  | [] => 0
  | x :: r => uptoBulkEntry x + uptoBulkEntries r
def uptoBulkEntry {H : Type} : Lit × DataW H → Nat
  | (.string bytes, d) => bytes.length + uptoBulk d + 1
  | (_, d) => uptoBulk d + 1
 end
def uptoSmall : (H : Type) → List (DataW H) → Bool := fun _ ds => decide (uptoBulkAll ds ≤ 1048576)
def OpenSpec.upto (s : _root_.Go.ChangeSpec) : _root_.Go.OpenSpec := { _root_.Go.OpenSpec.ofChange s with cond := some uptoSmall }

/-- 'stelelaw14.AuditShows', WHERE WHAT IT READS IS OF BULK AT MOST 1048576: true; the input reads as it did. -/
def auditShowsUptoRow : OpenClaim := { program := "ytbclhaleibjkgaa", sum := "7275237ba2b7bb339900bb6316065baa084cf97b1d87cdf0b344031399d8c0fc", func := "stele/stelelaw14.AuditShows", spec := "auditShows", unfollowed := true, recurses := true, apart := false, narrowed := true }
def AuditShowsUptoSaid : Prop := auditShowsUptoRow.holds Try.pinned (OpenSpec.upto auditShowsSpec)

/-- 'stelelaw14.AuditReads', WHERE WHAT IT READS IS OF BULK AT MOST 1048576: true; the input reads as it did. -/
def auditReadsUptoRow : OpenClaim := { program := "ytbclhaleibjkgaa", sum := "7275237ba2b7bb339900bb6316065baa084cf97b1d87cdf0b344031399d8c0fc", func := "stele/stelelaw14.AuditReads", spec := "auditReads", inPlace := ["sync/atomic.LoadUint32", "sync/atomic.StoreUint32"], unfollowed := true, recurses := true, apart := false, narrowed := true }
def AuditReadsUptoSaid : Prop := auditReadsUptoRow.holds Try.pinned (OpenSpec.upto auditReadsSpec)

/-- 'stelelaw14.AuditNexts', WHERE WHAT IT READS IS OF BULK AT MOST 1048576: true; the input reads as it did. -/
def auditNextsUptoRow : OpenClaim := { program := "ytbclhaleibjkgaa", sum := "7275237ba2b7bb339900bb6316065baa084cf97b1d87cdf0b344031399d8c0fc", func := "stele/stelelaw14.AuditNexts", spec := "auditNexts", unfollowed := true, recurses := true, apart := false, narrowed := true }
def AuditNextsUptoSaid : Prop := auditNextsUptoRow.holds Try.pinned (OpenSpec.upto auditNextsSpec)

/-- 'stelelaw14.AuditVerifies', WHERE WHAT IT READS IS OF BULK AT MOST 1048576: true; the input reads as it did. -/
def auditVerifiesUptoRow : OpenClaim := { program := "ytbclhaleibjkgaa", sum := "7275237ba2b7bb339900bb6316065baa084cf97b1d87cdf0b344031399d8c0fc", func := "stele/stelelaw14.AuditVerifies", spec := "auditVerifies", unfollowed := true, recurses := true, apart := false, narrowed := true }
def AuditVerifiesUptoSaid : Prop := auditVerifiesUptoRow.holds Try.pinned (OpenSpec.upto auditVerifiesSpec)

/-- 'stelelaw14.AuditCollides', WHERE WHAT IT READS IS OF BULK AT MOST 1048576: true; the input reads as it did. -/
def auditCollidesUptoRow : OpenClaim := { program := "ytbclhaleibjkgaa", sum := "7275237ba2b7bb339900bb6316065baa084cf97b1d87cdf0b344031399d8c0fc", func := "stele/stelelaw14.AuditCollides", spec := "auditCollides", unfollowed := true, recurses := true, apart := false, narrowed := true }
def AuditCollidesUptoSaid : Prop := auditCollidesUptoRow.holds Try.pinned (OpenSpec.upto auditCollidesSpec)

/-- 'stelelaw14.AuditBack', WHERE WHAT IT READS IS OF BULK AT MOST 1048576: true; the input reads as it did. -/
def auditBackUptoRow : OpenClaim := { program := "ytbclhaleibjkgaa", sum := "7275237ba2b7bb339900bb6316065baa084cf97b1d87cdf0b344031399d8c0fc", func := "stele/stelelaw14.AuditBack", spec := "auditBack", inPlace := ["sync/atomic.LoadUint32", "sync/atomic.StoreUint32"], unfollowed := true, recurses := true, apart := false, narrowed := true }
def AuditBackUptoSaid : Prop := auditBackUptoRow.holds Try.pinned (OpenSpec.upto auditBackSpec)

end Rows
end Go.Proofs.Ytbclhaleibjkgaa
