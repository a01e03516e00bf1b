/-
  No cell of these rows narrows 'for every input' (looked for: loops, veiled, ifaces, maps, wideKeys, modest, calm, conditions, laid).
  DERIVED. THE GIVEN ROWS OF THIS SEAT. 6 by the template 'for every input the law returns true; each argument reads behind the call as it read before'; 0 by the template 'total and deterministic' (their statements: YtonndplenacgjaaTotals.lean).
  GIVEN WITH THE SEED: the statements are not yours to turn. If you find one false, say at which input.
  Laid BY PROGRAM, IN A SANDBOX (cutbox-rows.mjs): the forced cells as the released guide's own fill.sh prints them over the translation 5344526f4187c922… (all of the seat's roots in one cut). By AI agents, Wed Nov 11 2026. No macro, syntax, notation, axiom, sorry.
-/
import Derived.Test.YtonndplenacgjaaChecked
import GoSem.Claim
import GoSem.ClaimJoined
import GoSem.ClaimMapViews
import Derived.JoinedTies
import Derived.KernelRfl
namespace Go.Proofs.Ytonndplenacgjaa
/- THE CELL 'sum', in the pinned program and in every row, IS THE sha256 OF THE DUMP (.gsa) THAT YtonndplenacgjaaProg.lean LOADS. Nothing in Lean hashes anything: it is a label: what it is worth is what the hold of that sum in a sandbox is worth. -/
noncomputable def Try.pinned : Pinned := { name := "ytonndplenacgjaa", sum := "5344526f4187c922015134af4ab25d46b7a1f4324e23ee286227ee2f6e09e975", checked := Try.checked }
namespace Rows
def none {H : Type} : Left H := { results := [], args := [] }

/-- 'stelelaw02.CanonNumbers': WHATEVER THE INPUT: true; the input reads as it did. -/
def canonNumbersSpec : ChangeSpec := { name := "canonNumbers", fn := fun _ => fun
  | [d1, d2, d3, d4] => { results := [.lit (.bool true)], args := [d1, d2, d3, d4] }
  | _ => none }
def canonNumbersRow : OpenClaim := { program := "ytonndplenacgjaa", sum := "5344526f4187c922015134af4ab25d46b7a1f4324e23ee286227ee2f6e09e975", func := "stele/stelelaw02.CanonNumbers", spec := "canonNumbers", inPlace := ["sync/atomic.LoadUint32", "sync/atomic.StoreUint32"], apart := false }
def CanonNumbersSaid : Prop := canonNumbersRow.holds Try.pinned (OpenSpec.ofChange canonNumbersSpec)

/-- ITS FALSE NEIGHBOUR: 'it returns false'. Refute it at one input. -/
def canonNumbersWrong : ChangeSpec := { name := "canonNumbers", fn := fun _ => fun
  | [d1, d2, d3, d4] => { results := [.lit (.bool false)], args := [d1, d2, d3, d4] }
  | _ => none }
def CanonNumbersWrongFalsely : Prop := canonNumbersRow.holds Try.pinned (OpenSpec.ofChange canonNumbersWrong)

/-- 'stelelaw02.CanonTexts': WHATEVER THE INPUT: true; the input reads as it did. -/
def canonTextsSpec : ChangeSpec := { name := "canonTexts", fn := fun _ => fun
  | [d1, d2, d3] => { results := [.lit (.bool true)], args := [d1, d2, d3] }
  | _ => none }
def canonTextsRow : OpenClaim := { program := "ytonndplenacgjaa", sum := "5344526f4187c922015134af4ab25d46b7a1f4324e23ee286227ee2f6e09e975", func := "stele/stelelaw02.CanonTexts", spec := "canonTexts", inPlace := ["sync/atomic.LoadUint32", "sync/atomic.StoreUint32"], apart := false }
def CanonTextsSaid : Prop := canonTextsRow.holds Try.pinned (OpenSpec.ofChange canonTextsSpec)

/-- ITS FALSE NEIGHBOUR: 'it returns false'. Refute it at one input. -/
def canonTextsWrong : ChangeSpec := { name := "canonTexts", fn := fun _ => fun
  | [d1, d2, d3] => { results := [.lit (.bool false)], args := [d1, d2, d3] }
  | _ => none }
def CanonTextsWrongFalsely : Prop := canonTextsRow.holds Try.pinned (OpenSpec.ofChange canonTextsWrong)

/-- 'stelelaw02.CanonReads': WHATEVER THE INPUT: true; the input reads as it did. -/
def canonReadsSpec : ChangeSpec := { name := "canonReads", fn := fun _ => fun
  | [d1, d2, d3] => { results := [.lit (.bool true)], args := [d1, d2, d3] }
  | _ => none }
def canonReadsRow : OpenClaim := { program := "ytonndplenacgjaa", sum := "5344526f4187c922015134af4ab25d46b7a1f4324e23ee286227ee2f6e09e975", func := "stele/stelelaw02.CanonReads", spec := "canonReads", inPlace := ["sync/atomic.LoadUint32", "sync/atomic.StoreUint32"], apart := false }
def CanonReadsSaid : Prop := canonReadsRow.holds Try.pinned (OpenSpec.ofChange canonReadsSpec)

/-- ITS FALSE NEIGHBOUR: 'it returns false'. Refute it at one input. -/
def canonReadsWrong : ChangeSpec := { name := "canonReads", fn := fun _ => fun
  | [d1, d2, d3] => { results := [.lit (.bool false)], args := [d1, d2, d3] }
  | _ => none }
def CanonReadsWrongFalsely : Prop := canonReadsRow.holds Try.pinned (OpenSpec.ofChange canonReadsWrong)

/-- 'stelelaw02.CanonBack': WHATEVER THE INPUT: true; the input reads as it did. -/
def canonBackSpec : ChangeSpec := { name := "canonBack", fn := fun _ => fun
  | [d] => { results := [.lit (.bool true)], args := [d] }
  | _ => none }
def canonBackRow : OpenClaim := { program := "ytonndplenacgjaa", sum := "5344526f4187c922015134af4ab25d46b7a1f4324e23ee286227ee2f6e09e975", func := "stele/stelelaw02.CanonBack", spec := "canonBack", inPlace := ["sync/atomic.LoadUint32", "sync/atomic.StoreUint32"], apart := false }
def CanonBackSaid : Prop := canonBackRow.holds Try.pinned (OpenSpec.ofChange canonBackSpec)

/-- ITS FALSE NEIGHBOUR: 'it returns false'. Refute it at one input. -/
def canonBackWrong : ChangeSpec := { name := "canonBack", fn := fun _ => fun
  | [d] => { results := [.lit (.bool false)], args := [d] }
  | _ => none }
def CanonBackWrongFalsely : Prop := canonBackRow.holds Try.pinned (OpenSpec.ofChange canonBackWrong)

/-- 'stelelaw02.CanonOne': WHATEVER THE INPUT: true; the input reads as it did. -/
def canonOneSpec : ChangeSpec := { name := "canonOne", fn := fun _ => fun
  | [d1, d2] => { results := [.lit (.bool true)], args := [d1, d2] }
  | _ => none }
def canonOneRow : OpenClaim := { program := "ytonndplenacgjaa", sum := "5344526f4187c922015134af4ab25d46b7a1f4324e23ee286227ee2f6e09e975", func := "stele/stelelaw02.CanonOne", spec := "canonOne", inPlace := ["sync/atomic.LoadUint32", "sync/atomic.StoreUint32"], apart := false }
def CanonOneSaid : Prop := canonOneRow.holds Try.pinned (OpenSpec.ofChange canonOneSpec)

/-- ITS FALSE NEIGHBOUR: 'it returns false'. Refute it at one input. -/
def canonOneWrong : ChangeSpec := { name := "canonOne", fn := fun _ => fun
  | [d1, d2] => { results := [.lit (.bool false)], args := [d1, d2] }
  | _ => none }
def CanonOneWrongFalsely : Prop := canonOneRow.holds Try.pinned (OpenSpec.ofChange canonOneWrong)

/-- 'stelelaw02.CanonNils': WHATEVER THE INPUT: true; the input reads as it did. -/
def canonNilsSpec : ChangeSpec := { name := "canonNils", fn := fun _ => fun
  | [d] => { results := [.lit (.bool true)], args := [d] }
  | _ => none }
def canonNilsRow : OpenClaim := { program := "ytonndplenacgjaa", sum := "5344526f4187c922015134af4ab25d46b7a1f4324e23ee286227ee2f6e09e975", func := "stele/stelelaw02.CanonNils", spec := "canonNils", inPlace := ["sync/atomic.LoadUint32", "sync/atomic.StoreUint32"], apart := false }
def CanonNilsSaid : Prop := canonNilsRow.holds Try.pinned (OpenSpec.ofChange canonNilsSpec)

/-- ITS FALSE NEIGHBOUR: 'it returns false'. Refute it at one input. -/
def canonNilsWrong : ChangeSpec := { name := "canonNils", fn := fun _ => fun
  | [d] => { results := [.lit (.bool false)], args := [d] }
  | _ => none }
def CanonNilsWrongFalsely : Prop := canonNilsRow.holds Try.pinned (OpenSpec.ofChange canonNilsWrong)

/- THE SECOND FORM. 'bulk': how many values and letters a reading holds, each counted each time it is reached (what is shared counts as often as it is met; a slice's spare places count too). A statement '..UptoSaid' is the law's where the arguments, and the package variables that the reading takes, are together of bulk at most 1048576: NARROWER than '..Said'. Prove '..Said' where nothing that the law and all that it calls make is longer than what came in: it says more and counts as full. Else prove '..UptoSaid'. A law counts once. -/
mutual
def uptoBulk {H : Type} : DataW H → Nat
  | .lit (.string bytes) => bytes.length + 1
  | .lit _ => 1
  | .nil => 1
  | .ptr d => uptoBulk d + 1
  | .slice elems spare => uptoBulkAll elems + uptoBulkAll spare + 1
  | .agg parts => uptoBulkAll parts + 1
  | .iface _ d => uptoBulk d + 1
  | .map entries => uptoBulkEntries entries + 1
  | .held _ => 1
def uptoBulkAll {H : Type} : List (DataW H) → Nat
  | [] => 0
  | d :: r => uptoBulk d + uptoBulkAll r
def uptoBulkEntries {H : Type} : List (Lit × DataW H) → Nat
  | [] => 0
  | x :: r => uptoBulkEntry x + uptoBulkEntries r
def uptoBulkEntry {H : Type} : Lit × DataW H → Nat
  | (.string bytes, d) => bytes.length + uptoBulk d + 1
  | (_, d) => uptoBulk d + 1
 end
def uptoSmall : (H : Type) → List (DataW H) → Bool := fun _ ds => decide (uptoBulkAll ds ≤ 1048576)
def OpenSpec.upto (s : _root_.Go.ChangeSpec) : _root_.Go.OpenSpec := { _root_.Go.OpenSpec.ofChange s with cond := some uptoSmall }

/-- 'stelelaw02.CanonNumbers', WHERE WHAT IT READS IS OF BULK AT MOST 1048576: true; the input reads as it did. -/
def canonNumbersUptoRow : OpenClaim := { program := "ytonndplenacgjaa", sum := "5344526f4187c922015134af4ab25d46b7a1f4324e23ee286227ee2f6e09e975", func := "stele/stelelaw02.CanonNumbers", spec := "canonNumbers", inPlace := ["sync/atomic.LoadUint32", "sync/atomic.StoreUint32"], apart := false, narrowed := true }
def CanonNumbersUptoSaid : Prop := canonNumbersUptoRow.holds Try.pinned (OpenSpec.upto canonNumbersSpec)

/-- 'stelelaw02.CanonTexts', WHERE WHAT IT READS IS OF BULK AT MOST 1048576: true; the input reads as it did. -/
def canonTextsUptoRow : OpenClaim := { program := "ytonndplenacgjaa", sum := "5344526f4187c922015134af4ab25d46b7a1f4324e23ee286227ee2f6e09e975", func := "stele/stelelaw02.CanonTexts", spec := "canonTexts", inPlace := ["sync/atomic.LoadUint32", "sync/atomic.StoreUint32"], apart := false, narrowed := true }
def CanonTextsUptoSaid : Prop := canonTextsUptoRow.holds Try.pinned (OpenSpec.upto canonTextsSpec)

/-- 'stelelaw02.CanonReads', WHERE WHAT IT READS IS OF BULK AT MOST 1048576: true; the input reads as it did. -/
def canonReadsUptoRow : OpenClaim := { program := "ytonndplenacgjaa", sum := "5344526f4187c922015134af4ab25d46b7a1f4324e23ee286227ee2f6e09e975", func := "stele/stelelaw02.CanonReads", spec := "canonReads", inPlace := ["sync/atomic.LoadUint32", "sync/atomic.StoreUint32"], apart := false, narrowed := true }
def CanonReadsUptoSaid : Prop := canonReadsUptoRow.holds Try.pinned (OpenSpec.upto canonReadsSpec)

/-- 'stelelaw02.CanonBack', WHERE WHAT IT READS IS OF BULK AT MOST 1048576: true; the input reads as it did. -/
def canonBackUptoRow : OpenClaim := { program := "ytonndplenacgjaa", sum := "5344526f4187c922015134af4ab25d46b7a1f4324e23ee286227ee2f6e09e975", func := "stele/stelelaw02.CanonBack", spec := "canonBack", inPlace := ["sync/atomic.LoadUint32", "sync/atomic.StoreUint32"], apart := false, narrowed := true }
def CanonBackUptoSaid : Prop := canonBackUptoRow.holds Try.pinned (OpenSpec.upto canonBackSpec)

/-- 'stelelaw02.CanonOne', WHERE WHAT IT READS IS OF BULK AT MOST 1048576: true; the input reads as it did. -/
def canonOneUptoRow : OpenClaim := { program := "ytonndplenacgjaa", sum := "5344526f4187c922015134af4ab25d46b7a1f4324e23ee286227ee2f6e09e975", func := "stele/stelelaw02.CanonOne", spec := "canonOne", inPlace := ["sync/atomic.LoadUint32", "sync/atomic.StoreUint32"], apart := false, narrowed := true }
def CanonOneUptoSaid : Prop := canonOneUptoRow.holds Try.pinned (OpenSpec.upto canonOneSpec)

/-- 'stelelaw02.CanonNils', WHERE WHAT IT READS IS OF BULK AT MOST 1048576: true; the input reads as it did. -/
def canonNilsUptoRow : OpenClaim := { program := "ytonndplenacgjaa", sum := "5344526f4187c922015134af4ab25d46b7a1f4324e23ee286227ee2f6e09e975", func := "stele/stelelaw02.CanonNils", spec := "canonNils", inPlace := ["sync/atomic.LoadUint32", "sync/atomic.StoreUint32"], apart := false, narrowed := true }
def CanonNilsUptoSaid : Prop := canonNilsUptoRow.holds Try.pinned (OpenSpec.upto canonNilsSpec)

end Rows
end Go.Proofs.Ytonndplenacgjaa
