/- DiskNils: the walk, over any disk that keeps the document. -/
import Derived.Test.YtjmgodlefaadoaaDk14
namespace Go.Proofs.Ytjmgodlefaadoaa
open Go.RowKit

/-- what a nil disk says -/
structure DiskNil : Prop where
  arm : ∀ (w : World) (z : Int), Calls Try.prog 21 #[.pointer none, .int .i64 z] w fun e w' => (∃ x, e = .returned x) ∧ Below w.heap.size w w'
  crash : ∀ (w : World) (ka : Option Addr) (kn kc : Nat), Calls Try.prog 18 #[.pointer none, .slice ka kn kc] w fun e w' => (∃ x, e = .returned x) ∧ Below w.heap.size w w'
  read : ∀ (w : World) (i : Int), Calls Try.prog 19 #[.pointer none, .int .i64 i] w fun e w' => (∃ v, e = .returned (.tuple #[v, .int .i64 2])) ∧ Below w.heap.size w w'
  stable : ∀ (w : World) (i : Int), Calls Try.prog 22 #[.pointer none, .int .i64 i] w fun e w' => (∃ v, e = .returned (.tuple #[v, .int .i64 2])) ∧ Below w.heap.size w w'
  count : ∀ (w : World) , Calls Try.prog 11 #[.pointer none] w fun e w' => e = .returned (.tuple #[.int .u64 0, .int .u64 0]) ∧ Below w.heap.size w w'
  write : ∀ (w : World) (i : Int) (ba : Option Addr) (bn bc : Nat), Calls Try.prog 15 #[.pointer none, .int .i64 i, .slice ba bn bc] w fun e w' => e = .returned (.int .i64 2) ∧ Below w.heap.size w w'
  flush : ∀ (w : World) , Calls Try.prog 17 #[.pointer none] w fun e w' => e = .returned (.int .i64 2) ∧ Below w.heap.size w w'
  down : ∀ (w : World) , Calls Try.prog 13 #[.pointer none] w fun e w' => e = .returned (.bool true) ∧ Below w.heap.size w w'
  size : ∀ (w : World) , Calls Try.prog 12 #[.pointer none] w fun e w' => e = .returned (.int .i64 0) ∧ Below w.heap.size w w'
  cached : ∀ (w : World) , Calls Try.prog 14 #[.pointer none] w fun e w' => e = .returned (.int .i64 0) ∧ Below w.heap.size w w'

set_option maxRecDepth 20000 in
set_option maxHeartbeats 4000000 in
theorem nils9 {Is : (Nat → Prop) → World → Nat → Nat → Pl → Prop} (all : DiskAll Is) (nl : DiskNil) (z : Int) (ba : Option Addr) (bn bc : Nat) (w : World) :
    Calls Try.prog 6 #[.int .i64 z, .slice ba bn bc] w fun e w' => e = .returned (.bool true) ∧ Below w.heap.size w w' := by
  have HA := fun W => lawAlive9 all W
  have HB0 : Hid (Below w.heap.size w w) := Below.refl _ w
  generalize hbase : w.heap.size = base at *
  have L0 : Hid (base ≤ w.heap.size) := Nat.le_of_eq hbase.symm
  clear hbase
  go_enter Try.func6, Try.ntmps6
  go_wp2_with fail
  refine (nl.arm _ 1).mono ?_
  rintro e x1 ⟨⟨y1, rfl⟩, hb⟩
  have HB1 : Hid (Below base w x1) := HB0.out.trans (hb.mono L0.out)
  have L1 : Hid (base ≤ x1.heap.size) := Nat.le_trans L0.out hb.size
  clear hb HB0 L0
  go_wp2_with fail
  refine (nl.crash _ none 0 0).mono ?_
  rintro e x2 ⟨⟨y2, rfl⟩, hb⟩
  have HB2 : Hid (Below base w x2) := HB1.out.trans (hb.mono L1.out)
  have L2 : Hid (base ≤ x2.heap.size) := Nat.le_trans L1.out hb.size
  clear hb HB1 L1
  go_wp2_with fail
  refine (nl.read _ z).mono ?_
  rintro e x3 ⟨⟨v3, rfl⟩, hb⟩
  have HB3 : Hid (Below base w x3) := HB2.out.trans (hb.mono L2.out)
  have L3 : Hid (base ≤ x3.heap.size) := Nat.le_trans L2.out hb.size
  clear hb HB2 L2
  go_wp2_with fail
  refine (nl.stable _ z).mono ?_
  rintro e x4 ⟨⟨v4, rfl⟩, hb⟩
  have HB4 : Hid (Below base w x4) := HB3.out.trans (hb.mono L3.out)
  have L4 : Hid (base ≤ x4.heap.size) := Nat.le_trans L3.out hb.size
  clear hb HB3 L3
  go_wp2_with fail
  refine (nl.count _).mono ?_
  rintro e x5 ⟨rfl, hb⟩
  have HB5 : Hid (Below base w x5) := HB4.out.trans (hb.mono L4.out)
  have L5 : Hid (base ≤ x5.heap.size) := Nat.le_trans L4.out hb.size
  clear hb HB4 L4
  go_wp2_with fail
  refine (nl.write _ z ba bn bc).mono ?_
  rintro e x6 ⟨rfl, hb⟩
  have HB6 : Hid (Below base w x6) := HB5.out.trans (hb.mono L5.out)
  have L6 : Hid (base ≤ x6.heap.size) := Nat.le_trans L5.out hb.size
  clear hb HB5 L5
  go_wp2_with fail
  refine (nl.flush _).mono ?_
  rintro e x7 ⟨rfl, hb⟩
  have HB7 : Hid (Below base w x7) := HB6.out.trans (hb.mono L6.out)
  have L7 : Hid (base ≤ x7.heap.size) := Nat.le_trans L6.out hb.size
  clear hb HB6 L6
  go_wp2_with fail
  refine (nl.down _).mono ?_
  rintro e x8 ⟨rfl, hb⟩
  have HB8 : Hid (Below base w x8) := HB7.out.trans (hb.mono L7.out)
  have L8 : Hid (base ≤ x8.heap.size) := Nat.le_trans L7.out hb.size
  clear hb HB7 L7
  go_wp2_with fail
  refine (nl.size _).mono ?_
  rintro e x9 ⟨rfl, hb⟩
  have HB9 : Hid (Below base w x9) := HB8.out.trans (hb.mono L8.out)
  have L9 : Hid (base ≤ x9.heap.size) := Nat.le_trans L8.out hb.size
  clear hb HB8 L8
  go_wp2_with fail
  refine (nl.cached _).mono ?_
  rintro e x10 ⟨rfl, hb⟩
  have HB10 : Hid (Below base w x10) := HB9.out.trans (hb.mono L9.out)
  have L10 : Hid (base ≤ x10.heap.size) := Nat.le_trans L9.out hb.size
  clear hb HB9 L9
  go_wp2_with fail
  refine (HA _).mono ?_
  rintro e x11 ⟨rfl, hb⟩
  have HB11 : Hid (Below base w x11) := HB10.out.trans (hb.mono L10.out)
  have L11 : Hid (base ≤ x11.heap.size) := Nat.le_trans L10.out hb.size
  clear hb HB10 L10
  go_wp2_with fail
  go_ret
  exact ⟨rfl, HB11.out⟩
end Go.Proofs.Ytjmgodlefaadoaa
