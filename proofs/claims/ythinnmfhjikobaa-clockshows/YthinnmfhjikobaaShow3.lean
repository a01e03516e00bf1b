/- Show and Date of the code and of the document: one answer. -/
import Derived.Test.YthinnmfhjikobaaCodShow
import Derived.Test.YthinnmfhjikobaaRefShow
namespace Go.Proofs.Ythinnmfhjikobaa
open Go.RowKit

theorem show_both (t : Nat) (ht : t < 18446744073709551616) : ∃ S E, ShownAs t S E ∧
    (∀ w, Calls Try.prog 13 #[.int .u64 (t : Int)] w fun e w' => e = .returned (.tuple #[.string ⟨S.toArray⟩, .int .i64 E]) ∧ Below w.heap.size w w') ∧
    (∀ w, Calls Try.prog 14 #[.int .u64 (t : Int)] w fun e w' => e = .returned (.tuple #[.string ⟨S.toArray⟩, .int .i64 E]) ∧ Below w.heap.size w w') := by
  by_cases h : 253402300799 < t
  · exact ⟨[], 6, .inl ⟨h, rfl, rfl⟩, fun w => codShow_out t w h, fun w => refShow_out t w ht h⟩
  · obtain ⟨y, m, d, hd⟩ := exists_date (t / 86400 + 719162) (by omega)
    exact ⟨_, 0, .inr ⟨by omega, IsTime.of hd, rfl⟩, fun w => codShow_in t y m d w (by omega) hd, fun w => refShow_in t y m d w (by omega) hd⟩

set_option maxHeartbeats 400000 in
theorem codDate (t : Nat) (S : List UInt8) (E : Int) (w : World) (hS : (S = [] ∧ E = 6) ∨ (S.length = 16 ∧ E = 0))
    (h : ∀ w, Calls Try.prog 13 #[.int .u64 (t : Int)] w fun e w' => e = .returned (.tuple #[.string ⟨S.toArray⟩, .int .i64 E]) ∧ Below w.heap.size w w') :
    Calls Try.prog 15 #[.int .u64 (t : Int)] w fun e w' => e = .returned (.tuple #[.string ⟨(S.take 8).toArray⟩, .int .i64 E]) ∧ Below w.heap.size w w' := by
  rcases hS with ⟨rfl, rfl⟩ | ⟨hl, rfl⟩
  · go_enter Try.func15, Try.ntmps15
    go_wp2_with fail
    refine (h w).mono ?_
    rintro e x ⟨rfl, b⟩
    clear h
    go_wp2
    go_ret2
    exact ⟨rfl, b⟩
  · have hz : (ByteArray.mk S.toArray).size = 16 := hl
    have HX : Hid ((ByteArray.mk S.toArray).extract 0 8 = ByteArray.mk (S.take 8).toArray) := by
      unfold Hid
      apply ByteArray.ext
      simp [ByteArray.data_extract]
    clear hl
    generalize ByteArray.mk S.toArray = s at *
    go_enter Try.func15, Try.ntmps15
    go_wp2_with fail
    refine (h w).mono ?_
    rintro e x ⟨rfl, b⟩
    clear h
    go_wp2
    go_ret2
    exact ⟨congrArg (fun z => Ending.returned (.tuple #[.string z, .int .i64 0])) HX.out, b⟩

set_option maxHeartbeats 400000 in
theorem refDate (t : Nat) (S : List UInt8) (E : Int) (w : World) (hS : (S = [] ∧ E = 6) ∨ (S.length = 16 ∧ E = 0))
    (h : ∀ w, Calls Try.prog 14 #[.int .u64 (t : Int)] w fun e w' => e = .returned (.tuple #[.string ⟨S.toArray⟩, .int .i64 E]) ∧ Below w.heap.size w w') :
    Calls Try.prog 16 #[.int .u64 (t : Int)] w fun e w' => e = .returned (.tuple #[.string ⟨(S.take 8).toArray⟩, .int .i64 E]) ∧ Below w.heap.size w w' := by
  rcases hS with ⟨rfl, rfl⟩ | ⟨hl, rfl⟩
  · go_enter Try.func16, Try.ntmps16
    go_wp2_with fail
    refine (h w).mono ?_
    rintro e x ⟨rfl, b⟩
    clear h
    go_wp2
    go_ret2
    exact ⟨rfl, b⟩
  · have hz : (ByteArray.mk S.toArray).size = 16 := hl
    have HX : Hid ((ByteArray.mk S.toArray).extract 0 8 = ByteArray.mk (S.take 8).toArray) := by
      unfold Hid
      apply ByteArray.ext
      simp [ByteArray.data_extract]
    clear hl
    generalize ByteArray.mk S.toArray = s at *
    go_enter Try.func16, Try.ntmps16
    go_wp2_with fail
    refine (h w).mono ?_
    rintro e x ⟨rfl, b⟩
    clear h
    go_wp2
    go_ret2
    exact ⟨congrArg (fun z => Ending.returned (.tuple #[.string z, .int .i64 0])) HX.out, b⟩
end Go.Proofs.Ythinnmfhjikobaa
