/- What the statements' alive answers. · A builder that the call has made: what is written, how long it is, its text; other blocks stay. -/
import Derived.Test.YtihfpoclflppnaaDoorP8h
import Derived.Test.YtihfpoclflppnaaDoorP8d
import Derived.Test.YtihfpoclflppnaaDoorShelf4
import Derived.Test.YtihfpoclflppnaaDoorBlk
import Derived.Test.YtihfpoclflppnaaDoorB2
import Derived.Shelf.Strings.BuilderK
namespace Go.Proofs.YtihfpoclflppnaaDoor
open Go.RowKit

def exT : List UInt8 := [97, 108, 108, 111, 119, 32, 97, 110, 110, 32, 103, 101, 116, 32, 98, 47, 42, 59, 100, 101, 110, 121, 32, 42, 32, 100, 101, 108, 101, 116, 101, 32, 42]
def exR : List Ru := [⟨false, [97, 110, 110], [103, 101, 116], [98, 47, 42]⟩, ⟨true, [42], [100, 101, 108, 101, 116, 101], [42]⟩]
theorem exParOk : parOk exT = true := by decide +kernel
theorem exPar : parR exT = exR := by
  unfold parR
  rw [if_pos exParOk]
  rfl
theorem exParE : parE exT = 0 := by unfold parE; rw [if_pos exParOk]
theorem exMay1 : mayR exR false [97, 110, 110] [103, 101, 116] [98, 47, 107] = true := by decide +kernel
theorem exMay2 : mayR exR true [114, 111, 111, 116] [100, 101, 108, 101, 116, 101] [98, 47, 107] = false := by decide +kernel
theorem exSmall : SmallR exR := fun i hi => by
  obtain rfl | rfl : i = 0 ∨ i = 1 := by have : i < 2 := hi; omega
  · decide
  · decide

set_option maxRecDepth 20000 in
set_option maxHeartbeats 1000000 in
theorem lawAlive8 (w : World) (hm : MxS w) :
    Calls Tryd.prog 10 #[] w fun e w' => e = .returned (.bool true) ∧ Below w.heap.size w w' := by
  have HP := codParse8 exT w hm (by decide)
  rw [exParE, exPar] at HP
  change Calls Tryd.prog _ #[.string ⟨#[97, 108, 108, 111, 119, 32, 97, 110, 110, 32, 103, 101, 116, 32, 98, 47, 42, 59, 100, 101, 110, 121, 32, 42, 32, 100, 101, 108, 101, 116, 101, 32, 42]⟩] _ _ at HP
  have HM1 : ∀ W a cap, IsRs W a 2 cap exR → Calls Tryd.prog 22 #[.slice a 2 cap, .bool false, .string ⟨#[97, 110, 110]⟩, .string ⟨#[103, 101, 116]⟩, .string ⟨#[98, 47, 107]⟩] W fun e w' => e = .returned (.bool true) ∧ Below W.heap.size W w' := fun W a cap h => by
    have := codMay8 a 2 cap exR false [97, 110, 110] [103, 101, 116] [98, 47, 107] W h exSmall (by omega) (by decide) (by decide) (by decide)
    rw [exMay1] at this; exact this
  have HM2 : ∀ W a cap, IsRs W a 2 cap exR → Calls Tryd.prog 22 #[.slice a 2 cap, .bool true, .string ⟨#[114, 111, 111, 116]⟩, .string ⟨#[100, 101, 108, 101, 116, 101]⟩, .string ⟨#[98, 47, 107]⟩] W fun e w' => e = .returned (.bool false) ∧ Below W.heap.size W w' := fun W a cap h => by
    have := codMay8 a 2 cap exR true [114, 111, 111, 116] [100, 101, 108, 101, 116, 101] [98, 47, 107] W h exSmall (by omega) (by decide) (by decide) (by decide)
    rw [exMay2] at this; exact this
  go_enter Tryd.func10, Tryd.ntmps10
  go_wp2_with fail
  refine HP.mono ?_
  rintro e x1 ⟨v, rfl, ho, t1⟩
  obtain ⟨a, cap, rfl, hi⟩ := ho.isRs
  have hi : IsRs x1 a 2 cap exR := hi
  clear ho HP
  change _ at *
  go_wp2_with fail
  refine (HM1 _ _ _ hi).mono ?_
  rintro e x2 ⟨rfl, t2⟩
  have hi2 := hi.below t2 rfl
  have T2 := t1.trans (t2.mono t1.size)
  go_wp2_with fail
  refine (HM2 _ _ _ hi2).mono ?_
  rintro e x3 ⟨rfl, t3⟩
  have T3 := T2.trans (t3.mono T2.size)
  go_wp2_with fail
  go_ret
  exact ⟨rfl, T3⟩
end Go.Proofs.YtihfpoclflppnaaDoor
namespace Go.Proofs.YtihfpoclflppnaaDoor
open Go.RowKit

abbrev IsBd (b : Nat) (l : List UInt8) (w : World) : Prop := Lib.IsBuilderF 61 5 b b (Lib.byteCells l) w
theorem IsBd.below {b n : Nat} {l : List UInt8} {w w' : World} (h : IsBd b l w) (hb : Below n w w') (hn : n = w.heap.size) : IsBd b l w' := by
  subst hn
  have go : ∀ p, Lib.BuilderAtF 61 5 b b p (Lib.byteCells l) w → Lib.BuilderAtF 61 5 b b p (Lib.byteCells l) w' := fun p h => by
    obtain ⟨h1, v, h2, h3, h4⟩ := h
    refine ⟨h1, v, ?_, ⟨h3.1, ?_⟩, h4⟩
    · rw [hb.block b (Array.getElem?_eq_some_iff.1 h2).1]; exact h2
    · rcases h3.2 with h5 | ⟨g, cap, cur, fz, e3, e4, e5, e6⟩
      · exact .inl h5
      · exact .inr ⟨g, cap, cur, fz, e3, e4, by rw [hb.block g (Array.getElem?_eq_some_iff.1 e5).1]; exact e5, e6⟩
  rcases h with h | h
  · exact .inl (go _ h)
  · exact .inr (go _ h)
theorem bd_new (w : World) : IsBd w.heap.size [] (w.alloc (.cells #[.pointer none, .slice none 0 0] 61)) :=
  Lib.IsBuilderF.of (.inl ⟨Nat.le_refl _, .slice none 0 0, heap_alloc_new w _, World.ownsRow_nil _ _ _ _, by simp [Value.ownBlock]⟩)
theorem bd_write (b : Nat) (l s : List UInt8) (w : World) (h : IsBd b l w) (hlen : l.length + s.length ≤ 140737488355328) (hB : b ≤ w.heap.size) :
    Calls Tryd.prog 28 #[.pointer (some ⟨b, 0, none⟩), .string (str s)] w fun e w' => e = .returned (.tuple #[.int .i64 (str s).size, .nilIface]) ∧ IsBd b (l ++ s) w' ∧ Below b w w' ∧ Lib.OthersKept 5 (some b) w w' := by
  have hc := Any.Builder_WriteString_k { Tryd.lays156 with } Tryd.Builder_Extra_156 b b (Lib.byteCells l) (str s) w h (by rw [Lib.byteCells_length, str_size]; exact hlen) hB
  change Calls Tryd.prog 28 _ _ _ at hc
  refine hc.mono ?_
  rintro e w' ⟨rfl, h1, h2, h3⟩
  rw [Lib.strCells_eq, str_list, ← Lib.byteCells_append] at h1
  exact ⟨rfl, .inr h1, h2, h3⟩
theorem bd_len (b : Nat) (l : List UInt8) (w : World) (h : IsBd b l w) :
    Calls Tryd.prog 31 #[.pointer (some ⟨b, 0, none⟩)] w fun e w' => e = .returned (.int .i64 (l.length : Int)) ∧ w' = w := by
  have hc := Any.Builder_Len_f Tryd.lays170 b b (Lib.byteCells l) w h
  change Calls Tryd.prog 31 _ _ _ at hc
  rw [Lib.byteCells_length] at hc
  exact hc
theorem bd_text (b : Nat) (l : List UInt8) (w : World) (h : IsBd b l w) (h0 : l ≠ []) :
    Calls Tryd.prog 32 #[.pointer (some ⟨b, 0, none⟩)] w fun e w' => e = .returned (.string (str l)) ∧ Below b w w' := by
  have hc := Any.Builder_String_k Tryd.lays169 Tryd.Builder_Extra_169 b b l w h h0
  change Calls Tryd.prog 32 _ _ _ at hc
  refine hc.mono ?_
  rintro e w' ⟨rfl, _, h2, _⟩
  exact ⟨rfl, h2⟩
theorem bd_none (w : World) :
    Calls Tryd.prog 32 #[.pointer (some ⟨w.heap.size, 0, none⟩)] (w.alloc (.cells #[.pointer none, .slice none 0 0] 61)) fun e w' => e = .returned (.string ⟨#[]⟩) ∧ Below w.heap.size (w.alloc (.cells #[.pointer none, .slice none 0 0] 61)) w' := by
  have hc := Tryd.Builder_String_empty w.heap.size w.heap.size (w.alloc (.cells #[.pointer none, .slice none 0 0] 61)) (.inl ⟨Nat.le_refl _, .slice none 0 0, heap_alloc_new w _, World.ownsRow_nil _ _ _ _, by simp [Value.ownBlock]⟩) (by simp)
  exact hc
/-- a block of rules' cells stays -/
theorem Blk.others {w w' : World} {B b : Nat} {cs : List Value} (h : Blk w B 37 cs) (hk : Lib.OthersKept 5 (some b) w w') (hne : B ≠ b) : Blk w' B 37 cs :=
  hk B _ h (fun e => hne (Option.some.inj e)) (fun c fz e => by
    injection e with _ h2 _
    exact absurd h2 (by decide))
end Go.Proofs.YtihfpoclflppnaaDoor
