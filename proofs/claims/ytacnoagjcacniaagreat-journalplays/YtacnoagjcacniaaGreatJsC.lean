/- JournalPlays: how both sides stand within a transaction. -/
import Derived.Test.YtacnoagjcacniaaGreatJs7
namespace Go.Proofs.YtacnoagjcacniaaGreat
open Go.RowKit

theorem flush_up {p : Pl} (h : p.flE = 0) : p.flush.off = false := by
  unfold Pl.flE at h
  unfold Pl.flush
  cases ho : p.off with
  | true => rw [ho] at h; cases h
  | false => simp
theorem steps_up : ∀ (l : Qs) (p : Pl), stepsE p l = 0 → (stepsP p l).off = false := by
  intro l
  induction l with
  | nil => intro p h; exact flush_up h
  | cons g l ih =>
    intro p h
    rw [stepsE] at h
    rw [stepsP]
    split at h
    · rename_i hz
      rw [if_pos hz]
      exact ih _ h
    · rename_i hz
      exact absurd h hz
theorem mount_up {p : Pl} (h : mountE p = 0) : (mountP p).off = false := by
  unfold mountE at h
  unfold mountP
  split at h
  · rename_i hz; exact absurd h hz
  · rename_i hz
    rw [if_neg hz]
    have h0 : p.off = false := by
      cases ho : p.off with
      | false => rfl
      | true =>
        have e : p.rdE 0 = 51 := by unfold Pl.rdE; rw [ho]; rfl
        exact absurd (by rw [e]; decide) hz
    cases hh : heldJ p with
    | none => exact h0
    | some q =>
      obtain ⟨s, l⟩ := q
      rw [hh] at h
      exact steps_up l p h
theorem cmT_twice (t : Tl) (j : Jl) : cmT (cmT t j) (cmJ t j) = cmT t j := by
  by_cases h : t.over = true ∨ j.dead = true
  · have e1 : cmT t j = t := by unfold cmT; rw [if_pos h]
    have e2 : cmJ t j = j := by unfold cmJ; rw [if_pos h]
    rw [e1, e2]
    exact e1
  · have e1 : (cmT t j).over = true := by unfold cmT; rw [if_neg h]
    generalize cmJ t j = k
    generalize cmT t j = u at *
    unfold cmT
    rw [if_pos (.inl e1)]
abbrev UQ : List TypeId := [4, 5, 38, 48]
/-- what the statement's own data ask of a call -/
structure KQ (base : Nat) (w w' : World) : Prop where
  o : KeepO UQ w w'
  b : Below base w w'
theorem KQ.refl (base : Nat) (w : World) : KQ base w w := ⟨KeepO.refl _ _, Below.refl _ _⟩
theorem KQ.trans {base : Nat} {a b c : World} (h : KQ base a b) (k : KQ base b c) : KQ base a c := ⟨h.o.trans k.o, h.b.trans k.b⟩
theorem KQ.ofP {base : Nat} {w w' : World} (h : KP base w w') : KQ base w w' := ⟨h.o.less (by decide), h.b⟩
theorem KQ.ofC {base : Nat} {w w' : World} (h : KeepT CT w w') (hb : Below base w w') : KQ base w w' := ⟨KeepO.ofT h (by decide), hb⟩
theorem KQ.of_below {base : Nat} {w w' : World} (h : Below w.heap.size w w') (hb : base ≤ w.heap.size) : KQ base w w' := ⟨KeepO.of_below h, h.mono hb⟩
/-- both transactions -/
structure TB (TA : World → Nat → Nat → Nat → Nat → Tl → Jl → Prop) (w : World) (T U J K P D base m : Nat) (t : Tl) (j : Jl) : Prop where
  ta : TA w T J P base t j
  rt : ∃ vL ls, RefT w U K D base m vL ls t j
theorem TB.len {TA : World → Nat → Nat → Nat → Nat → Tl → Jl → Prop} {w : World} {T U J K P D base m : Nat} {t : Tl} {j : Jl} (h : TB TA w T U J K P D base m t j) : t.l.length ≤ 48 := by obtain ⟨_, _, h⟩ := h.rt; exact h.len
theorem TB.few {TA : World → Nat → Nat → Nat → Nat → Tl → Jl → Prop} {w : World} {T U J K P D base m : Nat} {t : Tl} {j : Jl} (h : TB TA w T U J K P D base m t j) : FewM j.p m := by obtain ⟨_, _, h⟩ := h.rt; exact h.few
theorem TB.seq {TA : World → Nat → Nat → Nat → Nat → Tl → Jl → Prop} {w : World} {T U J K P D base m : Nat} {t : Tl} {j : Jl} (h : TB TA w T U J K P D base m t j) : j.seq < 18446744073709551616 := by obtain ⟨_, _, h⟩ := h.rt; exact h.seq
theorem TB.low {TA : World → Nat → Nat → Nat → Nat → Tl → Jl → Prop} {w : World} {T U J K P D base m : Nat} {t : Tl} {j : Jl} (h : TB TA w T U J K P D base m t j) : base ≤ w.heap.size := by obtain ⟨_, _, h⟩ := h.rt; exact h.low
theorem TB.on {JA : World → Nat → Nat → Nat → Jl → Prop} {TA : World → Nat → Nat → Nat → Nat → Tl → Jl → Prop} (ok : JrnOK JA TA) {w w' : World} {T U J K P D base m : Nat} {t : Tl} {j : Jl} (h : TB TA w T U J K P D base m t j) (hb : Below w.heap.size w w') : TB TA w' T U J K P D base m t j := by
  obtain ⟨vL, ls, hr⟩ := h.rt
  exact ⟨ok.keepT h.ta (KeepT.of_below hb), vL, ls, hr.on hb⟩
/-- the cell of the document's list of sectors -/
theorem RefT.cellL {w : World} {U K D base m : Nat} {vL : Value} {ls : List Wg} {t : Tl} {j : Jl} (h : RefT w U K D base m vL ls t j) : ∃ a n c, n = t.l.length ∧ vL = .slice a n c ∧ w.cell? ⟨U, 1, none⟩ = some (.slice a n c) := by
  obtain ⟨a, c, e, _⟩ := h.rt.gs.own.form
  have hl : ls.length = t.l.length := by rw [← h.ls, List.length_map]
  refine ⟨a, _, c, hl, e, ?_⟩
  have := h.rt.blk.cell 1
  rw [e] at this
  exact this
theorem refWriteV {w : World} {U K D base m : Nat} {vL : Value} {ls : List Wg} {t : Tl} {j : Jl} {base' : Nat} {v : Value} {b : List UInt8} (h : RefT w U K D base m vL ls t j) (i : Int) (hv : OwnB w base' v b) :
    Calls Tryz.prog 17 #[.pointer (some ⟨U, 0, none⟩), .int .i64 i, v] w fun e w' => e = .returned (.int .i64 (t.wrE j i b)) ∧ Hid (∃ vL' ls', RefT w' U K D base m vL' ls' (t.write j i b) j) ∧ Hid (KeepT CT w w') ∧ Hid (Below base w w') := by
  obtain ⟨ba, bc, rfl, hB⟩ := hv.isB
  exact h.write i hB
end Go.Proofs.YtacnoagjcacniaaGreat
