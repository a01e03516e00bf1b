/- What the document's Stable, Read and Arm answer. -/
import Derived.Test.YtjmgodlefaadoaaDk2
namespace Go.Proofs.Ytjmgodlefaadoaa
open Go.RowKit

def inR (n : Nat) (i : Int) : Bool := decide (0 ≤ i ∧ i < n)
def stE (r : Rd) (i : Int) : Int := if inR r.n i = true then 0 else 50
def stB (r : Rd) (i : Int) : List UInt8 := if inR r.n i = true then stableOf r.S i.toNat else []
def rdE (r : Rd) (i : Int) : Int := if r.off = true then 51 else stE r i
def rdB (r : Rd) (i : Int) : List UInt8 := if r.off = true then [] else if inR r.n i = true then readOf r.S r.C i.toNat else []
theorem ret_v9 {v : Value} {e e' : Int} (h : e = e') : Ending.returned (.tuple #[v, .int .i64 e]) = .returned (.tuple #[v, .int .i64 e']) := by rw [h]
/-- how many writes there may be -/
def Few (r : Rd) : Prop := r.S.length ≤ 1000000 ∧ r.C.length ≤ 1000000

set_option maxRecDepth 20000 in
set_option maxHeartbeats 1000000 in
theorem refStable9 (D base : Nat) (r : Rd) (vS vC : Value) (i : Int) (w : World) (h : IsRD w D base r vS vC) (hf : Few r) :
    Calls Try.prog 29 #[.pointer (some ⟨D, 0, none⟩), .int .i64 i] w fun e w' => ∃ v, e = .returned (.tuple #[v, .int .i64 (stE r i)]) ∧ OwnB w' w.heap.size v (stB r i) ∧ Below w.heap.size w w' := by
  have HI := refIs9 D r.n i w (h.blk.cell 0)
  change Calls Try.prog _ _ w (fun e w' => e = .returned (.bool (inR r.n i)) ∧ w' = w) at HI
  have c1 : w.cell? ⟨D, 1, none⟩ = some vS := h.blk.cell 1
  cases hb : inR r.n i with
  | false =>
    rw [hb] at HI
    have Q1 : Hid (stE r i = 50) := by unfold Hid stE; rw [hb]; rfl
    have Q2 : Hid (stB r i = []) := by unfold Hid stB; rw [hb]; rfl
    clear hb
    go_enter Try.func29, Try.ntmps29
    go_wp2_with fail
    refine HI.mono ?_
    rintro e w' ⟨rfl, hw⟩
    obtain rfl := hw.symm
    go_wp2_with fail
    go_ret2
    exact ⟨_, ret_v9 Q1.out.symm, by rw [Q2.out]; exact OwnB.nil _ _, Below.refl _ _⟩
  | true =>
    rw [hb] at HI
    have Q1 : Hid (stE r i = 0) := by unfold Hid stE; rw [hb]; rfl
    have Q2 : Hid (stB r i = stableOf r.S i.toNat) := by unfold Hid stB; rw [hb]; rfl
    have hz : ((i.toNat : Nat) : Int) = i := by unfold inR at hb; have := of_decide_eq_true hb; omega
    have HL := refLast9 vS r.S base i.toNat w h.ownS h.bS (by have := hf.1; omega)
    rw [hz] at HL
    obtain ⟨a, cap, rfl, _⟩ := h.ownS.form
    clear hb hz
    change Calls Try.prog _ _ w (fun e w' => ∃ v', e = _ ∧ OwnB w' w.heap.size v' (stableOf r.S i.toNat) ∧ _) at HL
    generalize stableOf r.S i.toNat = sb1 at *
    generalize (lastW r.S i.toNat).isSome = hs at *
    go_enter Try.func29, Try.ntmps29
    go_wp2_with fail
    refine HI.mono ?_
    rintro e w' ⟨rfl, hw⟩
    obtain rfl := hw.symm
    go_wp2_with fail
    refine HL.mono ?_
    rintro e w2 ⟨v', rfl, ho, hb2⟩
    go_wp2_with fail
    go_ret2
    exact ⟨_, ret_v9 Q1.out.symm, by rw [Q2.out]; exact ho, hb2⟩

set_option maxRecDepth 20000 in
set_option maxHeartbeats 1000000 in
theorem refRead9 (D base : Nat) (r : Rd) (vS vC : Value) (i : Int) (w : World) (h : IsRD w D base r vS vC) (hf : Few r) :
    Calls Try.prog 25 #[.pointer (some ⟨D, 0, none⟩), .int .i64 i] w fun e w' => ∃ v, e = .returned (.tuple #[v, .int .i64 (rdE r i)]) ∧ OwnB w' w.heap.size v (rdB r i) ∧ Below w.heap.size w w' := by
  have HI := refIs9 D r.n i w (h.blk.cell 0)
  change Calls Try.prog _ _ w (fun e w' => e = .returned (.bool (inR r.n i)) ∧ w' = w) at HI
  have c2 : w.cell? ⟨D, 2, none⟩ = some vC := h.blk.cell 2
  have c3 : w.cell? ⟨D, 3, none⟩ = some (.bool r.off) := h.blk.cell 3
  cases ho : r.off with
  | true =>
    rw [ho] at c3
    have Q1 : Hid (rdE r i = 51) := by unfold Hid rdE; rw [ho]; rfl
    have Q2 : Hid (rdB r i = []) := by unfold Hid rdB; rw [ho]; rfl
    clear ho
    go_enter Try.func25, Try.ntmps25
    go_wp2_with fail
    go_ret2
    exact ⟨_, ret_v9 Q1.out.symm, by rw [Q2.out]; exact OwnB.nil _ _, Below.refl _ _⟩
  | false =>
    rw [ho] at c3
    cases hb : inR r.n i with
    | false =>
      rw [hb] at HI
      have Q1 : Hid (rdE r i = 50) := by unfold Hid rdE stE; rw [ho, hb]; rfl
      have Q2 : Hid (rdB r i = []) := by unfold Hid rdB; rw [ho, hb]; rfl
      clear ho hb
      go_enter Try.func25, Try.ntmps25
      go_wp2_with fail
      refine HI.mono ?_
      rintro e w' ⟨rfl, hw⟩
      obtain rfl := hw.symm
      go_wp2_with fail
      go_ret2
      exact ⟨_, ret_v9 Q1.out.symm, by rw [Q2.out]; exact OwnB.nil _ _, Below.refl _ _⟩
    | true =>
      rw [hb] at HI
      have Q1 : Hid (rdE r i = 0) := by unfold Hid rdE stE; rw [ho, hb]; rfl
      have Q2 : Hid (rdB r i = readOf r.S r.C i.toNat) := by unfold Hid rdB; rw [ho, hb]; rfl
      have hz : ((i.toNat : Nat) : Int) = i := by unfold inR at hb; have := of_decide_eq_true hb; omega
      have HL := refLast9 vC r.C base i.toNat w h.ownC h.bC (by have := hf.2; omega)
      rw [hz] at HL
      have HSt : ∀ W, Below w.heap.size w W → Calls Try.prog 29 #[.pointer (some ⟨D, 0, none⟩), .int .i64 i] W fun e w' => ∃ v, e = .returned (.tuple #[v, .int .i64 0]) ∧ OwnB w' W.heap.size v (stableOf r.S i.toNat) ∧ Below W.heap.size W w' := fun W hW => by
        have := refStable9 D base r vS vC i W (h.on hW) hf
        have e1 : stE r i = 0 := by unfold stE; rw [hb]; rfl
        have e2 : stB r i = stableOf r.S i.toNat := by unfold stB; rw [hb]; rfl
        rw [e1, e2] at this; exact this
      obtain ⟨a, cap, rfl, _⟩ := h.ownC.form
      have HRd : Hid (readOf r.S r.C i.toNat = (lastW r.C i.toNat).getD (stableOf r.S i.toNat)) := rfl
      clear hb hz ho
      cases hl : lastW r.C i.toNat with
      | some b =>
        rw [hl] at HL
        have HV : Hid (readOf r.S r.C i.toNat = b) := by unfold Hid; rw [HRd.out, hl]; rfl
        clear hl HRd HSt
        change Calls Try.prog _ _ w (fun e w' => ∃ v', e = .returned (.tuple #[v', .bool true]) ∧ OwnB w' w.heap.size v' b ∧ _) at HL
        go_enter Try.func25, Try.ntmps25
        go_wp2_with fail
        refine HI.mono ?_
        rintro e w' ⟨rfl, hw⟩
        obtain rfl := hw.symm
        go_wp2_with fail
        refine HL.mono ?_
        rintro e w2 ⟨v', rfl, ho, hb2⟩
        go_wp2_with fail
        go_ret2
        exact ⟨_, ret_v9 Q1.out.symm, by rw [Q2.out, HV.out]; exact ho, hb2⟩
      | none =>
        rw [hl] at HL
        have HV : Hid (readOf r.S r.C i.toNat = stableOf r.S i.toNat) := by unfold Hid; rw [HRd.out, hl]; rfl
        clear hl HRd
        change Calls Try.prog _ _ w (fun e w' => ∃ v', e = .returned (.tuple #[v', .bool false]) ∧ OwnB w' w.heap.size v' zero512 ∧ _) at HL
        go_enter Try.func25, Try.ntmps25
        go_wp2_with fail
        refine HI.mono ?_
        rintro e w' ⟨rfl, hw⟩
        obtain rfl := hw.symm
        go_wp2_with fail
        refine HL.mono ?_
        rintro e w2 ⟨v', rfl, _, hb2⟩
        go_wp2_with fail
        refine (HSt _ hb2).mono ?_
        rintro e w3 ⟨v3, rfl, ho3, hb3⟩
        go_wp2_with fail
        go_ret2
        exact ⟨_, ret_v9 Q1.out.symm, by rw [Q2.out, HV.out]; exact ho3.base hb2.size, hb2.trans (hb3.mono hb2.size)⟩
end Go.Proofs.Ytjmgodlefaadoaa
