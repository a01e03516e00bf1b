/- Plain facts: both sides take the same texts for numbers. -/
import Derived.Test.YtbknabmcelknmaaGreatDoorReq5
import Derived.Test.YtbknabmcelknmaaGreatDoorJ6
namespace Go.Proofs.YtbknabmcelknmaaGreatDoor

theorem parseUM_ok (l : List UInt8) : ∀ (acc : Nat), (∀ c ∈ l, isD c = true) → l.foldl (fun n c => n * 10 + vD c) acc ≤ 18446744073709551615 → Lib.parseUintM 18446744073709551615 acc l = .ok (l.foldl (fun n c => n * 10 + vD c) acc) := by
  induction l with
  | nil => intro acc _ _; rfl
  | cons c r ih =>
    intro acc h hv
    have hc := h c (List.mem_cons_self ..)
    unfold isD at hc
    simp only [Bool.and_eq_true, decide_eq_true_eq] at hc
    have hg := val_from r (acc * 10 + vD c)
    rw [List.foldl_cons] at hv ⊢
    have hd : vD c = c.toNat - 48 := rfl
    rw [Lib.parseUintM, if_pos hc, if_neg (by omega), if_neg (by omega), ← hd]
    exact ih _ (fun x hx => h x (List.mem_cons_of_mem _ hx)) hv
theorem parse_ok {l : List UInt8} {most : Nat} (hm : most < 18446744073709551616) (h : NumOk l most) : Lib.parseUintB 64 l = .ok (valL l) := by
  unfold Lib.parseUintB
  rw [if_neg (by intro e; have := h.1; rw [e] at this; simp at this)]
  exact parseUM_ok l 0 h.2.2.2.1 (by have := h.2.2.2.2; unfold valL at this; omega)
theorem vD_lt {c : UInt8} (h : isD c = true) : vD c < 10 ∧ dgB (vD c) = c := by
  unfold isD at h
  simp only [Bool.and_eq_true, decide_eq_true_eq] at h
  have hd : vD c = c.toNat - 48 := rfl
  refine ⟨by omega, UInt8.toNat_inj.1 ?_⟩
  rw [dgB_val, hd]
  omega
theorem dgB_mod (n : Nat) : dgB n = dgB (n % 10) := UInt8.toNat_inj.1 (by rw [dgB_val, dgB_val]; omega)
theorem val_pos {l : List UInt8} (h0 : 1 ≤ l.length) (hd : ∀ c ∈ l, isD c = true) (hz : ¬ nth l 0 = 48) : 1 ≤ valL l := by
  cases l with
  | nil => simp at h0
  | cons c r =>
    have hc : isD c = true := hd c (List.mem_cons_self ..)
    have hn : ¬ c = 48 := hz
    unfold valL
    rw [List.foldl_cons]
    have hg := val_from r (0 * 10 + vD c)
    unfold isD at hc
    simp only [Bool.and_eq_true, decide_eq_true_eq] at hc
    have h48 : ¬ c.toNat = 48 := fun e => hn (UInt8.toNat_inj.1 e)
    have hv : vD c = c.toNat - 48 := rfl
    omega
theorem digits_val (l : List UInt8) : 1 ≤ l.length → (1 < l.length → ¬ nth l 0 = 48) → (∀ c ∈ l, isD c = true) → digitsL (valL l) = l := by
  refine snoc_ind (P := fun l => 1 ≤ l.length → (1 < l.length → ¬ nth l 0 = 48) → (∀ c ∈ l, isD c = true) → digitsL (valL l) = l) ?_ ?_ l
  · intro h; simp at h
  · intro l c ih _ hz hd
    obtain ⟨hc1, hc2⟩ := vD_lt (hd c (List.mem_append_right _ (List.mem_singleton.2 rfl)))
    rw [valL_snoc]
    by_cases hl : l = []
    · subst hl
      have : valL [] = 0 := rfl
      rw [this, Nat.zero_mul, Nat.zero_add, digitsL_small hc1, hc2]; rfl
    · have hlen : 1 ≤ l.length := List.length_pos_iff.2 hl
      have hn0 : nth (l ++ [c]) 0 = nth l 0 := by
        cases l with
        | nil => exact absurd rfl hl
        | cons x r => rfl
      have hz' : ¬ nth l 0 = 48 := by rw [← hn0]; exact hz (by simp; omega)
      have hd' : ∀ x ∈ l, isD x = true := fun x hx => hd x (List.mem_append_left _ hx)
      have hp := val_pos hlen hd' hz'
      rw [digitsL_big (by omega), show (valL l * 10 + vD c) / 10 = valL l by omega, ih hlen (fun _ => hz') hd', dgB_mod, show (valL l * 10 + vD c) % 10 = vD c by omega, hc2]
theorem dec_digits (u : Nat) : Lib.decDigits u = digitsL u := by
  induction u using Nat.strongRecOn with
  | _ u ih =>
    rw [Lib.decDigits]
    by_cases h : u < 10
    · rw [dif_pos h, digitsL_small h]
      unfold dgB
      rw [Nat.mod_eq_of_lt h]
    · rw [dif_neg h, digitsL_big h, ih (u / 10) (by omega)]; rfl
theorem num_same (l : List UInt8) (most : Nat) (hm : most < 18446744073709551616) : numCV l most = numV l most ∧ numCE l most = numE l most := by
  by_cases h : NumOk l most
  · have h1 := parse_ok hm h
    have h2 := digits_val l h.1 h.2.2.1 h.2.2.2.1
    have h3 : numC l most = some (valL l) := by unfold numC; rw [h1]; simp only [dec_digits, h2, h.2.2.2.2, true_and, if_true]
    obtain ⟨e1, e2⟩ := num_yes h
    unfold numCV numCE
    rw [h3, e1, e2]; exact ⟨rfl, rfl⟩
  · have h3 : numC l most = none := by
      unfold numC
      cases hp : Lib.parseUintB 64 l with
      | ok u =>
        simp only
        rw [if_neg]
        rintro ⟨a, b⟩
        rw [dec_digits] at b
        exact h (by rw [← b]; exact num_digits u most a hm)
      | «syntax» => rfl
      | range => rfl
    obtain ⟨e1, e2⟩ := num_no h
    unfold numCV numCE
    rw [h3, e1, e2]; exact ⟨rfl, rfl⟩
end Go.Proofs.YtbknabmcelknmaaGreatDoor
