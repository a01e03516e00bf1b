/- Base 32, plain: what the program holds on the way. -/
import Derived.Test.YtmgflcglmakceaaB32
namespace Go.Proofs.Ytmgflcglmakceaa

/-- what is held behind p bytes: the last two of them -/
def heldB (l : List UInt8) : Nat → Nat
  | 0 => 0
  | 1 => nb l 0
  | p + 2 => nb l p * 256 + nb l (p + 1)
theorem heldB_lt (l : List UInt8) : ∀ p, heldB l p < 65536
  | 0 => by show 0 < 65536; omega
  | 1 => by show nb l 0 < 65536; have := nb_lt l 0; omega
  | p + 2 => by show nb l p * 256 + nb l (p + 1) < 65536; have := nb_lt l p; have := nb_lt l (p + 1); omega
theorem heldB_succ (l : List UInt8) : ∀ p, heldB l (p + 1) = heldB l p * 256 % 65536 + nb l p
  | 0 => by show nb l 0 = 0 * 256 % 65536 + nb l 0; omega
  | 1 => by show nb l 0 * 256 + nb l 1 = nb l 0 * 256 % 65536 + nb l 1; have := nb_lt l 0; omega
  | p + 2 => by show nb l (p + 1) * 256 + nb l (p + 2) = (nb l p * 256 + nb l (p + 1)) * 256 % 65536 + nb l (p + 2); have := nb_lt l p; have := nb_lt l (p + 1); omega

theorem byte_bits (l : List UInt8) (q : Nat) : ∃ b0 b1 b2 b3 b4 b5 b6 b7 : Nat, b0 < 2 ∧ b1 < 2 ∧ b2 < 2 ∧ b3 < 2 ∧ b4 < 2 ∧ b5 < 2 ∧ b6 < 2 ∧ b7 < 2 ∧
    bitB l (8 * q) = b0 ∧ bitB l (8 * q + 1) = b1 ∧ bitB l (8 * q + 2) = b2 ∧ bitB l (8 * q + 3) = b3 ∧ bitB l (8 * q + 4) = b4 ∧ bitB l (8 * q + 5) = b5 ∧ bitB l (8 * q + 6) = b6 ∧ bitB l (8 * q + 7) = b7 ∧
    nb l q = 128 * b0 + 64 * b1 + 32 * b2 + 16 * b3 + 8 * b4 + 4 * b5 + 2 * b6 + b7 :=
  ⟨_, _, _, _, _, _, _, _, bitB_lt _ _, bitB_lt _ _, bitB_lt _ _, bitB_lt _ _, bitB_lt _ _, bitB_lt _ _, bitB_lt _ _, bitB_lt _ _, rfl, rfl, rfl, rfl, rfl, rfl, rfl, rfl, (eight_bits l q).symm⟩

/-- five bits of what is held -/
theorem held_five (l : List UInt8) (p m sh : Nat) (hs : sh ≤ 7) (h : 5 * m + 5 + sh = 8 * (p + 1)) : heldB l (p + 1) / 2 ^ sh % 32 = fiveOf (bitB l) (5 * m) := by
  by_cases h3 : sh ≤ 3
  · have hh : heldB l (p + 1) / 2 ^ sh % 32 = nb l p / 2 ^ sh % 32 := by
      rw [heldB_succ]
      have := nb_lt l p
      generalize nb l p = y at *
      generalize heldB l p = x at *
      obtain rfl | rfl | rfl | rfl : sh = 0 ∨ sh = 1 ∨ sh = 2 ∨ sh = 3 := by omega
      all_goals simp only [Nat.reducePow]; omega
    rw [hh]
    obtain ⟨b0, b1, b2, b3, b4, b5, b6, b7, l0, l1, l2, l3, l4, l5, l6, l7, e0, e1, e2, e3, e4, e5, e6, e7, hn⟩ := byte_bits l p
    rw [hn]
    clear hn hh
    unfold fiveOf
    obtain rfl | rfl | rfl | rfl : sh = 0 ∨ sh = 1 ∨ sh = 2 ∨ sh = 3 := by omega
    · rw [show 5 * m = 8 * p + 3 by omega, e3, e4, e5, e6, e7]; simp only [Nat.reducePow]; omega
    · rw [show 5 * m = 8 * p + 2 by omega, e2, e3, e4, e5, e6]; simp only [Nat.reducePow]; omega
    · rw [show 5 * m = 8 * p + 1 by omega, e1, e2, e3, e4, e5]; simp only [Nat.reducePow]; omega
    · rw [show 5 * m = 8 * p by omega, e0, e1, e2, e3, e4]; simp only [Nat.reducePow]; omega
  · obtain ⟨q, rfl⟩ : ∃ q, p = q + 1 := ⟨p - 1, by omega⟩
    obtain ⟨a0, a1, a2, a3, a4, a5, a6, a7, k0, k1, k2, k3, k4, k5, k6, k7, d0, d1, d2, d3, d4, d5, d6, d7, hm⟩ := byte_bits l q
    obtain ⟨b0, b1, b2, b3, b4, b5, b6, b7, l0, l1, l2, l3, l4, l5, l6, l7, e0, e1, e2, e3, e4, e5, e6, e7, hn⟩ := byte_bits l (q + 1)
    show (nb l q * 256 + nb l (q + 1)) / 2 ^ sh % 32 = _
    rw [hm, hn]
    clear hm hn
    rw [show 8 * (q + 1) = 8 * q + 8 by omega] at e0 e1 e2 e3
    simp only [Nat.add_assoc, Nat.reduceAdd] at e1 e2 e3
    unfold fiveOf
    obtain rfl | rfl | rfl | rfl : sh = 4 ∨ sh = 5 ∨ sh = 6 ∨ sh = 7 := by omega
    · rw [show 5 * m = 8 * q + 7 by omega]
      simp only [Nat.add_assoc, Nat.reduceAdd]
      rw [d7, e0, e1, e2, e3]; simp only [Nat.reducePow]; omega
    · rw [show 5 * m = 8 * q + 6 by omega]
      simp only [Nat.add_assoc, Nat.reduceAdd]
      rw [d6, d7, e0, e1, e2]; simp only [Nat.reducePow]; omega
    · rw [show 5 * m = 8 * q + 5 by omega]
      simp only [Nat.add_assoc, Nat.reduceAdd]
      rw [d5, d6, d7, e0, e1]; simp only [Nat.reducePow]; omega
    · rw [show 5 * m = 8 * q + 4 by omega]
      simp only [Nat.add_assoc, Nat.reduceAdd]
      rw [d4, d5, d6, d7, e0]; simp only [Nat.reducePow]; omega

/-- the first m signs -/
def b32To (l : List UInt8) (m : Nat) : List UInt8 := (List.range m).map fun i => sgn (fiveOf (bitB l) (5 * i))
theorem b32To_zero (l : List UInt8) : b32To l 0 = [] := rfl
theorem b32To_succ (l : List UInt8) (m : Nat) : b32To l (m + 1) = b32To l m ++ [sgn (fiveOf (bitB l) (5 * m))] := by
  unfold b32To; rw [List.range_succ, List.map_append]; rfl
theorem b32To_length (l : List UInt8) (m : Nat) : (b32To l m).length = m := by simp [b32To]
theorem b32To_all (l : List UInt8) (m : Nat) (h : m = (8 * l.length + 4) / 5) : b32To l m = b32L l := by rw [h]; rfl

/-- the last sign, filled by nought -/
theorem held_last (l : List UInt8) (p m b : Nat) (hb : 0 < b) (hb5 : b < 5) (hp : l.length ≤ p) (h : 5 * m + b = 8 * p) : heldB l p * 2 ^ (5 - b) % 65536 % 32 = fiveOf (bitB l) (5 * m) := by
  obtain ⟨q, rfl⟩ : ∃ q, p = q + 1 := ⟨p - 1, by omega⟩
  have hh : heldB l (q + 1) * 2 ^ (5 - b) % 65536 % 32 = nb l q * 2 ^ (5 - b) % 32 := by
    rw [heldB_succ]
    have := nb_lt l q
    generalize nb l q = y at *
    generalize heldB l q = x at *
    obtain rfl | rfl | rfl | rfl : b = 1 ∨ b = 2 ∨ b = 3 ∨ b = 4 := by omega
    all_goals simp only [Nat.reduceSub, Nat.reducePow]; omega
  rw [hh]
  obtain ⟨b0, b1, b2, b3, b4, b5, b6, b7, l0, l1, l2, l3, l4, l5, l6, l7, e0, e1, e2, e3, e4, e5, e6, e7, hn⟩ := byte_bits l q
  rw [hn]
  have ho : ∀ j, 8 * (q + 1) ≤ j → bitB l j = 0 := fun j hj => bitB_out _ _ (by omega)
  clear hn hh
  unfold fiveOf
  obtain rfl | rfl | rfl | rfl : b = 1 ∨ b = 2 ∨ b = 3 ∨ b = 4 := by omega
  · rw [show 5 * m = 8 * q + 7 by omega, e7, ho _ (by omega), ho _ (by omega), ho _ (by omega), ho _ (by omega)]; simp only [Nat.reduceSub, Nat.reducePow]; omega
  · rw [show 5 * m = 8 * q + 6 by omega, e6, e7, ho _ (by omega), ho _ (by omega), ho _ (by omega)]; simp only [Nat.reduceSub, Nat.reducePow]; omega
  · rw [show 5 * m = 8 * q + 5 by omega, e5, e6, e7, ho _ (by omega), ho _ (by omega)]; simp only [Nat.reduceSub, Nat.reducePow]; omega
  · rw [show 5 * m = 8 * q + 4 by omega, e4, e5, e6, e7, ho _ (by omega)]; simp only [Nat.reduceSub, Nat.reducePow]; omega

/-- what is held behind i signs -/
def heldU (v : Nat → Nat) : Nat → Nat
  | 0 => 0
  | i + 1 => heldU v i * 32 % 65536 + v i
theorem heldU_lt (v : Nat → Nat) : ∀ i, (∀ j, j < i → v j < 32) → heldU v i < 65536
  | 0, _ => by unfold heldU; omega
  | i + 1, h => by unfold heldU; have := h i (by omega); omega
theorem heldU_one (v : Nat → Nat) (i : Nat) (h : ∀ j, j < i + 1 → v j < 32) : heldU v (i + 1) % 32 = v i := by
  have := h i (by omega); simp only [heldU]; omega
theorem heldU_two (v : Nat → Nat) (i : Nat) (h : ∀ j, j < i + 2 → v j < 32) : heldU v (i + 2) % 1024 = v i * 32 + v (i + 1) := by
  have h1 := heldU_one v i (fun j hj => h j (by omega)); have := h i (by omega); have := h (i + 1) (by omega)
  show (heldU v (i + 1) * 32 % 65536 + v (i + 1)) % 1024 = _
  omega
theorem heldU_three (v : Nat → Nat) (i : Nat) (h : ∀ j, j < i + 3 → v j < 32) : heldU v (i + 3) % 32768 = v i * 1024 + v (i + 1) * 32 + v (i + 2) := by
  have h1 := heldU_two v i (fun j hj => h j (by omega)); have := h i (by omega); have := h (i + 1) (by omega); have := h (i + 2) (by omega)
  show (heldU v (i + 2) * 32 % 65536 + v (i + 2)) % 32768 = _
  omega

theorem sign_bits (v : Nat → Nat) (q : Nat) (h : v q < 32) : ∃ b0 b1 b2 b3 b4 : Nat, b0 < 2 ∧ b1 < 2 ∧ b2 < 2 ∧ b3 < 2 ∧ b4 < 2 ∧
    bitV v (5 * q) = b0 ∧ bitV v (5 * q + 1) = b1 ∧ bitV v (5 * q + 2) = b2 ∧ bitV v (5 * q + 3) = b3 ∧ bitV v (5 * q + 4) = b4 ∧ v q = 16 * b0 + 8 * b1 + 4 * b2 + 2 * b3 + b4 :=
  ⟨_, _, _, _, _, bitV_lt _ _, bitV_lt _ _, bitV_lt _ _, bitV_lt _ _, bitV_lt _ _, rfl, rfl, rfl, rfl, rfl, (five_bits v q h).symm⟩

/-- eight bits of what is held -/
theorem held_eight (v : Nat → Nat) (i m b : Nat) (hv : ∀ j, j < i → v j < 32) (hb : b < 5) (h : 8 * m + 8 + b = 5 * i) : heldU v i / 2 ^ b % 256 = eightOf (bitV v) (8 * m) := by
  by_cases hb2 : b ≤ 2
  · obtain ⟨q, rfl⟩ : ∃ q, i = q + 2 := ⟨i - 2, by omega⟩
    have hh : heldU v (q + 2) / 2 ^ b % 256 = (v q * 32 + v (q + 1)) / 2 ^ b % 256 := by
      have h2 := heldU_two v q hv
      have := hv q (by omega); have := hv (q + 1) (by omega)
      generalize heldU v (q + 2) = x at *
      generalize v q * 32 + v (q + 1) = y at *
      obtain rfl | rfl | rfl : b = 0 ∨ b = 1 ∨ b = 2 := by omega
      all_goals simp only [Nat.reducePow]; omega
    rw [hh]
    obtain ⟨a0, a1, a2, a3, a4, k0, k1, k2, k3, k4, d0, d1, d2, d3, d4, hm⟩ := sign_bits v q (hv q (by omega))
    obtain ⟨b0, b1, b2, b3, b4, l0, l1, l2, l3, l4, e0, e1, e2, e3, e4, hn⟩ := sign_bits v (q + 1) (hv (q + 1) (by omega))
    rw [hm, hn]
    clear hm hn hh
    rw [show 5 * (q + 1) = 5 * q + 5 by omega] at e0 e1 e2 e3 e4
    simp only [Nat.add_assoc, Nat.reduceAdd] at e1 e2 e3 e4
    unfold eightOf
    obtain rfl | rfl | rfl : b = 0 ∨ b = 1 ∨ b = 2 := by omega
    · rw [show 8 * m = 5 * q + 2 by omega]
      simp only [Nat.add_assoc, Nat.reduceAdd]
      rw [d2, d3, d4, e0, e1, e2, e3, e4]; simp only [Nat.reducePow]; omega
    · rw [show 8 * m = 5 * q + 1 by omega]
      simp only [Nat.add_assoc, Nat.reduceAdd]
      rw [d1, d2, d3, d4, e0, e1, e2, e3]; simp only [Nat.reducePow]; omega
    · rw [show 8 * m = 5 * q by omega]
      rw [d0, d1, d2, d3, d4, e0, e1, e2]; simp only [Nat.reducePow]; omega
  · obtain ⟨q, rfl⟩ : ∃ q, i = q + 3 := ⟨i - 3, by omega⟩
    have hh : heldU v (q + 3) / 2 ^ b % 256 = (v q * 1024 + v (q + 1) * 32 + v (q + 2)) / 2 ^ b % 256 := by
      have h2 := heldU_three v q hv
      have := hv q (by omega); have := hv (q + 1) (by omega); have := hv (q + 2) (by omega)
      generalize heldU v (q + 3) = x at *
      generalize v q * 1024 + v (q + 1) * 32 + v (q + 2) = y at *
      obtain rfl | rfl : b = 3 ∨ b = 4 := by omega
      all_goals simp only [Nat.reducePow]; omega
    rw [hh]
    obtain ⟨a0, a1, a2, a3, a4, k0, k1, k2, k3, k4, d0, d1, d2, d3, d4, hm⟩ := sign_bits v q (hv q (by omega))
    obtain ⟨b0, b1, b2, b3, b4, l0, l1, l2, l3, l4, e0, e1, e2, e3, e4, hn⟩ := sign_bits v (q + 1) (hv (q + 1) (by omega))
    obtain ⟨c0, c1, c2, c3, c4, n0, n1, n2, n3, n4, f0, f1, f2, f3, f4, ho⟩ := sign_bits v (q + 2) (hv (q + 2) (by omega))
    rw [hm, hn, ho]
    clear hm hn ho hh
    rw [show 5 * (q + 1) = 5 * q + 5 by omega] at e0 e1 e2 e3 e4
    rw [show 5 * (q + 2) = 5 * q + 10 by omega] at f0 f1 f2 f3 f4
    simp only [Nat.add_assoc, Nat.reduceAdd] at e1 e2 e3 e4 f1 f2 f3 f4
    unfold eightOf
    obtain rfl | rfl : b = 3 ∨ b = 4 := by omega
    · rw [show 8 * m = 5 * q + 4 by omega]
      simp only [Nat.add_assoc, Nat.reduceAdd]
      rw [d4, e0, e1, e2, e3, e4, f0, f1]; simp only [Nat.reducePow]; omega
    · rw [show 8 * m = 5 * q + 3 by omega]
      simp only [Nat.add_assoc, Nat.reduceAdd]
      rw [d3, d4, e0, e1, e2, e3, e4, f0]; simp only [Nat.reducePow]; omega

/-- the first m bytes -/
def unTo (s : List UInt8) (m : Nat) : List UInt8 := (List.range m).map fun i => UInt8.ofNat (eightOf (bitV (vals s)) (8 * i))
theorem unTo_zero (s : List UInt8) : unTo s 0 = [] := rfl
theorem unTo_succ (s : List UInt8) (m : Nat) : unTo s (m + 1) = unTo s m ++ [UInt8.ofNat (eightOf (bitV (vals s)) (8 * m))] := by
  unfold unTo; rw [List.range_succ, List.map_append]; rfl
theorem unTo_length (s : List UInt8) (m : Nat) : (unTo s m).length = m := by simp [unTo]
theorem unTo_all (s : List UInt8) (m : Nat) (h : m = 5 * s.length / 8) : unTo s m = unB s := by rw [h]; rfl
/-- all of the first k signs are some -/
def goodV (s : List UInt8) (k : Nat) : Prop := ∀ j, j < k → vals s j < 32
theorem goodV_all (s : List UInt8) (h : goodV s s.length) : allV s = true := by
  refine List.all_eq_true.2 fun c hc => ?_
  obtain ⟨i, hi, rfl⟩ := List.getElem_of_mem hc
  have := h i hi
  unfold vals at this
  rw [nth_eq s i hi] at this
  exact decide_eq_true this
theorem goodV_no (s : List UInt8) (k : Nat) (hk : k < s.length) (h : ¬ vals s k < 32) : allV s = false := by
  cases e : allV s with
  | false => rfl
  | true => exact absurd (allV_at s e k hk) h
/-- the rest of the last sign -/
theorem held_rest (s : List UInt8) (r : Nat) (hg : goodV s s.length) (hr : r = 5 * s.length % 8) (h5 : r < 5) : heldU (vals s) s.length % 2 ^ r = vals s (s.length - 1) % 2 ^ r := by
  by_cases hn : s.length = 0
  · have : r = 0 := by rw [hr, hn]
    subst this; simp [Nat.mod_one]
  · obtain ⟨n, hn'⟩ : ∃ n, s.length = n + 1 := ⟨s.length - 1, by omega⟩
    rw [hn'] at hg ⊢
    have h1 := heldU_one (vals s) n hg
    rw [Nat.add_sub_cancel]
    generalize heldU (vals s) (n + 1) = x at *
    generalize vals s n = y at *
    obtain rfl | rfl | rfl | rfl | rfl : r = 0 ∨ r = 1 ∨ r = 2 ∨ r = 3 ∨ r = 4 := by omega
    all_goals simp only [Nat.reducePow]; omega
/-- what both sides answer -/
def unOk (s : List UInt8) : Bool := allV s && endOk s
def unRes (s : List UInt8) : List UInt8 := if unOk s = true then unB s else []
def unErr (s : List UInt8) : Int := if unOk s = true then 0 else 4
end Go.Proofs.Ytmgflcglmakceaa
