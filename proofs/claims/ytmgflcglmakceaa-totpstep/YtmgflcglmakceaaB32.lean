/- Base 32, plain: bytes by signs, and signs by bytes. -/
import Derived.Test.YtmgflcglmakceaaBits
namespace Go.Proofs.Ytmgflcglmakceaa

def nb (l : List UInt8) (i : Nat) : Nat := (nth l i).toNat
theorem nb_lt (l : List UInt8) (i : Nat) : nb l i < 256 := (nth l i).toNat_lt
theorem nb_out (l : List UInt8) (i : Nat) (h : l.length ≤ i) : nb l i = 0 := by
  unfold nb nth; rw [List.getD_eq_getElem?_getD, List.getElem?_eq_none h]; rfl
/-- bit j of the bytes l, the highest first -/
def bitB (l : List UInt8) (j : Nat) : Nat := nb l (j / 8) / 2 ^ (7 - j % 8) % 2
theorem bitB_lt (l : List UInt8) (j : Nat) : bitB l j < 2 := Nat.mod_lt _ (by omega)
theorem bitB_out (l : List UInt8) (j : Nat) (h : 8 * l.length ≤ j) : bitB l j = 0 := by
  unfold bitB; rw [nb_out l _ (by omega)]; simp
/-- five bits from j on, eight bits from j on -/
def fiveOf (f : Nat → Nat) (j : Nat) : Nat := 16 * f j + 8 * f (j + 1) + 4 * f (j + 2) + 2 * f (j + 3) + f (j + 4)
def eightOf (f : Nat → Nat) (j : Nat) : Nat := 128 * f j + 64 * f (j + 1) + 32 * f (j + 2) + 16 * f (j + 3) + 8 * f (j + 4) + 4 * f (j + 5) + 2 * f (j + 6) + f (j + 7)
/-- bit j of signs of the values v -/
def bitV (v : Nat → Nat) (j : Nat) : Nat := v (j / 5) / 2 ^ (4 - j % 5) % 2
theorem bitV_lt (v : Nat → Nat) (j : Nat) : bitV v j < 2 := Nat.mod_lt _ (by omega)

theorem fiveOf_lt (f : Nat → Nat) (j : Nat) (h : ∀ i, f i < 2) : fiveOf f j < 32 := by
  unfold fiveOf
  have h0 := h j; have h1 := h (j + 1); have h2 := h (j + 2); have h3 := h (j + 3); have h4 := h (j + 4)
  omega
theorem eightOf_lt (f : Nat → Nat) (j : Nat) (h : ∀ i, f i < 2) : eightOf f j < 256 := by
  unfold eightOf
  have h0 := h j; have h1 := h (j + 1); have h2 := h (j + 2); have h3 := h (j + 3); have h4 := h (j + 4); have h5 := h (j + 5); have h6 := h (j + 6); have h7 := h (j + 7)
  omega

theorem mod5 (j : Nat) : j % 5 = 0 ∨ j % 5 = 1 ∨ j % 5 = 2 ∨ j % 5 = 3 ∨ j % 5 = 4 := by omega
theorem mod8 (j : Nat) : j % 8 = 0 ∨ j % 8 = 1 ∨ j % 8 = 2 ∨ j % 8 = 3 ∨ j % 8 = 4 ∨ j % 8 = 5 ∨ j % 8 = 6 ∨ j % 8 = 7 := by omega

/-- a bit within a byte -/
theorem bitB_at (l : List UInt8) (q r : Nat) (h : r < 8) : bitB l (8 * q + r) = nb l q / 2 ^ (7 - r) % 2 := by
  unfold bitB
  rw [show (8 * q + r) / 8 = q by omega, show (8 * q + r) % 8 = r by omega]
theorem bitV_at (v : Nat → Nat) (q r : Nat) (h : r < 5) : bitV v (5 * q + r) = v q / 2 ^ (4 - r) % 2 := by
  unfold bitV
  rw [show (5 * q + r) / 5 = q by omega, show (5 * q + r) % 5 = r by omega]

theorem eight_bits (l : List UInt8) (q : Nat) : eightOf (bitB l) (8 * q) = nb l q := by
  have h := nb_lt l q
  unfold eightOf
  have e0 := bitB_at l q 0 (by omega); have e1 := bitB_at l q 1 (by omega); have e2 := bitB_at l q 2 (by omega); have e3 := bitB_at l q 3 (by omega)
  have e4 := bitB_at l q 4 (by omega); have e5 := bitB_at l q 5 (by omega); have e6 := bitB_at l q 6 (by omega); have e7 := bitB_at l q 7 (by omega)
  simp only [Nat.add_zero] at e0
  rw [e0, e1, e2, e3, e4, e5, e6, e7]
  simp only [Nat.reducePow, Nat.reduceSub]
  generalize nb l q = x at *
  have d2 : x / 4 = x / 2 / 2 := by omega
  have d3 : x / 8 = x / 4 / 2 := by omega
  have d4 : x / 16 = x / 8 / 2 := by omega
  have d5 : x / 32 = x / 16 / 2 := by omega
  have d6 : x / 64 = x / 32 / 2 := by omega
  have d7 : x / 128 = x / 64 / 2 := by omega
  generalize x / 128 = x7 at *
  generalize x / 64 = x6 at *
  generalize x / 32 = x5 at *
  generalize x / 16 = x4 at *
  generalize x / 8 = x3 at *
  generalize x / 4 = x2 at *
  omega
theorem five_bits (v : Nat → Nat) (q : Nat) (h : v q < 32) : fiveOf (bitV v) (5 * q) = v q := by
  unfold fiveOf
  have e0 := bitV_at v q 0 (by omega); have e1 := bitV_at v q 1 (by omega); have e2 := bitV_at v q 2 (by omega); have e3 := bitV_at v q 3 (by omega); have e4 := bitV_at v q 4 (by omega)
  simp only [Nat.add_zero] at e0
  rw [e0, e1, e2, e3, e4]
  simp only [Nat.reducePow, Nat.reduceSub]
  omega
/-- five bits of a number of five bits, eight of one of eight -/
theorem five_at (f : Nat → Nat) (hf : ∀ i, f i < 2) (j r : Nat) (h : r < 5) : fiveOf f j / 2 ^ (4 - r) % 2 = f (j + r) := by
  unfold fiveOf
  have h0 := hf j; have h1 := hf (j + 1); have h2 := hf (j + 2); have h3 := hf (j + 3); have h4 := hf (j + 4)
  obtain rfl | rfl | rfl | rfl | rfl : r = 0 ∨ r = 1 ∨ r = 2 ∨ r = 3 ∨ r = 4 := by omega
  all_goals simp only [Nat.reducePow, Nat.reduceSub, Nat.add_zero]; omega
theorem eight_at (f : Nat → Nat) (hf : ∀ i, f i < 2) (j r : Nat) (h : r < 8) : eightOf f j / 2 ^ (7 - r) % 2 = f (j + r) := by
  unfold eightOf
  have h0 := hf j; have h1 := hf (j + 1); have h2 := hf (j + 2); have h3 := hf (j + 3); have h4 := hf (j + 4); have h5 := hf (j + 5); have h6 := hf (j + 6); have h7 := hf (j + 7)
  obtain rfl | rfl | rfl | rfl | rfl | rfl | rfl | rfl : r = 0 ∨ r = 1 ∨ r = 2 ∨ r = 3 ∨ r = 4 ∨ r = 5 ∨ r = 6 ∨ r = 7 := by omega
  all_goals simp only [Nat.reducePow, Nat.reduceSub, Nat.add_zero]; omega

/-- the sign of a value, the value of a sign (32: none) -/
def sgn (n : Nat) : UInt8 := if n < 26 then UInt8.ofNat (65 + n) else UInt8.ofNat (24 + n)
def sgv (c : UInt8) : Nat := if 65 ≤ c.toNat ∧ c.toNat ≤ 90 then c.toNat - 65 else if 50 ≤ c.toNat ∧ c.toNat ≤ 55 then c.toNat - 24 else 32
theorem sgv_le (c : UInt8) : sgv c ≤ 32 := by
  unfold sgv; split
  · omega
  · split <;> omega
theorem sgn_toNat (n : Nat) (h : n < 32) : (sgn n).toNat = if n < 26 then 65 + n else 24 + n := by
  unfold sgn; split <;> (rw [UInt8.toNat_ofNat']; omega)
theorem sgv_sgn (n : Nat) (h : n < 32) : sgv (sgn n) = n := by
  unfold sgv; rw [sgn_toNat n h]
  by_cases h1 : n < 26
  · rw [if_pos h1, if_pos ⟨by omega, by omega⟩]; omega
  · rw [if_neg h1, if_neg (by omega), if_pos ⟨by omega, by omega⟩]; omega
theorem sgn_sgv (c : UInt8) (h : sgv c < 32) : sgn (sgv c) = c := by
  apply UInt8.toNat_inj.1
  rw [sgn_toNat _ h]
  unfold sgv at h ⊢
  by_cases h1 : 65 ≤ c.toNat ∧ c.toNat ≤ 90
  · rw [if_pos h1, if_pos (by omega)]; omega
  · rw [if_neg h1] at h ⊢
    by_cases h2 : 50 ≤ c.toNat ∧ c.toNat ≤ 55
    · rw [if_pos h2, if_neg (by omega)]; omega
    · rw [if_neg h2] at h; omega

/-- the signs of bytes -/
def b32L (l : List UInt8) : List UInt8 := (List.range ((8 * l.length + 4) / 5)).map fun i => sgn (fiveOf (bitB l) (5 * i))
theorem b32L_length (l : List UInt8) : (b32L l).length = (8 * l.length + 4) / 5 := by simp [b32L]
theorem b32L_at (l : List UInt8) (i : Nat) (h : i < (8 * l.length + 4) / 5) : nth (b32L l) i = sgn (fiveOf (bitB l) (5 * i)) := by
  rw [nth_eq _ _ (by rw [b32L_length]; exact h)]
  simp [b32L]

/-- the values of signs -/
def vals (s : List UInt8) (i : Nat) : Nat := sgv (nth s i)
def allV (s : List UInt8) : Bool := s.all fun c => decide (sgv c < 32)
theorem allV_at (s : List UInt8) (h : allV s = true) (i : Nat) (hi : i < s.length) : vals s i < 32 := by
  unfold vals; rw [nth_eq s i hi]
  exact of_decide_eq_true (List.all_eq_true.1 h _ (List.getElem_mem hi))
/-- the bytes of signs -/
def unB (s : List UInt8) : List UInt8 := (List.range (5 * s.length / 8)).map fun i => UInt8.ofNat (eightOf (bitV (vals s)) (8 * i))
theorem unB_length (s : List UInt8) : (unB s).length = 5 * s.length / 8 := by simp [unB]
theorem unB_at (s : List UInt8) (i : Nat) (h : i < 5 * s.length / 8) : nb (unB s) i = eightOf (bitV (vals s)) (8 * i) := by
  unfold nb
  rw [nth_eq _ _ (by rw [unB_length]; exact h)]
  simp only [unB, List.getElem_map, List.getElem_range]
  rw [UInt8.toNat_ofNat', Nat.mod_eq_of_lt (eightOf_lt _ _ (bitV_lt _))]
/-- the signs end as those of bytes do -/
def endOk (s : List UInt8) : Bool := decide (5 * s.length % 8 < 5 ∧ vals s (s.length - 1) % 2 ^ (5 * s.length % 8) = 0)

theorem bit_unL (s : List UInt8) (j : Nat) (h : j < 8 * (5 * s.length / 8)) : bitB (unB s) j = bitV (vals s) j := by
  have e : j = 8 * (j / 8) + j % 8 := by omega
  rw [e, bitB_at _ _ _ (by omega), unB_at s _ (by omega), eight_at _ (bitV_lt _) _ _ (by omega)]

theorem five_unL (s : List UInt8) (ha : allV s = true) (i : Nat) (h : 5 * i + 4 < 8 * (5 * s.length / 8)) : fiveOf (bitB (unB s)) (5 * i) = vals s i := by
  rw [← five_bits (vals s) i (allV_at s ha i (by omega))]
  unfold fiveOf
  rw [bit_unL s _ (by omega), bit_unL s _ (by omega), bit_unL s _ (by omega), bit_unL s _ (by omega), bit_unL s _ (by omega)]

theorem five_last (s : List UInt8) (ha : allV s = true) (hn : 0 < s.length) (hr : 5 * s.length % 8 < 5) :
    fiveOf (bitB (unB s)) (5 * (s.length - 1)) = vals s (s.length - 1) - vals s (s.length - 1) % 2 ^ (5 * s.length % 8) := by
  have hv := allV_at s ha (s.length - 1) (by omega)
  have ho : ∀ j, 8 * (5 * s.length / 8) ≤ j → bitB (unB s) j = 0 := fun j hj => bitB_out _ _ (by rw [unB_length]; exact hj)
  have e0 := bitV_at (vals s) (s.length - 1) 0 (by omega); have e1 := bitV_at (vals s) (s.length - 1) 1 (by omega); have e2 := bitV_at (vals s) (s.length - 1) 2 (by omega); have e3 := bitV_at (vals s) (s.length - 1) 3 (by omega); have e4 := bitV_at (vals s) (s.length - 1) 4 (by omega)
  simp only [Nat.add_zero, Nat.reducePow, Nat.reduceSub] at e0 e1 e2 e3 e4
  have hb := fun j => bit_unL s j
  generalize hv0 : vals s (s.length - 1) = v at *
  unfold fiveOf
  obtain h5 | h5 | h5 | h5 | h5 : 5 * s.length % 8 = 0 ∨ 5 * s.length % 8 = 1 ∨ 5 * s.length % 8 = 2 ∨ 5 * s.length % 8 = 3 ∨ 5 * s.length % 8 = 4 := by omega
  · rw [h5, hb _ (by omega), hb _ (by omega), hb _ (by omega), hb _ (by omega), hb _ (by omega), e0, e1, e2, e3, e4]
    simp only [Nat.reducePow]; omega
  · rw [h5, hb _ (by omega), hb _ (by omega), hb _ (by omega), hb _ (by omega), ho _ (by omega), e0, e1, e2, e3]
    simp only [Nat.reducePow]; omega
  · rw [h5, hb _ (by omega), hb _ (by omega), hb _ (by omega), ho _ (by omega), ho _ (by omega), e0, e1, e2]
    simp only [Nat.reducePow]; omega
  · rw [h5, hb _ (by omega), hb _ (by omega), ho _ (by omega), ho _ (by omega), ho _ (by omega), e0, e1]
    simp only [Nat.reducePow]; omega
  · rw [h5, hb _ (by omega), ho _ (by omega), ho _ (by omega), ho _ (by omega), ho _ (by omega), e0]
    simp only [Nat.reducePow]; omega

/-- the text of the bytes of s is s just if s ends well -/
theorem un_iff (s : List UInt8) (ha : allV s = true) : (b32L (unB s) = s) ↔ endOk s = true := by
  have hlen : (8 * (unB s).length + 4) / 5 = s.length ↔ 5 * s.length % 8 < 5 := by rw [unB_length]; omega
  constructor
  · intro h
    have h1 : 5 * s.length % 8 < 5 := hlen.1 (by rw [← b32L_length, h])
    unfold endOk
    refine decide_eq_true ⟨h1, ?_⟩
    by_cases hn : 0 < s.length
    · have h2 := five_last s ha hn h1
      have h3 := b32L_at (unB s) (s.length - 1) (by rw [hlen.2 h1]; omega)
      rw [h] at h3
      have h4 : vals s (s.length - 1) = fiveOf (bitB (unB s)) (5 * (s.length - 1)) := by
        have : sgv (nth s (s.length - 1)) = sgv (sgn (fiveOf (bitB (unB s)) (5 * (s.length - 1)))) := by rw [h3]
        rw [sgv_sgn _ (fiveOf_lt _ _ (bitB_lt _))] at this
        exact this
      have h5 := Nat.mod_le (vals s (s.length - 1)) (2 ^ (5 * s.length % 8))
      generalize vals s (s.length - 1) % 2 ^ (5 * s.length % 8) = z at *
      omega
    · have : s.length = 0 := by omega
      rw [this]; simp [Nat.mod_one]
  · intro h
    obtain ⟨h1, h2⟩ := of_decide_eq_true h
    have hL : (b32L (unB s)).length = s.length := by rw [b32L_length, hlen.2 h1]
    refine List.ext_getElem hL fun i hi hi' => ?_
    rw [← nth_eq _ _ hi, ← nth_eq _ _ hi', b32L_at _ _ (by rw [hlen.2 h1]; exact hi')]
    by_cases hl : i = s.length - 1
    · subst hl
      rw [five_last s ha (by omega) h1, h2, Nat.sub_zero]
      exact sgn_sgv _ (allV_at s ha _ hi')
    · rw [five_unL s ha i (by omega)]
      exact sgn_sgv _ (allV_at s ha _ hi')

/-- the other way round -/
theorem vals_b32 (l : List UInt8) (i : Nat) (h : i < (8 * l.length + 4) / 5) : vals (b32L l) i = fiveOf (bitB l) (5 * i) := by
  unfold vals; rw [b32L_at l i h, sgv_sgn _ (fiveOf_lt _ _ (bitB_lt _))]
theorem allV_b32 (l : List UInt8) : allV (b32L l) = true := by
  refine List.all_eq_true.2 fun c hc => ?_
  obtain ⟨i, hi, rfl⟩ := List.mem_map.1 hc
  rw [sgv_sgn _ (fiveOf_lt _ _ (bitB_lt _))]
  exact decide_eq_true (fiveOf_lt _ _ (bitB_lt _))
theorem bit_b32 (l : List UInt8) (j : Nat) (h : j < 5 * ((8 * l.length + 4) / 5)) : bitV (vals (b32L l)) j = bitB l j := by
  have e : j = 5 * (j / 5) + j % 5 := by omega
  rw [e, bitV_at _ _ _ (by omega), vals_b32 l _ (by omega), five_at _ (bitB_lt _) _ _ (by omega)]
theorem un_b32 (l : List UInt8) : unB (b32L l) = l := by
  have hL : (unB (b32L l)).length = l.length := by rw [unB_length, b32L_length]; omega
  refine List.ext_getElem hL fun i hi hi' => ?_
  rw [← nth_eq _ _ hi, ← nth_eq _ _ hi']
  apply UInt8.toNat_inj.1
  have h1 := unB_at (b32L l) i (by rw [b32L_length]; omega)
  unfold nb at h1
  rw [h1]
  have h2 := eight_bits l i
  unfold nb at h2
  rw [← h2]
  unfold eightOf
  rw [bit_b32 l _ (by omega), bit_b32 l _ (by omega), bit_b32 l _ (by omega), bit_b32 l _ (by omega), bit_b32 l _ (by omega), bit_b32 l _ (by omega), bit_b32 l _ (by omega), bit_b32 l _ (by omega)]
theorem end_b32 (l : List UInt8) : endOk (b32L l) = true := (un_iff _ (allV_b32 l)).1 (by rw [un_b32])
end Go.Proofs.Ytmgflcglmakceaa
