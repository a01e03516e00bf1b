/- Plain facts: two records have the same bytes just if they are the same, part by part. -/
import Derived.Test.YtbojhfphgiimnaaBackW
namespace Go.Proofs.Ytbojhfphgiimnaa

/-- a part's mark -/
def markP (p : Pt) : UInt8 := if p.k = 0 then 117 else if p.k = 1 then 98 else if p.k = 2 then 115 else if p.k = 3 then (if p.n % 2 == 1 then 116 else 102) else 108

theorem behL_head (m : UInt8) (n s k : Nat) (r : List UInt8) : nth (behL [] m n s k ++ r) 0 = m := by simp [behL, nth]
theorem enc_head (p : Pt) (r : List UInt8) (h : p.ok) : nth (enc p ++ r) 0 = markP p := by
  have h1 := h.lo
  have h2 := h.hi
  have : p.k = 0 ∨ p.k = 1 ∨ p.k = 2 ∨ p.k = 3 ∨ p.k = 4 := by omega
  unfold markP
  rcases this with e | e | e | e | e
  · rw [enc0 e, behL_head]; simp [e]
  · rw [enc1 e, List.append_assoc, behL_head]; simp [e]
  · rw [enc2 e, List.append_assoc, behL_head]; simp [e]
  · rw [enc3 e]; simp [e, nth]
  · rw [enc4 e, behL_head]; simp [e]
/-- which kind a mark says -/
def kindOf (m : UInt8) : Int := if m = 117 then 0 else if m = 98 then 1 else if m = 115 then 2 else if m = 108 then 4 else 3
theorem kindOf_mark (p : Pt) (hp : p.ok) : kindOf (markP p) = p.k := by
  have h1 := hp.lo
  have h2 := hp.hi
  have e1 : p.k = 0 ∨ p.k = 1 ∨ p.k = 2 ∨ p.k = 3 ∨ p.k = 4 := by omega
  rcases e1 with e | e | e | e | e
  · have : markP p = 117 := by unfold markP; rw [if_pos e]
    rw [this, e]; decide
  · have : markP p = 98 := by unfold markP; rw [if_neg (by omega), if_pos e]
    rw [this, e]; decide
  · have : markP p = 115 := by unfold markP; rw [if_neg (by omega), if_neg (by omega), if_pos e]
    rw [this, e]; decide
  · have : markP p = 116 ∨ markP p = 102 := by
      unfold markP; rw [if_neg (by omega), if_neg (by omega), if_neg (by omega), if_pos e]
      cases (p.n % 2 == 1)
      · exact .inr rfl
      · exact .inl rfl
    rcases this with h | h <;> rw [h, e] <;> decide
  · have : markP p = 108 := by unfold markP; rw [if_neg (by omega), if_neg (by omega), if_neg (by omega), if_neg (by omega)]
    rw [this, e]; decide
theorem markP_kind (p q : Pt) (hp : p.ok) (hq : q.ok) (h : markP p = markP q) : p.k = q.k := by
  rw [← kindOf_mark p hp, ← kindOf_mark q hq, h]

theorem enc_inj (p q : Pt) (r s : List UInt8) (hp : p.ok) (hq : q.ok) (h : enc p ++ r = enc q ++ s) : sameP p q = true ∧ r = s := by
  have hk : p.k = q.k := markP_kind p q hp hq (by rw [← enc_head p r hp, ← enc_head q s hq, h])
  have h1 := hp.lo
  have h2 := hp.hi
  have : p.k = 0 ∨ p.k = 1 ∨ p.k = 2 ∨ p.k = 3 ∨ p.k = 4 := by omega
  unfold sameP
  rw [if_pos hk]
  rcases this with e | e | e | e | e
  · rw [enc0 e, enc0 (hk ▸ e)] at h
    have a := rdUint_back p.n r hp.num
    rw [h, rdUint_back q.n s hq.num] at a
    have b := Prod.mk.inj a
    have c := Prod.mk.inj b.2
    rw [if_pos e]
    exact ⟨by rw [decide_eq_true_eq]; exact b.1.symm, c.1.symm⟩
  · rw [enc1 e, enc1 (hk ▸ e)] at h
    have a := rdSome_back 98 p.b r hp.len
    rw [h, rdSome_back 98 q.b s hq.len] at a
    have b := Prod.mk.inj a
    have c := Prod.mk.inj b.2
    rw [if_neg (by omega), if_neg (by omega), if_neg (by omega)]
    exact ⟨by rw [b.1]; exact eqB_self _, c.1.symm⟩
  · rw [enc2 e, enc2 (hk ▸ e)] at h
    have a := rdSome_back 115 p.b r hp.len
    rw [h, rdSome_back 115 q.b s hq.len] at a
    have b := Prod.mk.inj a
    have c := Prod.mk.inj b.2
    rw [if_neg (by omega), if_neg (by omega), if_neg (by omega)]
    exact ⟨by rw [b.1]; exact eqB_self _, c.1.symm⟩
  · rw [enc3 e, enc3 (hk ▸ e)] at h
    have a := rdBool_back (p.n % 2 == 1) r
    rw [h, rdBool_back (q.n % 2 == 1) s] at a
    have b := Prod.mk.inj a
    have c := Prod.mk.inj b.2
    rw [if_neg (by omega), if_pos e]
    refine ⟨?_, c.1.symm⟩
    rw [decide_eq_true_eq]
    have b1 := b.1
    rw [Bool.eq_iff_iff, beq_iff_eq, beq_iff_eq] at b1
    omega
  · rw [enc4 e, enc4 (hk ▸ e)] at h
    have m1 : p.n % 100 < 100 := Nat.mod_lt _ (by decide)
    have m2 : q.n % 100 < 100 := Nat.mod_lt _ (by decide)
    have a := rdList_back (p.n % 100) r 99 (by omega) (by omega)
    rw [h, rdList_back (q.n % 100) s 99 (by omega) (by omega)] at a
    have b := Prod.mk.inj a
    have c := Prod.mk.inj b.2
    rw [if_neg (by omega), if_neg (by omega), if_pos e]
    exact ⟨by rw [decide_eq_true_eq]; exact b.1.symm, c.1.symm⟩

theorem enc_same (p q : Pt) (hp : p.ok) (h : sameP p q = true) : enc p = enc q := by
  unfold sameP at h
  by_cases hk : p.k = q.k
  · rw [if_pos hk] at h
    have h1 := hp.lo
    have h2 := hp.hi
    have : p.k = 0 ∨ p.k = 1 ∨ p.k = 2 ∨ p.k = 3 ∨ p.k = 4 := by omega
    rcases this with e | e | e | e | e
    · rw [if_pos e, decide_eq_true_eq] at h
      rw [enc0 e, enc0 (hk ▸ e), h]
    · rw [if_neg (by omega), if_neg (by omega), if_neg (by omega)] at h
      have hb : p.b = q.b := by simpa [eqB] using h
      rw [enc1 e, enc1 (hk ▸ e), hb]
    · rw [if_neg (by omega), if_neg (by omega), if_neg (by omega)] at h
      have hb : p.b = q.b := by simpa [eqB] using h
      rw [enc2 e, enc2 (hk ▸ e), hb]
    · rw [if_neg (by omega), if_pos e, decide_eq_true_eq] at h
      rw [enc3 e, enc3 (hk ▸ e), h]
    · rw [if_neg (by omega), if_neg (by omega), if_pos e, decide_eq_true_eq] at h
      rw [enc4 e, enc4 (hk ▸ e), h]
  · rw [if_neg hk] at h; cases h

/-- are the first j parts the same? -/
def sameTo' (ps qs : List Pt) (j : Nat) : Bool := decide (∀ i, i < j → sameP (kindP (nthP ps i)) (kindP (nthP qs i)) = true)
theorem sameTo'_zero (ps qs : List Pt) : sameTo' ps qs 0 = true := by simp [sameTo']
theorem sameTo'_succ (ps qs : List Pt) (k : Nat) : sameTo' ps qs (k + 1) = (sameTo' ps qs k && sameP (kindP (nthP ps k)) (kindP (nthP qs k))) := by
  unfold sameTo'
  rw [Bool.eq_iff_iff]
  simp only [decide_eq_true_eq, Bool.and_eq_true]
  constructor
  · intro h; exact ⟨fun i hi => h i (by omega), h k (by omega)⟩
  · rintro ⟨h1, h2⟩ i hi
    by_cases e : i = k
    · subst e; exact h2
    · exact h1 i (by omega)

theorem encA_eq : ∀ (ps qs : List Pt), (∀ p ∈ ps, p.ok) → (∀ q ∈ qs, q.ok) → (encA ps = encA qs ↔ ps.length = qs.length ∧ ∀ i, i < ps.length → sameP (nthP ps i) (nthP qs i) = true)
  | [], [], _, _ => by simp
  | [], q :: qs, _, hq => by
    have := enc_pos q (hq q (by simp))
    constructor
    · intro h
      have h2 := congrArg List.length h
      simp only [encA, List.length_append, List.length_nil] at h2
      omega
    · rintro ⟨h, _⟩; simp at h
  | p :: ps, [], hp, _ => by
    have := enc_pos p (hp p (by simp))
    constructor
    · intro h
      have h2 := congrArg List.length h
      simp only [encA, List.length_append, List.length_nil] at h2
      omega
    · rintro ⟨h, _⟩; simp at h
  | p :: ps, q :: qs, hp, hq => by
    have ih := encA_eq ps qs (fun x hx => hp x (by simp [hx])) (fun x hx => hq x (by simp [hx]))
    constructor
    · intro h
      obtain ⟨h1, h2⟩ := enc_inj p q (encA ps) (encA qs) (hp p (by simp)) (hq q (by simp)) h
      obtain ⟨h3, h4⟩ := ih.1 h2
      refine ⟨by simp [h3], fun i hi => ?_⟩
      match i with
      | 0 => exact h1
      | i + 1 => exact h4 i (by simpa using hi)
    · rintro ⟨h1, h2⟩
      have e1 := enc_same p q (hp p (by simp)) (h2 0 (by simp))
      have e2 := ih.2 ⟨by simpa using h1, fun i hi => h2 (i + 1) (by simpa using hi)⟩
      simp only [encA]; rw [e1, e2]

theorem nthP_map (ps : List Pt) (i : Nat) (h : i < ps.length) : nthP (ps.map kindP) i = kindP (nthP ps i) := by
  rw [nthP_eq _ _ (by simpa using h), nthP_eq _ _ h]; simp
theorem map_ok (ps : List Pt) (h : Pts.ok ps) : ∀ p ∈ ps.map kindP, p.ok := by
  intro p hp
  obtain ⟨q, hq, rfl⟩ := List.mem_map.1 hp
  obtain ⟨i, hi, rfl⟩ := List.mem_iff_getElem.1 hq
  have := h i hi
  rw [nthP_eq ps i hi] at this
  exact kindP_ok this

/-- two records have the same bytes just if they are the same, part by part -/
theorem eqB_parts (ps qs : List Pt) (hp : Pts.ok ps) (hq : Pts.ok qs) : eqB (encA (ps.map kindP)) (encA (qs.map kindP)) = (decide (ps.length = qs.length) && sameTo' ps qs ps.length) := by
  have := encA_eq (ps.map kindP) (qs.map kindP) (map_ok ps hp) (map_ok qs hq)
  unfold eqB sameTo'
  rw [Bool.eq_iff_iff, beq_iff_eq, this]
  simp only [List.length_map, Bool.and_eq_true, decide_eq_true_eq]
  constructor
  · rintro ⟨h1, h2⟩
    exact ⟨h1, fun i hi => by have := h2 i hi; rw [nthP_map ps i hi, nthP_map qs i (by omega)] at this; exact this⟩
  · rintro ⟨h1, h2⟩
    exact ⟨h1, fun i hi => by rw [nthP_map ps i hi, nthP_map qs i (by omega)]; exact h2 i hi⟩
end Go.Proofs.Ytbojhfphgiimnaa
