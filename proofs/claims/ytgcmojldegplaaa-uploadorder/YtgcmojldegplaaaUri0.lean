/- Plain facts: bytes encoded and decoded. -/
import Derived.Test.YtgcmojldegplaaaBits
namespace Go.Proofs.Ytgcmojldegplaaa

/-- bytes that stay as they are -/
def plainN (n : Nat) : Bool := decide (97 ≤ n ∧ n ≤ 122 ∨ 65 ≤ n ∧ n ≤ 90 ∨ 48 ≤ n ∧ n ≤ 57 ∨ n = 45 ∨ n = 46 ∨ n = 95 ∨ n = 126)
def plainB (c : UInt8) : Bool := plainN c.toNat
/-- with the slash, too, if it may -/
def keptB (slash : Bool) (c : UInt8) : Bool := plainB c || (slash && decide (c = 47))
/-- the digit of a half of a byte -/
def hexU (n : Nat) : UInt8 := nth [48, 49, 50, 51, 52, 53, 54, 55, 56, 57, 65, 66, 67, 68, 69, 70] n
/-- a byte, encoded -/
def enc1 (slash : Bool) (c : UInt8) : List UInt8 := if keptB slash c then [c] else [37, hexU (c.toNat / 16), hexU (c.toNat % 16)]
def encL (slash : Bool) : List UInt8 → List UInt8
  | [] => []
  | c :: l => enc1 slash c ++ encL slash l
/-- what a digit stands for; 16: it is none -/
def digN (n : Nat) : Nat := if 48 ≤ n ∧ n ≤ 57 then n - 48 else if 97 ≤ n ∧ n ≤ 102 then n - 87 else if 65 ≤ n ∧ n ≤ 70 then n - 55 else 16
def digB (c : UInt8) : Nat := digN c.toNat
def decL : List UInt8 → Option (List UInt8)
  | [] => some []
  | c :: l =>
    if c = 37 then
      match l with
      | a :: b :: m => if digB a < 16 ∧ digB b < 16 then (decL m).map (UInt8.ofNat (digB a * 16 + digB b) :: ·) else none
      | _ => none
    else (decL l).map (c :: ·)

theorem enc1_length (s : Bool) (c : UInt8) : (enc1 s c).length ≤ 3 := by unfold enc1; split <;> simp
theorem encL_append (s : Bool) (l m : List UInt8) : encL s (l ++ m) = encL s l ++ encL s m := by
  induction l with
  | nil => rfl
  | cons x l ih => simp only [List.cons_append, encL, ih, List.append_assoc]
theorem encL_length (s : Bool) (l : List UInt8) : (encL s l).length ≤ 3 * l.length := by
  induction l with
  | nil => simp [encL]
  | cons x l ih => simp only [encL, List.length_append, List.length_cons]; have := enc1_length s x; omega
theorem take_nth (l : List UInt8) (k : Nat) (h : k < l.length) : l.take (k + 1) = l.take k ++ [nth l k] := by
  rw [nth_eq l k h, List.take_append_getElem]
theorem encL_take (s : Bool) (l : List UInt8) (k : Nat) (h : k < l.length) : encL s (l.take (k + 1)) = encL s (l.take k) ++ enc1 s (nth l k) := by
  rw [take_nth l k h, encL_append]; simp [encL]

theorem decL_cons (c : UInt8) (l : List UInt8) (h : ¬ c = 37) : decL (c :: l) = (decL l).map (c :: ·) := by
  match l with
  | [] => simp [decL, h]
  | [x] => rw [decL.eq_3 _ _ (by intro a b m e; cases e), if_neg h]
  | a :: b :: m => rw [decL, if_neg h]
theorem decL_hex (a b : UInt8) (m : List UInt8) (ha : digB a < 16) (hb : digB b < 16) : decL (37 :: a :: b :: m) = (decL m).map (UInt8.ofNat (digB a * 16 + digB b) :: ·) := by
  rw [decL, if_pos rfl]; simp only [if_pos (And.intro ha hb)]
theorem decL_bad (a b : UInt8) (m : List UInt8) (h : ¬ (digB a < 16 ∧ digB b < 16)) : decL (37 :: a :: b :: m) = none := by
  rw [decL, if_pos rfl]; simp only [if_neg h]
theorem decL_short (l : List UInt8) (h : l.length < 2) : decL (37 :: l) = none := by
  match l, h with
  | [], _ => rw [decL.eq_3 _ _ (by intro a b m e; cases e), if_pos rfl]
  | [_], _ => rw [decL.eq_3 _ _ (by intro a b m e; cases e), if_pos rfl]

theorem digB_hexU (n : Nat) (h : n < 16) : digB (hexU n) = n := by
  have : ∀ n : Nat, n < 16 → digB (hexU n) = n := by decide
  exact this n h
theorem not37 (s : Bool) (c : UInt8) (h : keptB s c = true) : ¬ c = 37 := by
  rintro rfl
  cases s <;> exact absurd h (by decide)
/-- what was encoded is decoded as it was -/
theorem dec_enc1 (s : Bool) (c : UInt8) (m : List UInt8) : decL (enc1 s c ++ m) = (decL m).map (c :: ·) := by
  unfold enc1
  by_cases h : keptB s c = true
  · rw [if_pos h]
    exact decL_cons c m (not37 s c h)
  · rw [if_neg h]
    have hc := c.toNat_lt
    show decL (37 :: hexU (c.toNat / 16) :: hexU (c.toNat % 16) :: m) = _
    rw [decL_hex _ _ _ (by rw [digB_hexU _ (by omega)]; omega) (by rw [digB_hexU _ (by omega)]; omega), digB_hexU _ (by omega), digB_hexU _ (by omega)]
    have e : c.toNat / 16 * 16 + c.toNat % 16 = c.toNat := by omega
    rw [e, UInt8.ofNat_toNat]
theorem dec_enc (s : Bool) (l : List UInt8) : decL (encL s l) = some l := by
  induction l with
  | nil => rfl
  | cons c l ih => rw [encL, dec_enc1, ih]; rfl
theorem encL_inj (s : Bool) (l m : List UInt8) (h : encL s l = encL s m) : l = m := by
  have := congrArg decL h
  rw [dec_enc, dec_enc] at this
  injection this
theorem decL_length (n : Nat) : ∀ l m : List UInt8, l.length ≤ n → decL l = some m → m.length ≤ l.length := by
  induction n with
  | zero =>
    intro l m hl h
    have : l = [] := List.eq_nil_of_length_eq_zero (by omega)
    subst this
    rw [decL] at h
    injection h with h
    subst h; exact Nat.le_refl _
  | succ n ih =>
    intro l m hl h
    match l with
    | [] =>
      rw [decL] at h
      injection h with h
      subst h; exact Nat.le_refl _
    | c :: l =>
      by_cases hc : c = 37
      · subst hc
        match l with
        | [] => rw [decL_short _ (by simp)] at h; cases h
        | [a] => rw [decL_short _ (by simp)] at h; cases h
        | a :: b :: k =>
          by_cases hd : digB a < 16 ∧ digB b < 16
          · rw [decL_hex a b k hd.1 hd.2] at h
            obtain ⟨m', hm, rfl⟩ := Option.map_eq_some_iff.1 h
            have := ih k m' (by simp at hl; omega) hm
            simp; omega
          · rw [decL_bad a b k hd] at h; cases h
      · rw [decL_cons c l hc] at h
        obtain ⟨m', hm, rfl⟩ := Option.map_eq_some_iff.1 h
        have := ih l m' (by simp at hl; omega) hm
        simp; omega

/-- Decode's answer -/
def decS (l : List UInt8) : List UInt8 := (decL l).getD []
def decC (l : List UInt8) : Int := if (decL l).isSome then 0 else 13
theorem decS_none {l : List UInt8} (h : decL l = none) : decS l = [] := by unfold decS; rw [h]; rfl
theorem decC_none {l : List UInt8} (h : decL l = none) : decC l = 13 := by unfold decC; rw [h]; rfl
theorem decS_some {l m : List UInt8} (h : decL l = some m) : decS l = m := by unfold decS; rw [h]; rfl
theorem decC_some {l m : List UInt8} (h : decL l = some m) : decC l = 0 := by unfold decC; rw [h]; rfl
theorem drop_nth (l : List UInt8) (k : Nat) (h : k < l.length) : l.drop k = nth l k :: l.drop (k + 1) := by
  rw [nth_eq l k h]; exact List.drop_eq_getElem_cons h
/-- so far out is what the first k signs stand for -/
def DecTo (l out : List UInt8) (k : Nat) : Prop := decL l = (decL (l.drop k)).map (out ++ ·)
theorem DecTo.zero (l : List UInt8) : DecTo l [] 0 := by
  unfold DecTo; rw [List.drop_zero]; cases decL l <;> rfl
theorem DecTo.plain {l out : List UInt8} {k : Nat} (h : DecTo l out k) (hk : k < l.length) (hc : ¬ nth l k = 37) : DecTo l (out ++ [nth l k]) (k + 1) := by
  unfold DecTo at h ⊢
  rw [h, drop_nth l k hk, decL_cons _ _ hc]
  cases decL (l.drop (k + 1)) <;> simp
theorem DecTo.hex {l out : List UInt8} {k : Nat} (h : DecTo l out k) (hk : k + 2 < l.length) (hc : nth l k = 37) (h1 : digB (nth l (k + 1)) < 16) (h2 : digB (nth l (k + 2)) < 16) :
    DecTo l (out ++ [UInt8.ofNat (digB (nth l (k + 1)) * 16 + digB (nth l (k + 2)))]) (k + 3) := by
  unfold DecTo at h ⊢
  rw [h, drop_nth l k (by omega), hc, drop_nth l (k + 1) (by omega), drop_nth l (k + 1 + 1) (by omega), decL_hex _ _ _ h1 h2]
  cases decL (l.drop (k + 3)) <;> simp
theorem DecTo.short {l out : List UInt8} {k : Nat} (h : DecTo l out k) (hk : k < l.length) (hc : nth l k = 37) (hs : l.length - k < 3) : decL l = none := by
  unfold DecTo at h
  rw [h, drop_nth l k hk, hc, decL_short _ (by simp; omega)]; rfl
theorem DecTo.bad {l out : List UInt8} {k : Nat} (h : DecTo l out k) (hk : k + 2 < l.length) (hc : nth l k = 37) (hb : ¬ (digB (nth l (k + 1)) < 16 ∧ digB (nth l (k + 2)) < 16)) : decL l = none := by
  unfold DecTo at h
  rw [h, drop_nth l k (by omega), hc, drop_nth l (k + 1) (by omega), drop_nth l (k + 1 + 1) (by omega), decL_bad _ _ _ hb]; rfl
theorem DecTo.done {l out : List UInt8} {k : Nat} (h : DecTo l out k) (hk : l.length ≤ k) : decL l = some out := by
  unfold DecTo at h
  rw [h, List.drop_eq_nil_of_le hk]; simp [decL]
theorem digN_le (n : Nat) : digN n ≤ 16 := by unfold digN; split; omega; split; omega; split <;> omega
end Go.Proofs.Ytgcmojldegplaaa
