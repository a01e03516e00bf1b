/- Plain facts: parts as bytes, there and back. -/
import Derived.Test.YtbojhfphgiimnaaPartS
namespace Go.Proofs.Ytbojhfphgiimnaa

theorem nth_zero_cons (x : UInt8) (l : List UInt8) : nth (x :: l) 0 = x := by simp [nth]
theorem nth_succ_cons (x : UInt8) (l : List UInt8) (k : Nat) : nth (x :: l) (1 + k) = nth l k := by rw [Nat.add_comm]; simp [nth]
theorem nth_app (l m : List UInt8) (k : Nat) (h : k < l.length) : nth (l ++ m) k = nth l k := by
  unfold nth; rw [List.getD_eq_getElem?_getD, List.getD_eq_getElem?_getD, List.getElem?_append_left h]
theorem nth_beL (n size k j : Nat) (h : j < k) : nth (beL n size k) j = beAt n size j := by
  rw [nth_eq _ _ (by rw [beL_length]; exact h)]; simp [beL]

theorem numTo_be (m : UInt8) (n size : Nat) (r : List UInt8) : ∀ j, j ≤ size → numTo (m :: (beL n size size ++ r)) j = n / 2 ^ (8 * (size - j)) % 256 ^ j
  | 0, _ => by simp [numTo, Nat.mod_one]
  | j + 1, h => by
    rw [numTo, numTo_be m n size r j (by omega), nth_succ_cons, nth_app _ _ _ (by rw [beL_length]; omega), nth_beL _ _ _ _ (by omega)]
    unfold beAt
    rw [UInt8.toNat_ofNat']
    have e1 : 8 * (size - j) = 8 * (size - 1 - j) + 8 := by omega
    have e2 : 8 * (size - (j + 1)) = 8 * (size - 1 - j) := by omega
    rw [e1, e2, Nat.pow_add, ← Nat.div_div_eq_div_mul]
    generalize n / 2 ^ (8 * (size - 1 - j)) = x
    have e3 : (2 : Nat) ^ 8 = 256 := by decide
    have e4 : (256 : Nat) ^ (j + 1) = 256 * 256 ^ j := by rw [Nat.pow_succ, Nat.mul_comm]
    rw [e3, e4, Nat.mod_mul, Nat.mul_comm, Nat.add_comm]

theorem numTo_all (m : UInt8) (n size : Nat) (r : List UInt8) (h : n < 256 ^ size) : numTo (m :: (beL n size size ++ r)) size = n := by
  rw [numTo_be m n size r size (Nat.le_refl _), Nat.sub_self]
  simp [Nat.mod_eq_of_lt h]

/-- a part's bytes -/
def enc (p : Pt) : List UInt8 := putL [] p
theorem behL_eq (l : List UInt8) (m : UInt8) (n s k : Nat) : behL l m n s k = l ++ behL [] m n s k := by simp [behL]
theorem putL_eq (l : List UInt8) (p : Pt) : putL l p = l ++ enc p := by
  unfold enc putL
  split
  · unfold uintL; rw [behL_eq]
  · split
    · unfold bytesL; rw [behL_eq, List.append_assoc]
    · split
      · unfold textL; rw [behL_eq, List.append_assoc]
      · split
        · simp [boolL]
        · unfold listL; rw [behL_eq]

/-! what is read of what was written -/
theorem rdUint_back (n : Nat) (r : List UInt8) (h : n < 18446744073709551616) : rdUint (behL [] 117 n 8 8 ++ r) false = (n, r, false) := by
  have e : behL [] 117 n 8 8 ++ r = 117 :: (beL n 8 8 ++ r) := by simp [behL]
  have hn := numTo_all 117 n 8 r (by have : (256 : Nat) ^ 8 = 18446744073709551616 := by decide
                                     omega)
  have hl := beL_length n 8 8
  rw [e]
  unfold rdUint
  rw [if_pos (by unfold okH; rw [nth_zero_cons]; simp [hl]), hn]
  refine Prod.ext rfl (Prod.ext ?_ rfl)
  show List.drop 9 (117 :: (beL n 8 8 ++ r)) = r
  rw [List.drop_succ_cons, List.drop_left' hl]
theorem rdSome_back (m : UInt8) (b r : List UInt8) (h : b.length < 4294967296) : rdSome m (behL [] m b.length 4 4 ++ b ++ r) false = (b, r, false) := by
  have e : behL [] m b.length 4 4 ++ b ++ r = m :: (beL b.length 4 4 ++ (b ++ r)) := by simp [behL]
  have hn := numTo_all m b.length 4 (b ++ r) (by have : (256 : Nat) ^ 4 = 4294967296 := by decide
                                                 omega)
  have hl := beL_length b.length 4 4
  have hd : List.drop 5 (m :: (beL b.length 4 4 ++ (b ++ r))) = b ++ r := by rw [List.drop_succ_cons, List.drop_left' hl]
  rw [e]
  unfold rdSome
  rw [if_pos (by unfold okB okH; rw [nth_zero_cons, hn]; simp [hl]; omega), hn, ← List.drop_drop, hd]
  refine Prod.ext ?_ (Prod.ext ?_ rfl)
  · exact List.take_left
  · exact List.drop_left
theorem rdBool_back (t : Bool) (r : List UInt8) : rdBool ([if t then 116 else 102] ++ r) false = (t, r, false) := by
  cases t <;> simp [rdBool, okT, nth]
theorem rdList_back (n : Nat) (r : List UInt8) (most : Int) (h : (n : Int) ≤ most) (hn : n < 4294967296) : rdList (behL [] 108 n 4 4 ++ r) false most = (n, r, false) := by
  have e : behL [] 108 n 4 4 ++ r = 108 :: (beL n 4 4 ++ r) := by simp [behL]
  have hn := numTo_all 108 n 4 r (by have : (256 : Nat) ^ 4 = 4294967296 := by decide
                                     omega)
  have hl := beL_length n 4 4
  rw [e]
  unfold rdList
  rw [if_pos (by unfold okL okH; rw [nth_zero_cons, hn]; simp [hl, h]), hn]
  refine Prod.ext rfl (Prod.ext ?_ rfl)
  show List.drop 5 (108 :: (beL n 4 4 ++ r)) = r
  rw [List.drop_succ_cons, List.drop_left' hl]

/-- what a part may be -/
structure Pt.ok (p : Pt) : Prop where
  lo : 0 ≤ p.k
  hi : p.k ≤ 4
  num : p.n < 18446744073709551616
  len : p.b.length < 4294967296

theorem enc0 {p : Pt} (h : p.k = 0) : enc p = behL [] 117 p.n 8 8 := by unfold enc putL; rw [if_pos h]; rfl
theorem enc1 {p : Pt} (h : p.k = 1) : enc p = behL [] 98 p.b.length 4 4 ++ p.b := by unfold enc putL; rw [if_neg (by omega), if_pos h]; rfl
theorem enc2 {p : Pt} (h : p.k = 2) : enc p = behL [] 115 p.b.length 4 4 ++ p.b := by unfold enc putL; rw [if_neg (by omega), if_neg (by omega), if_pos h]; rfl
theorem enc3 {p : Pt} (h : p.k = 3) : enc p = [if (p.n % 2 == 1) then 116 else 102] := by unfold enc putL; rw [if_neg (by omega), if_neg (by omega), if_neg (by omega), if_pos h]; rfl
theorem enc4 {p : Pt} (h : p.k = 4) : enc p = behL [] 108 (p.n % 100) 4 4 := by
  unfold enc putL; rw [if_neg (by omega), if_neg (by omega), if_neg (by omega), if_neg (by omega)]
  unfold listL; rw [if_neg (by omega)]; rfl

theorem enc_le (p : Pt) (h : p.b.length ≤ 1048576) (h0 : p.ok) : (enc p).length ≤ 1048600 := by
  have h1 := h0.lo
  have h2 := h0.hi
  have : p.k = 0 ∨ p.k = 1 ∨ p.k = 2 ∨ p.k = 3 ∨ p.k = 4 := by omega
  rcases this with e | e | e | e | e
  · rw [enc0 e, behL_length]; simp
  · rw [enc1 e, List.length_append, behL_length]; simp; omega
  · rw [enc2 e, List.length_append, behL_length]; simp; omega
  · rw [enc3 e]; simp
  · rw [enc4 e, behL_length]; simp
theorem enc_pos (p : Pt) (h0 : p.ok) : 0 < (enc p).length := by
  have h1 := h0.lo
  have h2 := h0.hi
  have : p.k = 0 ∨ p.k = 1 ∨ p.k = 2 ∨ p.k = 3 ∨ p.k = 4 := by omega
  rcases this with e | e | e | e | e
  · rw [enc0 e, behL_length]; simp
  · rw [enc1 e, List.length_append, behL_length]; simp; omega
  · rw [enc2 e, List.length_append, behL_length]; simp; omega
  · rw [enc3 e]; simp
  · rw [enc4 e, behL_length]; simp

/-- all parts -/
def encA : List Pt → List UInt8
  | [] => []
  | p :: l => enc p ++ encA l
theorem encA_app (l m : List Pt) : encA (l ++ m) = encA l ++ encA m := by
  induction l with
  | nil => rfl
  | cons p l ih => simp only [List.cons_append, encA, ih, List.append_assoc]
theorem encA_le (l : List Pt) (h : ∀ p ∈ l, p.ok ∧ p.b.length ≤ 1048576) : (encA l).length ≤ l.length * 1048600 := by
  induction l with
  | nil => simp [encA]
  | cons p l ih =>
    have h1 := h p (by simp)
    have h2 := enc_le p h1.2 h1.1
    have h3 := ih (fun q hq => h q (by simp [hq]))
    simp only [encA, List.length_append, List.length_cons]; omega

/-- what is read of a part -/
def gotP (p : Pt) : Pt :=
  if p.k = 0 then ⟨0, p.n, []⟩ else if p.k = 1 then ⟨1, 0, p.b⟩ else if p.k = 2 then ⟨2, 0, p.b⟩ else if p.k = 3 then ⟨3, if p.n % 2 == 1 then 1 else 0, []⟩ else ⟨4, p.n % 100, []⟩

theorem sameP_got (p : Pt) (h : p.ok) : sameP p (gotP p) = true := by
  have h1 := h.lo
  have h2 := h.hi
  have : p.k = 0 ∨ p.k = 1 ∨ p.k = 2 ∨ p.k = 3 ∨ p.k = 4 := by omega
  rcases this with e | e | e | e | e
  · simp [sameP, gotP, e]
  · simp [sameP, gotP, e, eqB_self]
  · simp [sameP, gotP, e, eqB_self]
  · simp only [sameP, gotP, e]
    rcases Nat.mod_two_eq_zero_or_one p.n with e2 | e2 <;> simp [e2]
  · simp [sameP, gotP, e]
end Go.Proofs.Ytbojhfphgiimnaa
