/- Plain facts: bytes and words as the walk spells them, and slices of bytes in a world. · Plain facts: the bitwise operations and the wraps of bytes and words, as the walk spells them. · Plain facts: bytes encoded and decoded. · Plain facts: a text cut at a sign. · Plain facts: numbers as digits, and texts that are numbers. · Pairs of texts, as slices in a world. · Plain facts: lines, tokens and values of a request. · A text's bytes one by one. · Small facts on what is handed back. -/
import Derived.Test.YtgjmaeodgcigdaaGreatDoorProg
import Derived.WalkKit
import Derived.Below
import Derived.Deep.QuietTactic
import Derived.BigQuiet
namespace Go.Proofs.YtgjmaeodgcigdaaGreatDoor
open Go.RowKit

theorem cell_lt {w : World} {a : Addr} {v : Value} (h : w.cell? a = some v) : a.block < w.heap.size := by
  unfold World.cell? at h
  by_cases hb : a.block < w.heap.size
  · exact hb
  · rw [Array.getElem?_eq_none (by omega)] at h; simp at h

/-- the byte at a place (0 behind the end) -/
def nth (l : List UInt8) (i : Nat) : UInt8 := l.getD i 0

theorem nth_eq (l : List UInt8) (i : Nat) (h : i < l.length) : nth l i = l[i] := by
  unfold nth; rw [List.getD_eq_getElem?_getD, List.getElem?_eq_getElem h]; rfl

/-- a slice of bytes in a world -/
structure IsB (w : World) (a : Option Addr) (len cap : Nat) (l : List UInt8) : Prop where
  len_eq : l.length = len
  le : len ≤ cap
  max : cap ≤ maxLen
  nil : a = none → cap = 0
  cells : 0 < len → ∃ b off, a = some ⟨b, off, none⟩ ∧ ∀ i, i < len → w.cell? ⟨b, off + i, none⟩ = some (.int .u8 ((nth l i).toNat : Int))

theorem IsB.drewN {w : World} {a : Option Addr} {len cap : Nat} {l : List UInt8} (h : IsB w a len cap l) (n : Nat) : IsB (w.drewN n) a len cap l :=
  ⟨h.len_eq, h.le, h.max, h.nil, fun hp => by obtain ⟨b, off, e, hc⟩ := h.cells hp; exact ⟨b, off, e, fun i hi => by simpa using hc i hi⟩⟩

theorem IsB.below {w w' : World} {n : Nat} {a : Option Addr} {len cap : Nat} {l : List UInt8} (h : IsB w a len cap l) (hb : Below n w w') (hn : n = w.heap.size) : IsB w' a len cap l :=
  ⟨h.len_eq, h.le, h.max, h.nil, fun hp => by
    obtain ⟨b, off, e, hc⟩ := h.cells hp
    refine ⟨b, off, e, fun i hi => ?_⟩
    have := hc i hi
    have hlt : b < w.heap.size := cell_lt this
    rw [hb.cell (p := ⟨b, off + i, none⟩) (by simpa [hn] using hlt)]; exact this⟩


theorem bel_drewN {B : Nat} {a w : World} (h : Below B a w) (n : Nat) : Below B a (w.drewN n) := h.trans ⟨rfl, rfl, rfl, Nat.le_refl _, fun _ _ => rfl⟩

/-- what the frame tells of a slice of numbers that came in -/
def IsRow (k : IntKind) (w : World) (a : Option Addr) (len cap : Nat) (zs : List Int) : Prop :=
  (a = none ∧ len = 0 ∧ cap = 0 ∧ zs = []) ∨
  ∃ x, a = some x ∧ len ≤ cap ∧ cap ≤ maxLen ∧ zs.length = cap ∧ (∀ i, i < zs.length → w.cell? (x.add i) = some (.int k (zs.getD i 0))) ∧ ∀ n ∈ zs, (Lit.int k n).wf = true

theorem IsRow.bytes {w : World} {a : Option Addr} {len cap : Nat} {zs : List Int} (h : IsRow .u8 w a len cap zs) : ∃ l, IsB w a len cap l := by
  rcases h with ⟨rfl, rfl, rfl, _⟩ | ⟨⟨b, off, spot⟩, rfl, h2, h3, h4, h5, h6⟩
  · exact ⟨[], rfl, Nat.le_refl _, Nat.zero_le _, fun _ => rfl, fun h => by omega⟩
  · refine ⟨(zs.take len).map fun n => UInt8.ofNat n.toNat, by simp; omega, h2, h3, fun h => (by cases h), fun hl => ?_⟩
    have hc := h5 0 (by omega)
    have hspot : spot = none := by simpa [Addr.add] using World.cell?_spot hc
    subst hspot
    refine ⟨b, off, rfl, fun i hi => ?_⟩
    have hi' : i < zs.length := by omega
    have hx := h5 i hi'
    rw [Addr.add_lit] at hx
    rw [hx]
    have hm : zs.getD i 0 ∈ zs := by rw [List.getD_eq_getElem?_getD, List.getElem?_eq_getElem hi']; exact List.getElem_mem hi'
    have hw : 0 ≤ zs.getD i 0 ∧ zs.getD i 0 ≤ 255 := by simpa [Lit.wf, IntKind.min, IntKind.max, IntKind.signed, IntKind.bits] using h6 _ hm
    have hn : nth ((zs.take len).map fun n => UInt8.ofNat n.toNat) i = UInt8.ofNat (zs.getD i 0).toNat := by
      rw [nth_eq _ _ (by simp; omega)]
      simp [List.getElem?_eq_getElem hi']
    rw [hn]
    congr 2
    rw [UInt8.toNat_ofNat']
    omega
end Go.Proofs.YtgjmaeodgcigdaaGreatDoor
namespace Go.Proofs.YtgjmaeodgcigdaaGreatDoor

theorem wrap8_nat (n : Nat) (h : n < 256) : IntKind.u8.wrap (n : Int) = n := by
  simp [IntKind.wrap, IntKind.signed, IntKind.bits]; omega
theorem wrap32_nat (n : Nat) (h : n < 4294967296) : IntKind.u32.wrap (n : Int) = n := by
  simp [IntKind.wrap, IntKind.signed, IntKind.bits]; omega
theorem wrap64_nat (n : Nat) (h : n < 18446744073709551616) : IntKind.u64.wrap (n : Int) = n := by
  simp [IntKind.wrap, IntKind.signed, IntKind.bits]; omega

theorem wrapi64_in (n : Int) (h0 : -9223372036854775808 ≤ n) (h1 : n ≤ 9223372036854775807) : IntKind.i64.wrap n = n := by
  simp [IntKind.wrap, IntKind.signed, IntKind.bits]; omega

theorem of8 (a : UInt8) : BitVec.ofInt 8 (a.toNat : Int) = a.toBitVec := by rw [BitVec.ofInt_natCast]; exact BitVec.eq_of_toNat_eq (by simp)
theorem of32 (a : UInt32) : BitVec.ofInt 32 (a.toNat : Int) = a.toBitVec := by rw [BitVec.ofInt_natCast]; exact BitVec.eq_of_toNat_eq (by simp)
theorem of64 (a : UInt64) : BitVec.ofInt 64 (a.toNat : Int) = a.toBitVec := by rw [BitVec.ofInt_natCast]; exact BitVec.eq_of_toNat_eq (by simp)

theorem bits_xor8 (a b : UInt8) : bits .xor .u8 (a.toNat : Int) (b.toNat : Int) = ((a ^^^ b).toNat : Int) := by
  show IntKind.u8.wrap ((BitVec.ofInt 8 (a.toNat : Int) ^^^ BitVec.ofInt 8 (b.toNat : Int)).toNat : Int) = _
  rw [of8, of8]; exact wrap8_nat _ (a ^^^ b).toNat_lt
theorem bits_or8 (a b : UInt8) : bits .or .u8 (a.toNat : Int) (b.toNat : Int) = ((a ||| b).toNat : Int) := by
  show IntKind.u8.wrap ((BitVec.ofInt 8 (a.toNat : Int) ||| BitVec.ofInt 8 (b.toNat : Int)).toNat : Int) = _
  rw [of8, of8]; exact wrap8_nat _ (a ||| b).toNat_lt
theorem bits_and8 (a b : UInt8) : bits .and .u8 (a.toNat : Int) (b.toNat : Int) = ((a &&& b).toNat : Int) := by
  show IntKind.u8.wrap ((BitVec.ofInt 8 (a.toNat : Int) &&& BitVec.ofInt 8 (b.toNat : Int)).toNat : Int) = _
  rw [of8, of8]; exact wrap8_nat _ (a &&& b).toNat_lt
theorem bits_xor32 (a b : UInt32) : bits .xor .u32 (a.toNat : Int) (b.toNat : Int) = ((a ^^^ b).toNat : Int) := by
  show IntKind.u32.wrap ((BitVec.ofInt 32 (a.toNat : Int) ^^^ BitVec.ofInt 32 (b.toNat : Int)).toNat : Int) = _
  rw [of32, of32]; exact wrap32_nat _ (a ^^^ b).toNat_lt
theorem bits_or32 (a b : UInt32) : bits .or .u32 (a.toNat : Int) (b.toNat : Int) = ((a ||| b).toNat : Int) := by
  show IntKind.u32.wrap ((BitVec.ofInt 32 (a.toNat : Int) ||| BitVec.ofInt 32 (b.toNat : Int)).toNat : Int) = _
  rw [of32, of32]; exact wrap32_nat _ (a ||| b).toNat_lt
theorem bits_and32 (a b : UInt32) : bits .and .u32 (a.toNat : Int) (b.toNat : Int) = ((a &&& b).toNat : Int) := by
  show IntKind.u32.wrap ((BitVec.ofInt 32 (a.toNat : Int) &&& BitVec.ofInt 32 (b.toNat : Int)).toNat : Int) = _
  rw [of32, of32]; exact wrap32_nat _ (a &&& b).toNat_lt

theorem toNat8_zero (a : UInt8) : (((a.toNat : Int) == 0) = true) ↔ a = 0 := by
  rw [beq_iff_eq]
  constructor
  · intro h; exact UInt8.toNat_inj.1 (by simpa using h)
  · rintro rfl; rfl
theorem toNat8_inj (a b : UInt8) : ((a.toNat : Int) = (b.toNat : Int)) ↔ a = b := by
  rw [Int.ofNat_inj, UInt8.toNat_inj]

theorem or_xor_zero (d x y : UInt8) : (d ||| (x ^^^ y) = 0) ↔ (d = 0 ∧ x = y) := by
  rw [UInt8.or_eq_zero_iff, UInt8.xor_eq_zero_iff]
end Go.Proofs.YtgjmaeodgcigdaaGreatDoor
namespace Go.Proofs.YtgjmaeodgcigdaaGreatDoor

/-- bytes that stay as they are -/
def plainN (n : Nat) : Bool := decide (97 ≤ n ∧ n ≤ 122 ∨ 65 ≤ n ∧ n ≤ 90 ∨ 48 ≤ n ∧ n ≤ 57 ∨ n = 45 ∨ n = 46 ∨ n = 95 ∨ n = 126)
def plainB (c : UInt8) : Bool := plainN c.toNat
/-- with the slash, too, if it may -/
def keptB (slash : Bool) (c : UInt8) : Bool := plainB c || (slash && decide (c = 47))
/-- the digit of a half of a byte -/
def hexU (n : Nat) : UInt8 := nth [48, 49, 50, 51, 52, 53, 54, 55, 56, 57, 65, 66, 67, 68, 69, 70] n
/-- a byte, encoded -/
def enc1 (slash : Bool) (c : UInt8) : List UInt8 := if keptB slash c then [c] else [37, hexU (c.toNat / 16), hexU (c.toNat % 16)]
def encL (slash : Bool) : List UInt8 → List UInt8
  | [] => []
  | c :: l => enc1 slash c ++ encL slash l
/-- what a digit stands for; 16: it is none -/
def digN (n : Nat) : Nat := if 48 ≤ n ∧ n ≤ 57 then n - 48 else if 97 ≤ n ∧ n ≤ 102 then n - 87 else if 65 ≤ n ∧ n ≤ 70 then n - 55 else 16
def digB (c : UInt8) : Nat := digN c.toNat
def decL : List UInt8 → Option (List UInt8)
  | [] => some []
  | c :: l =>
    if c = 37 then
      match l with
      | a :: b :: m => if digB a < 16 ∧ digB b < 16 then (decL m).map (UInt8.ofNat (digB a * 16 + digB b) :: ·) else none
      | _ => none
    else (decL l).map (c :: ·)

theorem enc1_length (s : Bool) (c : UInt8) : (enc1 s c).length ≤ 3 := by unfold enc1; split <;> simp
theorem encL_append (s : Bool) (l m : List UInt8) : encL s (l ++ m) = encL s l ++ encL s m := by
  induction l with
  | nil => rfl
  | cons x l ih => simp only [List.cons_append, encL, ih, List.append_assoc]
theorem encL_length (s : Bool) (l : List UInt8) : (encL s l).length ≤ 3 * l.length := by
  induction l with
  | nil => simp [encL]
  | cons x l ih => simp only [encL, List.length_append, List.length_cons]; have := enc1_length s x; omega
theorem take_nth (l : List UInt8) (k : Nat) (h : k < l.length) : l.take (k + 1) = l.take k ++ [nth l k] := by
  rw [nth_eq l k h, List.take_append_getElem]
theorem encL_take (s : Bool) (l : List UInt8) (k : Nat) (h : k < l.length) : encL s (l.take (k + 1)) = encL s (l.take k) ++ enc1 s (nth l k) := by
  rw [take_nth l k h, encL_append]; simp [encL]

theorem decL_cons (c : UInt8) (l : List UInt8) (h : ¬ c = 37) : decL (c :: l) = (decL l).map (c :: ·) := by
  match l with
  | [] => simp [decL, h]
  | [x] => rw [decL.eq_3 _ _ (by intro a b m e; cases e), if_neg h]
  | a :: b :: m => rw [decL, if_neg h]
theorem decL_hex (a b : UInt8) (m : List UInt8) (ha : digB a < 16) (hb : digB b < 16) : decL (37 :: a :: b :: m) = (decL m).map (UInt8.ofNat (digB a * 16 + digB b) :: ·) := by
  rw [decL, if_pos rfl]; simp only [if_pos (And.intro ha hb)]
theorem decL_bad (a b : UInt8) (m : List UInt8) (h : ¬ (digB a < 16 ∧ digB b < 16)) : decL (37 :: a :: b :: m) = none := by
  rw [decL, if_pos rfl]; simp only [if_neg h]
theorem decL_short (l : List UInt8) (h : l.length < 2) : decL (37 :: l) = none := by
  match l, h with
  | [], _ => rw [decL.eq_3 _ _ (by intro a b m e; cases e), if_pos rfl]
  | [_], _ => rw [decL.eq_3 _ _ (by intro a b m e; cases e), if_pos rfl]

theorem digB_hexU (n : Nat) (h : n < 16) : digB (hexU n) = n := by
  have : ∀ n : Nat, n < 16 → digB (hexU n) = n := by decide
  exact this n h
theorem not37 (s : Bool) (c : UInt8) (h : keptB s c = true) : ¬ c = 37 := by
  rintro rfl
  cases s <;> exact absurd h (by decide)
/-- what was encoded is decoded as it was -/
theorem dec_enc1 (s : Bool) (c : UInt8) (m : List UInt8) : decL (enc1 s c ++ m) = (decL m).map (c :: ·) := by
  unfold enc1
  by_cases h : keptB s c = true
  · rw [if_pos h]
    exact decL_cons c m (not37 s c h)
  · rw [if_neg h]
    have hc := c.toNat_lt
    show decL (37 :: hexU (c.toNat / 16) :: hexU (c.toNat % 16) :: m) = _
    rw [decL_hex _ _ _ (by rw [digB_hexU _ (by omega)]; omega) (by rw [digB_hexU _ (by omega)]; omega), digB_hexU _ (by omega), digB_hexU _ (by omega)]
    have e : c.toNat / 16 * 16 + c.toNat % 16 = c.toNat := by omega
    rw [e, UInt8.ofNat_toNat]
theorem dec_enc (s : Bool) (l : List UInt8) : decL (encL s l) = some l := by
  induction l with
  | nil => rfl
  | cons c l ih => rw [encL, dec_enc1, ih]; rfl
theorem encL_inj (s : Bool) (l m : List UInt8) (h : encL s l = encL s m) : l = m := by
  have := congrArg decL h
  rw [dec_enc, dec_enc] at this
  injection this
theorem decL_length (n : Nat) : ∀ l m : List UInt8, l.length ≤ n → decL l = some m → m.length ≤ l.length := by
  induction n with
  | zero =>
    intro l m hl h
    have : l = [] := List.eq_nil_of_length_eq_zero (by omega)
    subst this
    rw [decL] at h
    injection h with h
    subst h; exact Nat.le_refl _
  | succ n ih =>
    intro l m hl h
    match l with
    | [] =>
      rw [decL] at h
      injection h with h
      subst h; exact Nat.le_refl _
    | c :: l =>
      by_cases hc : c = 37
      · subst hc
        match l with
        | [] => rw [decL_short _ (by simp)] at h; cases h
        | [a] => rw [decL_short _ (by simp)] at h; cases h
        | a :: b :: k =>
          by_cases hd : digB a < 16 ∧ digB b < 16
          · rw [decL_hex a b k hd.1 hd.2] at h
            obtain ⟨m', hm, rfl⟩ := Option.map_eq_some_iff.1 h
            have := ih k m' (by simp at hl; omega) hm
            simp; omega
          · rw [decL_bad a b k hd] at h; cases h
      · rw [decL_cons c l hc] at h
        obtain ⟨m', hm, rfl⟩ := Option.map_eq_some_iff.1 h
        have := ih l m' (by simp at hl; omega) hm
        simp; omega

/-- Decode's answer -/
def decS (l : List UInt8) : List UInt8 := (decL l).getD []
def decC (l : List UInt8) : Int := if (decL l).isSome then 0 else 13
theorem decS_none {l : List UInt8} (h : decL l = none) : decS l = [] := by unfold decS; rw [h]; rfl
theorem decC_none {l : List UInt8} (h : decL l = none) : decC l = 13 := by unfold decC; rw [h]; rfl
theorem decS_some {l m : List UInt8} (h : decL l = some m) : decS l = m := by unfold decS; rw [h]; rfl
theorem decC_some {l m : List UInt8} (h : decL l = some m) : decC l = 0 := by unfold decC; rw [h]; rfl
theorem drop_nth (l : List UInt8) (k : Nat) (h : k < l.length) : l.drop k = nth l k :: l.drop (k + 1) := by
  rw [nth_eq l k h]; exact List.drop_eq_getElem_cons h
/-- so far out is what the first k signs stand for -/
def DecTo (l out : List UInt8) (k : Nat) : Prop := decL l = (decL (l.drop k)).map (out ++ ·)
theorem DecTo.zero (l : List UInt8) : DecTo l [] 0 := by
  unfold DecTo; rw [List.drop_zero]; cases decL l <;> rfl
theorem DecTo.plain {l out : List UInt8} {k : Nat} (h : DecTo l out k) (hk : k < l.length) (hc : ¬ nth l k = 37) : DecTo l (out ++ [nth l k]) (k + 1) := by
  unfold DecTo at h ⊢
  rw [h, drop_nth l k hk, decL_cons _ _ hc]
  cases decL (l.drop (k + 1)) <;> simp
theorem DecTo.hex {l out : List UInt8} {k : Nat} (h : DecTo l out k) (hk : k + 2 < l.length) (hc : nth l k = 37) (h1 : digB (nth l (k + 1)) < 16) (h2 : digB (nth l (k + 2)) < 16) :
    DecTo l (out ++ [UInt8.ofNat (digB (nth l (k + 1)) * 16 + digB (nth l (k + 2)))]) (k + 3) := by
  unfold DecTo at h ⊢
  rw [h, drop_nth l k (by omega), hc, drop_nth l (k + 1) (by omega), drop_nth l (k + 1 + 1) (by omega), decL_hex _ _ _ h1 h2]
  cases decL (l.drop (k + 3)) <;> simp
theorem DecTo.short {l out : List UInt8} {k : Nat} (h : DecTo l out k) (hk : k < l.length) (hc : nth l k = 37) (hs : l.length - k < 3) : decL l = none := by
  unfold DecTo at h
  rw [h, drop_nth l k hk, hc, decL_short _ (by simp; omega)]; rfl
theorem DecTo.bad {l out : List UInt8} {k : Nat} (h : DecTo l out k) (hk : k + 2 < l.length) (hc : nth l k = 37) (hb : ¬ (digB (nth l (k + 1)) < 16 ∧ digB (nth l (k + 2)) < 16)) : decL l = none := by
  unfold DecTo at h
  rw [h, drop_nth l k (by omega), hc, drop_nth l (k + 1) (by omega), drop_nth l (k + 1 + 1) (by omega), decL_bad _ _ _ hb]; rfl
theorem DecTo.done {l out : List UInt8} {k : Nat} (h : DecTo l out k) (hk : l.length ≤ k) : decL l = some out := by
  unfold DecTo at h
  rw [h, List.drop_eq_nil_of_le hk]; simp [decL]
theorem digN_le (n : Nat) : digN n ≤ 16 := by unfold digN; split; omega; split; omega; split <;> omega
end Go.Proofs.YtgjmaeodgcigdaaGreatDoor
namespace Go.Proofs.YtgjmaeodgcigdaaGreatDoor

/-- a text of these bytes -/
def str (l : List UInt8) : ByteArray := ByteArray.mk l.toArray
theorem str_list (l : List UInt8) : (str l).data.toList = l := by simp [str]
theorem str_of (s : ByteArray) : str s.data.toList = s := by simp [str]
theorem str_size (l : List UInt8) : (str l).size = l.length := by simp [str, ByteArray.size]
theorem str_inj {l m : List UInt8} (h : str l = str m) : l = m := by rw [← str_list l, h, str_list]
theorem ext_take (s : ByteArray) (k : Nat) : s.extract 0 k = str (s.data.toList.take k) := by
  apply ByteArray.ext
  apply Array.toList_inj.1
  simp [str, ByteArray.data_extract]
theorem ext_drop (s : ByteArray) (k : Nat) : s.extract k s.size = str (s.data.toList.drop k) := by
  apply ByteArray.ext
  apply Array.toList_inj.1
  have e : s.size = s.data.size := rfl
  rw [ByteArray.data_extract, e]
  simp [str]
  refine List.take_of_length_le ?_
  rw [List.length_drop, Array.length_toList]
  exact Nat.le_refl _

/-- ahead of the first such sign, and behind it -/
def headL (c : UInt8) (l : List UInt8) : List UInt8 := l.takeWhile (· != c)
def tailL (c : UInt8) (l : List UInt8) : List UInt8 := (l.dropWhile (· != c)).drop 1
theorem head_at (c : UInt8) (l : List UInt8) (k : Nat) (hk : k < l.length) (h : ∀ i, i < k → ¬ nth l i = c) (hc : nth l k = c) : headL c l = l.take k ∧ tailL c l = l.drop (k + 1) := by
  induction l generalizing k with
  | nil => simp at hk
  | cons x l ih =>
    cases k with
    | zero =>
      have e : x = c := hc
      subst e
      simp [headL, tailL]
    | succ k =>
      have hx : ¬ x = c := h 0 (by omega)
      have := ih k (by simpa using hk) (fun i hi => h (i + 1) (by omega)) hc
      unfold headL tailL at this ⊢
      rw [List.takeWhile_cons_of_pos (by simpa using hx), List.dropWhile_cons_of_pos (by simpa using hx), this.1, this.2]
      simp
theorem head_none (c : UInt8) (l : List UInt8) (h : ∀ i, i < l.length → ¬ nth l i = c) : headL c l = l ∧ tailL c l = [] := by
  induction l with
  | nil => exact ⟨rfl, rfl⟩
  | cons x l ih =>
    have hx : ¬ x = c := h 0 (by simp)
    have := ih (fun i hi => h (i + 1) (by simp; omega))
    unfold headL tailL at this ⊢
    rw [List.takeWhile_cons_of_pos (by simpa using hx), List.dropWhile_cons_of_pos (by simpa using hx), this.1, this.2]
    exact ⟨rfl, rfl⟩
theorem headL_length (c : UInt8) (l : List UInt8) : (headL c l).length ≤ l.length := List.Sublist.length_le (List.takeWhile_sublist _)
theorem tailL_length (c : UInt8) (l : List UInt8) : (tailL c l).length ≤ l.length := by
  unfold tailL; rw [List.length_drop]
  have := List.Sublist.length_le (List.dropWhile_sublist (p := fun x => x != c) (l := l))
  omega
/-- is the sign there? -/
def hasL (c : UInt8) (l : List UInt8) : Bool := decide (c ∈ l)
theorem has_at (c : UInt8) (l : List UInt8) (k : Nat) (hk : k < l.length) (hc : nth l k = c) : hasL c l = true := by
  unfold hasL; rw [decide_eq_true_eq, ← hc, nth_eq l k hk]; exact List.getElem_mem _
theorem has_none (c : UInt8) (l : List UInt8) (h : ∀ i, i < l.length → ¬ nth l i = c) : hasL c l = false := by
  unfold hasL; rw [decide_eq_false_iff_not]
  intro hm
  obtain ⟨i, hi, e⟩ := List.getElem_of_mem hm
  exact h i hi (by rw [nth_eq l i hi]; exact e)
end Go.Proofs.YtgjmaeodgcigdaaGreatDoor
namespace Go.Proofs.YtgjmaeodgcigdaaGreatDoor

def dgB (n : Nat) : UInt8 := UInt8.ofNat (48 + n % 10)
theorem dgB_val (n : Nat) : (dgB n).toNat = 48 + n % 10 := by unfold dgB; rw [UInt8.toNat_ofNat']; omega
/-- the digits of a number -/
def digitsF : Nat → Nat → List UInt8
  | 0, _ => []
  | f + 1, n => if n < 10 then [dgB n] else digitsF f (n / 10) ++ [dgB n]
def digitsL (n : Nat) : List UInt8 := digitsF (n + 1) n
theorem digitsF_fuel (f n : Nat) (h : n < f) : digitsF f n = digitsF (n + 1) n := by
  induction f using Nat.strongRecOn generalizing n with
  | _ f ih =>
    cases f with
    | zero => omega
    | succ f =>
      by_cases hn : n < 10
      · simp [digitsF, hn]
      · have hd : n / 10 < n := by omega
        rw [digitsF, digitsF, if_neg hn, if_neg hn, ih f (by omega) (n / 10) (by omega), ih n (by omega) (n / 10) (by omega)]
theorem digitsL_small {n : Nat} (h : n < 10) : digitsL n = [dgB n] := by unfold digitsL; rw [digitsF, if_pos h]
theorem digitsL_big {n : Nat} (h : ¬ n < 10) : digitsL n = digitsL (n / 10) ++ [dgB n] := by
  unfold digitsL
  rw [digitsF, if_neg h, digitsF_fuel n (n / 10) (by omega)]
theorem digitsL_len (k n : Nat) (h : n < 10 ^ k) (hk : 0 < k) : (digitsL n).length ≤ k := by
  induction k generalizing n with
  | zero => omega
  | succ k ih =>
    by_cases hn : n < 10
    · rw [digitsL_small hn]; simp
    · rw [digitsL_big hn, List.length_append]
      have hk0 : 0 < k := by
        rcases Nat.eq_zero_or_pos k with rfl | h0
        · simp at h; omega
        · exact h0
      have := ih (n / 10) (by rw [Nat.pow_succ] at h; omega) hk0
      simp; omega
theorem digitsL_len20 (n : Nat) (h : n < 18446744073709551616) : (digitsL n).length ≤ 20 := digitsL_len 20 n (by omega) (by omega)

/-- is a sign a digit? what digits say -/
def isD (c : UInt8) : Bool := decide (48 ≤ c.toNat) && decide (c.toNat ≤ 57)
def vD (c : UInt8) : Nat := c.toNat - 48
def valL (l : List UInt8) : Nat := l.foldl (fun n c => n * 10 + vD c) 0
theorem valL_snoc (l : List UInt8) (c : UInt8) : valL (l ++ [c]) = valL l * 10 + vD c := by unfold valL; rw [List.foldl_append]; rfl
theorem val_from (l : List UInt8) (n : Nat) : n ≤ l.foldl (fun n c => n * 10 + vD c) n := by
  induction l generalizing n with
  | nil => exact Nat.le_refl _
  | cons c l ih => rw [List.foldl_cons]; exact Nat.le_trans (by omega) (ih _)
theorem valL_take (l : List UInt8) (k : Nat) : valL (l.take k) ≤ valL l := by
  have e : valL l = (l.drop k).foldl (fun n c => n * 10 + vD c) (valL (l.take k)) := by
    conv => lhs; rw [← List.take_append_drop k l]
    unfold valL; rw [List.foldl_append]
  rw [e]; exact val_from _ _
theorem valL_take_succ (l : List UInt8) (k : Nat) (h : k < l.length) : valL (l.take (k + 1)) = valL (l.take k) * 10 + vD (nth l k) := by rw [take_nth l k h, valL_snoc]
/-- a text that is a number up to most -/
def NumOk (l : List UInt8) (most : Nat) : Prop := 1 ≤ l.length ∧ l.length ≤ 20 ∧ (1 < l.length → ¬ nth l 0 = 48) ∧ (∀ c ∈ l, isD c = true) ∧ valL l ≤ most
open Classical in
noncomputable def numL (l : List UInt8) (most : Nat) : Option Nat := if NumOk l most then some (valL l) else none
noncomputable def numV (l : List UInt8) (most : Nat) : Nat := (numL l most).getD 0
noncomputable def numE (l : List UInt8) (most : Nat) : Int := if (numL l most).isSome then 0 else 5
theorem num_yes {l : List UInt8} {most : Nat} (h : NumOk l most) : numV l most = valL l ∧ numE l most = 0 := by
  unfold numV numE numL; rw [if_pos h]; exact ⟨rfl, rfl⟩
theorem num_no {l : List UInt8} {most : Nat} (h : ¬ NumOk l most) : numV l most = 0 ∧ numE l most = 5 := by
  unfold numV numE numL; rw [if_neg h]; exact ⟨rfl, rfl⟩
theorem mem_nth {l : List UInt8} {k : Nat} (h : k < l.length) : nth l k ∈ l := by rw [nth_eq l k h]; exact List.getElem_mem _
theorem num_bad {l : List UInt8} {most k : Nat} (hk : k < l.length) (h : isD (nth l k) = false) : ¬ NumOk l most := by
  rintro ⟨_, _, _, h4, _⟩
  have := h4 _ (mem_nth hk)
  rw [h] at this; cases this
theorem num_over {l : List UInt8} {most k : Nat} (hk : k < l.length) (h : most < valL (l.take k) * 10 + vD (nth l k)) : ¬ NumOk l most := by
  rintro ⟨_, _, _, _, h5⟩
  rw [← valL_take_succ l k hk] at h
  have := valL_take l (k + 1)
  omega

/-- a number's digits are a number's text -/
theorem dgB_isD (n : Nat) : isD (dgB n) = true := by unfold isD; rw [dgB_val]; simp; omega
theorem dgB_vD (n : Nat) : vD (dgB n) = n % 10 := by unfold vD; rw [dgB_val]; omega
theorem digits_facts (n : Nat) : valL (digitsL n) = n ∧ (∀ c ∈ digitsL n, isD c = true) ∧ 1 ≤ (digitsL n).length ∧ (0 < n → ¬ nth (digitsL n) 0 = 48) ∧ (n < 10 → (digitsL n).length = 1) := by
  induction n using Nat.strongRecOn with
  | _ n ih =>
    by_cases hn : n < 10
    · rw [digitsL_small hn]
      refine ⟨?_, ?_, by simp, ?_, fun _ => rfl⟩
      · have := dgB_vD n
        simp [valL, this]; omega
      · intro c hc; rw [List.mem_singleton.1 hc]; exact dgB_isD n
      · intro h0 e
        have e2 : dgB n = 48 := e
        have := dgB_val n
        rw [e2] at this
        have e3 : (48 : UInt8).toNat = 48 := rfl
        omega
    · obtain ⟨h1, h2, h3, h4, _⟩ := ih (n / 10) (by omega)
      rw [digitsL_big hn]
      refine ⟨?_, ?_, by simp, ?_, fun h => absurd h hn⟩
      · rw [valL_snoc, h1, dgB_vD]; omega
      · intro c hc
        rcases List.mem_append.1 hc with hc | hc
        · exact h2 c hc
        · rw [List.mem_singleton.1 hc]; exact dgB_isD n
      · intro _
        have e : nth (digitsL (n / 10) ++ [dgB n]) 0 = nth (digitsL (n / 10)) 0 := by
          unfold nth
          rw [List.getD_eq_getElem?_getD, List.getD_eq_getElem?_getD, List.getElem?_append_left (by omega)]
        rw [e]; exact h4 (by omega)
theorem num_digits (n most : Nat) (h : n ≤ most) (hm : most < 18446744073709551616) : NumOk (digitsL n) most := by
  obtain ⟨h1, h2, h3, h4, h5⟩ := digits_facts n
  refine ⟨h3, digitsL_len20 n (by omega), fun hl => h4 ?_, h2, by rw [h1]; exact h⟩
  rcases Nat.eq_zero_or_pos n with rfl | h0
  · rw [h5 (by omega)] at hl; omega
  · exact h0
end Go.Proofs.YtgjmaeodgcigdaaGreatDoor
namespace Go.Proofs.YtgjmaeodgcigdaaGreatDoor
open Go.RowKit

abbrev Pr := List UInt8 × List UInt8
def nthP (l : List Pr) (i : Nat) : Pr := l.getD i ([], [])
theorem nthP_eq (l : List Pr) (i : Nat) (h : i < l.length) : nthP l i = l[i] := by
  unfold nthP; rw [List.getD_eq_getElem?_getD, List.getElem?_eq_getElem h]; rfl
/-- a slice of pairs in a world -/
structure IsP (w : World) (a : Option Addr) (n cap : Nat) (l : List Pr) : Prop where
  len_eq : l.length = n
  le : n ≤ cap
  max : cap ≤ maxLen
  nil : a = none → cap = 0
  cells : 0 < n → ∃ b off, a = some ⟨b, off, none⟩ ∧ ∀ i, i < n → w.cell? ⟨b, off + i * 2, none⟩ = some (.string (str (nthP l i).1)) ∧ w.cell? ⟨b, off + i * 2 + 1, none⟩ = some (.string (str (nthP l i).2))
theorem IsP.below {w w' : World} {n m : Nat} {a : Option Addr} {cap : Nat} {l : List Pr} (h : IsP w a m cap l) (hb : Below n w w') (hn : n = w.heap.size) : IsP w' a m cap l :=
  ⟨h.len_eq, h.le, h.max, h.nil, fun hp => by
    obtain ⟨b, off, e, hc⟩ := h.cells hp
    refine ⟨b, off, e, fun i hi => ?_⟩
    obtain ⟨h1, h2⟩ := hc i hi
    have hlt : b < w.heap.size := cell_lt h1
    rw [hb.cell (p := ⟨b, off + i * 2, none⟩) (by simpa [hn] using hlt), hb.cell (p := ⟨b, off + i * 2 + 1, none⟩) (by simpa [hn] using hlt)]
    exact ⟨h1, h2⟩⟩

/-- the value of the first of that name -/
def findL (l : List Pr) (nm : List UInt8) : Option (List UInt8) := (l.find? (fun p => p.1 == nm)).map (·.2)
theorem find_at (l : List Pr) (nm : List UInt8) (k : Nat) (hk : k < l.length) (h : ∀ i, i < k → ¬ (nthP l i).1 = nm) (hc : (nthP l k).1 = nm) : findL l nm = some (nthP l k).2 := by
  induction l generalizing k with
  | nil => simp at hk
  | cons p l ih =>
    cases k with
    | zero =>
      have e : p.1 = nm := hc
      unfold findL
      rw [List.find?_cons_of_pos (by simpa using e)]; rfl
    | succ k =>
      have hx : ¬ p.1 = nm := h 0 (by omega)
      have := ih k (by simpa using hk) (fun i hi => h (i + 1) (by omega)) hc
      unfold findL at this ⊢
      rw [List.find?_cons_of_neg (by simpa using hx)]; exact this
theorem find_none (l : List Pr) (nm : List UInt8) (h : ∀ i, i < l.length → ¬ (nthP l i).1 = nm) : findL l nm = none := by
  induction l with
  | nil => rfl
  | cons p l ih =>
    have hx : ¬ p.1 = nm := h 0 (by simp)
    have := ih (fun i hi => h (i + 1) (by simp; omega))
    unfold findL at this ⊢
    rw [List.find?_cons_of_neg (by simpa using hx)]; exact this
theorem str_toList (l : List UInt8) : (str l).toList = l := by rw [ByteArray.toList_eq, str_list]
theorem str_empty (l : List UInt8) : (str l).toList.isEmpty = l.isEmpty := by rw [str_toList]
theorem str_beq (l m : List UInt8) : ((str l).toList == (str m).toList) = (l == m) := by rw [str_toList, str_toList]
theorem beq_dec (l m : List UInt8) : (l == m) = decide (l = m) := by by_cases h : l = m <;> simp [h]
theorem beq_no {l m : List UInt8} (h : ¬ l = m) : ((str l).toList == m) = false := by rw [str_toList, beq_eq_false_iff_ne]; exact h
theorem beq_no2 {l m : List UInt8} (h : ¬ l = m) : ((str l).toList == (ByteArray.mk m.toArray).toList) = false := by
  have := str_beq l m
  unfold str at this ⊢
  rw [this, beq_eq_false_iff_ne]; exact h

theorem str_append2 (x y : List UInt8) : str x ++ str y = str (x ++ y) := by unfold str; rw [ByteArray.mk_append_mk]
theorem ret_s {a b : ByteArray} (h : a = b) : Ending.returned (.string a) = .returned (.string b) := by rw [h]
end Go.Proofs.YtgjmaeodgcigdaaGreatDoor
namespace Go.Proofs.YtgjmaeodgcigdaaGreatDoor

/-- by small letters -/
def lowN (n : Nat) : Nat := if 65 ≤ n ∧ n ≤ 90 then n + 32 else n
def lowB (c : UInt8) : UInt8 := UInt8.ofNat (lowN c.toNat)
def smallL (l : List UInt8) : List UInt8 := l.map lowB
theorem lowB_val (c : UInt8) : (lowB c).toNat = lowN c.toNat := by
  have := c.toNat_lt
  unfold lowB; rw [UInt8.toNat_ofNat']; unfold lowN; split <;> omega
theorem smallL_length (l : List UInt8) : (smallL l).length = l.length := by simp [smallL]
/-- signs of a token; of a text between two signs -/
def tokN (n : Nat) : Bool := decide (97 ≤ n ∧ n ≤ 122 ∨ 65 ≤ n ∧ n ≤ 90 ∨ 48 ≤ n ∧ n ≤ 57 ∨ n = 45 ∨ n = 95)
def tokB (c : UInt8) : Bool := tokN c.toNat
def tokenL (l : List UInt8) : Bool := l.all tokB && decide (1 ≤ l.length ∧ l.length ≤ 64)
def betwB (lo hi : Nat) (c : UInt8) : Bool := decide (lo ≤ c.toNat ∧ c.toNat ≤ hi)
def betwL (lo hi most : Nat) (l : List UInt8) : Bool := l.all (betwB lo hi) && decide (l.length ≤ most)
def valueL (l : List UInt8) : Bool := betwL 32 126 1024 l && (decide (l = []) || (!decide (nth l 0 = 32) && !decide (nth l (l.length - 1) = 32)))
theorem all_nth {p : UInt8 → Bool} {l : List UInt8} {k : Nat} (hk : k < l.length) (h : p (nth l k) = false) : l.all p = false := by
  rw [List.all_eq_false]
  exact ⟨nth l k, mem_nth hk, by rw [h]; simp⟩
theorem all_take {p : UInt8 → Bool} {l : List UInt8} {k : Nat} (hk : k < l.length) (h : (l.take k).all p = true) (h1 : p (nth l k) = true) : (l.take (k + 1)).all p = true := by
  rw [take_nth l k hk, List.all_append, h]; simp [h1]

/-- the first line, and what is behind its end -/
def lineL : List UInt8 → Option (List UInt8 × List UInt8)
  | [] => none
  | a :: t => if a = 13 ∧ nth t 0 = 10 ∧ 0 < t.length then some ([], t.drop 1) else (lineL t).map fun x => (a :: x.1, x.2)
theorem line_at (l : List UInt8) (k : Nat) (hk : k + 1 < l.length) (h : ∀ i, i < k → ¬ (nth l i = 13 ∧ nth l (i + 1) = 10)) (h1 : nth l k = 13) (h2 : nth l (k + 1) = 10) : lineL l = some (l.take k, l.drop (k + 2)) := by
  induction l generalizing k with
  | nil => simp at hk
  | cons a t ih =>
    cases k with
    | zero =>
      have e1 : a = 13 := h1
      have e2 : nth t 0 = 10 := h2
      rw [lineL, if_pos ⟨e1, e2, by simpa using hk⟩]; simp
    | succ k =>
      have h0 : ¬ (a = 13 ∧ nth t 0 = 10) := h 0 (by omega)
      rw [lineL, if_neg (fun x => h0 ⟨x.1, x.2.1⟩), ih k (by simpa using hk) (fun i hi => h (i + 1) (by omega)) h1 h2]
      simp
theorem line_none (l : List UInt8) (h : ∀ i, i + 1 < l.length → ¬ (nth l i = 13 ∧ nth l (i + 1) = 10)) : lineL l = none := by
  induction l with
  | nil => rfl
  | cons a t ih =>
    have h0 : ¬ (a = 13 ∧ nth t 0 = 10 ∧ 0 < t.length) := fun x => h 0 (by simp; exact x.2.2) ⟨x.1, x.2.1⟩
    rw [lineL, if_neg h0, ih (fun i hi => h (i + 1) (by simp; omega))]; rfl
theorem line_length {l a b : List UInt8} (h : lineL l = some (a, b)) : a.length + b.length + 2 = l.length := by
  induction l generalizing a b with
  | nil => cases h
  | cons c t ih =>
    rw [lineL] at h
    split at h
    · next hc => cases h; simp; omega
    · obtain ⟨x, hx, e⟩ := Option.map_eq_some_iff.1 h
      cases e
      have := ih hx
      simp; omega
def lineA (l : List UInt8) : List UInt8 := ((lineL l).getD ([], [])).1
def lineB (l : List UInt8) : List UInt8 := ((lineL l).getD ([], [])).2

/-- without blanks ahead and behind -/
def ltrim (l : List UInt8) : List UInt8 := l.dropWhile (· == 32)
def rtrim (l : List UInt8) : List UInt8 := (l.reverse.dropWhile (· == 32)).reverse
def trimL (l : List UInt8) : List UInt8 := rtrim (ltrim l)
theorem ltrim_length (l : List UInt8) : (ltrim l).length ≤ l.length := List.Sublist.length_le (List.dropWhile_sublist _)
theorem rtrim_length (l : List UInt8) : (rtrim l).length ≤ l.length := by
  unfold rtrim; rw [List.length_reverse]
  have := List.Sublist.length_le (List.dropWhile_sublist (p := fun x : UInt8 => x == 32) (l := l.reverse))
  simpa using this
theorem trimL_length (l : List UInt8) : (trimL l).length ≤ l.length := Nat.le_trans (rtrim_length _) (ltrim_length _)
theorem ltrim_cons (l : List UInt8) : ltrim (32 :: l) = ltrim l := by unfold ltrim; simp
theorem ltrim_stop {l : List UInt8} (h : l = [] ∨ ¬ nth l 0 = 32) : ltrim l = l := by
  rcases h with rfl | h
  · rfl
  · cases l with
    | nil => rfl
    | cons a t =>
      have : ¬ a = 32 := h
      unfold ltrim; rw [List.dropWhile_cons_of_neg (by simpa using this)]
theorem rtrim_snoc (l : List UInt8) : rtrim (l ++ [32]) = rtrim l := by unfold rtrim; simp
theorem rtrim_stop {l : List UInt8} (h : l = [] ∨ ¬ nth l (l.length - 1) = 32) : rtrim l = l := by
  rcases h with rfl | h
  · rfl
  · unfold rtrim
    have e : l.reverse.dropWhile (· == 32) = l.reverse := by
      cases hr : l.reverse with
      | nil => rfl
      | cons a t =>
        have hl : l = t.reverse ++ [a] := by rw [← List.reverse_reverse l, hr]; simp
        have : nth l (l.length - 1) = a := by
          rw [hl, nth_eq _ _ (by simp)]; simp
        rw [this] at h
        rw [List.dropWhile_cons_of_neg (by simpa using h)]
    rw [e, List.reverse_reverse]
end Go.Proofs.YtgjmaeodgcigdaaGreatDoor
namespace Go.Proofs.YtgjmaeodgcigdaaGreatDoor
def sb (s : ByteArray) (i : Int) : UInt8 := nth s.data.toList i.toNat

theorem ixs (s : ByteArray) (i : Int) (h0 : 0 ≤ i) (h1 : i < (s.size : Int)) (u : World) : (Instr.index 9 (.string s) (.int .i64 i)).run Tryz.prog u = .ok (.int .u8 ((sb s i).toNat : Int)) u := by
  rw [run_index_string u 9 _ .i64 i Tryz.underlying9]
  rw [dif_pos ⟨h0, h1⟩]
  have : i.toNat < s.data.toList.length := by have : s.data.toList.length = s.size := by rw [Array.length_toList]; rfl
                                              omega
  unfold sb
  rw [nth_eq _ _ this]
  rfl
end Go.Proofs.YtgjmaeodgcigdaaGreatDoor
namespace Go.Proofs.YtgjmaeodgcigdaaGreatDoor
open Go.RowKit

theorem ret_b {a b : Bool} (h : a = b) : Ending.returned (.bool a) = .returned (.bool b) := by rw [h]
theorem ret_i {a b : Int} (h : a = b) : Ending.returned (.int .i64 a) = .returned (.int .i64 b) := by rw [h]
theorem ret_sc {a b : List UInt8} {e f : Int} (h : a = b) (h2 : e = f) : Ending.returned (.tuple #[.string ⟨a.toArray⟩, .int .i64 e]) = .returned (.tuple #[.string ⟨b.toArray⟩, .int .i64 f]) := by rw [h, h2]
theorem ret_ss {a b c d : ByteArray} (h : a = b) (h2 : c = d) : Ending.returned (.tuple #[.string a, .string c]) = .returned (.tuple #[.string b, .string d]) := by rw [h, h2]
theorem ret_sb {a b : ByteArray} {c d : Bool} (h : a = b) (h2 : c = d) : Ending.returned (.tuple #[.string a, .bool c]) = .returned (.tuple #[.string b, .bool d]) := by rw [h, h2]
end Go.Proofs.YtgjmaeodgcigdaaGreatDoor
