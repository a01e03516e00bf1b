/- Plain facts: what is read of what was written. · What a seal says, plain: it is read as it was written. · The library's contracts at this dump, as the guide's tool lays them. · The keys of a transaction's map, in order. · What digest.New and Hash's Add, Sum do (beside Sha256). -/
import Derived.Test.YthjdmfbengpepaaGreatB6
import Derived.Test.YthjdmfbengpepaaGreatB5
import Derived.Test.YthjdmfbengpepaaGreatB18
import Derived.Shelf.SlGeneric
import Derived.Shelf.SlIterI.Nil
import Derived.Shelf.SortM.Plain
import Derived.Shelf.SortM.SortNone
import Derived.Test.YthjdmfbengpepaaGreatProg
import Derived.Test.YthjdmfbengpepaaGreatB28
import Derived.Test.YthjdmfbengpepaaGreatAdd
import Derived.Test.YthjdmfbengpepaaGreatB9
import Derived.Test.YthjdmfbengpepaaGreatB11
namespace Go.Proofs.YthjdmfbengpepaaGreat

theorem nth_zero_cons (x : UInt8) (l : List UInt8) : nth (x :: l) 0 = x := by simp [nth]
theorem nth_succ_cons (x : UInt8) (l : List UInt8) (k : Nat) : nth (x :: l) (1 + k) = nth l k := by rw [Nat.add_comm]; simp [nth]
theorem nth_app (l m : List UInt8) (k : Nat) (h : k < l.length) : nth (l ++ m) k = nth l k := by
  unfold nth; rw [List.getD_eq_getElem?_getD, List.getD_eq_getElem?_getD, List.getElem?_append_left h]
theorem nth_beL (n size k j : Nat) (h : j < k) : nth (beL n size k) j = beAt n size j := by
  rw [nth_eq _ _ (by rw [beL_length]; exact h)]; simp [beL]

theorem numTo_be (m : UInt8) (n size : Nat) (r : List UInt8) : ∀ j, j ≤ size → numTo (m :: (beL n size size ++ r)) j = n / 2 ^ (8 * (size - j)) % 256 ^ j
  | 0, _ => by simp [numTo, Nat.mod_one]
  | j + 1, h => by
    rw [numTo, numTo_be m n size r j (by omega), nth_succ_cons, nth_app _ _ _ (by rw [beL_length]; omega), nth_beL _ _ _ _ (by omega)]
    unfold beAt
    rw [UInt8.toNat_ofNat']
    have e1 : 8 * (size - j) = 8 * (size - 1 - j) + 8 := by omega
    have e2 : 8 * (size - (j + 1)) = 8 * (size - 1 - j) := by omega
    rw [e1, e2, Nat.pow_add, ← Nat.div_div_eq_div_mul]
    generalize n / 2 ^ (8 * (size - 1 - j)) = x
    have e3 : (2 : Nat) ^ 8 = 256 := by decide
    have e4 : (256 : Nat) ^ (j + 1) = 256 * 256 ^ j := by rw [Nat.pow_succ, Nat.mul_comm]
    rw [e3, e4, Nat.mod_mul, Nat.mul_comm, Nat.add_comm]

theorem numTo_all (m : UInt8) (n size : Nat) (r : List UInt8) (h : n < 256 ^ size) : numTo (m :: (beL n size size ++ r)) size = n := by
  rw [numTo_be m n size r size (Nat.le_refl _), Nat.sub_self]
  simp [Nat.mod_eq_of_lt h]

theorem behL_eq (l : List UInt8) (m : UInt8) (n s k : Nat) : behL l m n s k = l ++ behL [] m n s k := by simp [behL]
theorem rdUint_back (n : Nat) (r : List UInt8) (h : n < 18446744073709551616) : rdUint (behL [] 117 n 8 8 ++ r) false = (n, r, false) := by
  have e : behL [] 117 n 8 8 ++ r = 117 :: (beL n 8 8 ++ r) := by simp [behL]
  have hn := numTo_all 117 n 8 r (by have : (256 : Nat) ^ 8 = 18446744073709551616 := by decide
                                     omega)
  have hl := beL_length n 8 8
  rw [e]
  unfold rdUint
  rw [if_pos (by unfold okH; rw [nth_zero_cons]; simp [hl]), hn]
  refine Prod.ext rfl (Prod.ext ?_ rfl)
  show List.drop 9 (117 :: (beL n 8 8 ++ r)) = r
  rw [List.drop_succ_cons, List.drop_left' hl]
theorem rdSome_back (m : UInt8) (b r : List UInt8) (h : b.length < 4294967296) : rdSome m (behL [] m b.length 4 4 ++ b ++ r) false = (b, r, false) := by
  have e : behL [] m b.length 4 4 ++ b ++ r = m :: (beL b.length 4 4 ++ (b ++ r)) := by simp [behL]
  have hn := numTo_all m b.length 4 (b ++ r) (by have : (256 : Nat) ^ 4 = 4294967296 := by decide
                                                 omega)
  have hl := beL_length b.length 4 4
  have hd : List.drop 5 (m :: (beL b.length 4 4 ++ (b ++ r))) = b ++ r := by rw [List.drop_succ_cons, List.drop_left' hl]
  rw [e]
  unfold rdSome
  rw [if_pos (by unfold okB okH; rw [nth_zero_cons, hn]; simp [hl]; omega), hn, ← List.drop_drop, hd]
  refine Prod.ext ?_ (Prod.ext ?_ rfl)
  · exact List.take_left
  · exact List.drop_left
theorem rdBool_back (t : Bool) (r : List UInt8) : rdBool ([if t then 116 else 102] ++ r) false = (t, r, false) := by
  cases t <;> simp [rdBool, okT, nth]
theorem rdList_back (n : Nat) (r : List UInt8) (most : Int) (h : (n : Int) ≤ most) (hn : n < 4294967296) : rdList (behL [] 108 n 4 4 ++ r) false most = (n, r, false) := by
  have e : behL [] 108 n 4 4 ++ r = 108 :: (beL n 4 4 ++ r) := by simp [behL]
  have hn := numTo_all 108 n 4 r (by have : (256 : Nat) ^ 4 = 4294967296 := by decide
                                     omega)
  have hl := beL_length n 4 4
  rw [e]
  unfold rdList
  rw [if_pos (by unfold okL okH; rw [nth_zero_cons, hn]; simp [hl, h]), hn]
  refine Prod.ext rfl (Prod.ext ?_ rfl)
  show List.drop 5 (108 :: (beL n 4 4 ++ r)) = r
  rw [List.drop_succ_cons, List.drop_left' hl]
end Go.Proofs.YthjdmfbengpepaaGreat
namespace Go.Proofs.YthjdmfbengpepaaGreat
open Go.RowKit

theorem fold_pre (xs : Qs) : ∀ b : List UInt8, ∃ R, xs.foldl (fun b g => uintL b g.1) b = b ++ R := by
  induction xs with
  | nil => intro b; exact ⟨[], by simp⟩
  | cons g xs ih =>
    intro b
    obtain ⟨R, hR⟩ := ih (uintL b g.1)
    refine ⟨behL [] 117 g.1 8 8 ++ R, ?_⟩
    rw [List.foldl_cons, hR]
    unfold uintL
    rw [behL_eq b, List.append_assoc]
theorem seal_form (s : Nat) (l : Qs) (hl : l.length ≤ 48) : ∃ R, sealJ s l = behL [] 115 steleB.length 4 4 ++ steleB ++ (behL [] 117 s 8 8 ++ (behL [] 108 l.length 4 4 ++ R)) := by
  obtain ⟨R, hR⟩ := fold_pre (l.take l.length) (listL (uintL (textL [] steleB) s) (l.length : Int))
  have hH : headJ s l = listL (uintL (textL [] steleB) s) (l.length : Int) ++ R := hR
  have hL : listL (uintL (textL [] steleB) s) (l.length : Int) = behL [] 115 steleB.length 4 4 ++ steleB ++ (behL [] 117 s 8 8 ++ behL [] 108 l.length 4 4) := by
    unfold listL uintL textL
    rw [if_neg (by omega), behL_eq (behL _ _ _ _ _), behL_eq (behL [] 115 _ _ _ ++ steleB)]
    simp
  refine ⟨R ++ (98 :: beL (sumJ s l).length 4 4 ++ (sumJ s l ++ List.replicate (512 - (preJ s l).length) 0)), ?_⟩
  have hP : preJ s l = headJ s l ++ (98 :: beL (sumJ s l).length 4 4 ++ sumJ s l) := by unfold preJ bytesL behL; simp
  unfold sealJ
  rw [hP, hH, hL]
  simp
theorem seal_hd {s : Nat} {l : Qs} {b : List UInt8} (hs : s < 18446744073709551616) (hl : l.length ≤ 48) (h : sealJ s l = b) : (hdName b).1 = steleB ∧ (hdSeq b).1 = s ∧ (hdN b).2.2 = false ∧ (hdN b).1 = l.length := by
  obtain ⟨R, hR⟩ := seal_form s l hl
  rw [h] at hR
  have h1 : hdName b = (steleB, behL [] 117 s 8 8 ++ (behL [] 108 l.length 4 4 ++ R), false) := by
    unfold hdName
    rw [hR]
    exact rdSome_back 115 steleB _ (by decide)
  have h2 : hdSeq b = (s, behL [] 108 l.length 4 4 ++ R, false) := by
    unfold hdSeq
    rw [h1]
    exact rdUint_back s _ hs
  have h3 : hdN b = (l.length, R, false) := by
    unfold hdN
    rw [h2]
    exact rdList_back l.length R 48 (by omega) (by omega)
  rw [h1, h2, h3]
  exact ⟨rfl, rfl, rfl, rfl⟩
theorem rdUint_bad {r : List UInt8} {bad : Bool} (h : (rdUint r bad).2.2 = true) : (rdUint r bad).1 = 0 := by
  unfold rdUint at h ⊢
  split
  · rename_i h1; rw [if_pos h1] at h; cases h
  · rfl
theorem go_no {p : Pl} {k i : Nat} {r : List UInt8} {bad : Bool} {l : Qs} (h : (rdUint r bad).1 < 49 ∨ p.n ≤ (rdUint r bad).1) : heldGo p (k + 1) i r bad l = none := by
  rw [heldGo, if_pos (.inr h)]
theorem go_yes {p : Pl} {k i : Nat} {r : List UInt8} {bad : Bool} {l : Qs} (h : ¬ ((rdUint r bad).1 < 49 ∨ p.n ≤ (rdUint r bad).1)) : heldGo p (k + 1) i r bad l = heldGo p k (i + 1) (rdUint r bad).2.1 (rdUint r bad).2.2 (l ++ [((rdUint r bad).1, p.rdB ((1 + i : Nat) : Int))]) := by
  rw [heldGo, if_neg]
  rintro (h1 | h1)
  · exact h (.inl (by rw [rdUint_bad h1]; omega))
  · exact h h1
theorem go_bad {p : Pl} : ∀ (k i : Nat) (r : List UInt8) (l : Qs) (q : Qs × Bool), heldGo p k i r false l = some q → q.2 = false := by
  intro k
  induction k with
  | zero => intro i r l q h; rw [heldGo] at h; rw [← Option.some.inj h]
  | succ k ih =>
    intro i r l q h
    rw [heldGo] at h
    split at h
    · cases h
    · rename_i hc
      have : (rdUint r false).2.2 = false := by
        cases hq : (rdUint r false).2.2 with
        | false => rfl
        | true => exact absurd (.inl hq) hc
      rw [this] at h
      exact ih _ _ _ q h
theorem hdSeq_lt (b : List UInt8) : (hdSeq b).1 < 18446744073709551616 := rdUint_lt _ _
theorem held_none {p : Pl} {b : List UInt8} (h : heldGo p (hdN b).1 0 (hdN b).2.1 (hdN b).2.2 [] = none) : heldB p b = none := by unfold heldB; rw [h]; rfl
theorem held_no {p : Pl} {b : List UInt8} {q : Qs × Bool} (h : heldGo p (hdN b).1 0 (hdN b).2.1 (hdN b).2.2 [] = some q) (hs : sealJ (hdSeq b).1 q.1 ≠ b) : heldB p b = none := by
  unfold heldB; rw [h]
  obtain ⟨l, bad⟩ := q
  show (if bad = true ∨ (hdName b).1 ≠ steleB ∨ sealJ (hdSeq b).1 l ≠ b then none else some ((hdSeq b).1, l)) = none
  rw [if_pos (.inr (.inr hs))]
theorem held_yes {p : Pl} {b : List UInt8} {q : Qs × Bool} (h : heldGo p (hdN b).1 0 (hdN b).2.1 (hdN b).2.2 [] = some q) (hl : q.1.length ≤ 48) (hs : sealJ (hdSeq b).1 q.1 = b) : heldB p b = some ((hdSeq b).1, q.1) := by
  obtain ⟨h1, _, h3, _⟩ := seal_hd (hdSeq_lt b) hl hs
  have hb : q.2 = false := by
    rw [h3] at h
    exact go_bad _ _ _ _ q h
  unfold heldB; rw [h]
  obtain ⟨l, bad⟩ := q
  show (if bad = true ∨ (hdName b).1 ≠ steleB ∨ sealJ (hdSeq b).1 l ≠ b then none else some ((hdSeq b).1, l)) = _
  rw [if_neg]
  rintro (h4 | h4 | h4)
  · have hb : bad = false := hb
    rw [hb] at h4; cases h4
  · exact h4 h1
  · exact h4 hs
theorem hdN_le (b : List UInt8) : (hdN b).1 ≤ 48 := by
  unfold hdN rdList
  split
  · rename_i h
    unfold okL at h
    have := (Bool.and_eq_true_iff.1 h).2
    have := of_decide_eq_true this
    show numTo _ 4 ≤ 48
    omega
  · show 0 ≤ 48; omega
end Go.Proofs.YthjdmfbengpepaaGreat
namespace Go.Proofs
open Go.Shelf
def Tryz.keysA_ren : Go.Shelf.Ren := ⟨fun | 7 => 169 | 10 => 176 | n => n, fun | 23 => 170 | 26 => 3 | 3 => 168 | 28 => 227 | 0 => 0 | 27 => 226 | 33 => 145 | 4 => 4 | n => n, fun | n => n⟩
theorem Tryz.keysA : Go.Proofs.SlLaysZI.n7 Tryz.prog Tryz.keysA_ren := {
  mixed := by kernel_rfl
  f7 := ⟨Tryz.f169.name, by decide, Tryz.func169.trans (congrArg some (by kernel_rfl))⟩
  f10 := ⟨Tryz.f176.name, by decide, Tryz.func176.trans (congrArg some (by kernel_rfl))⟩
  t0 := Tryz.underlying0
  a0 := Tryz.isAgg0
  z0 := Tryz.sizeOf0
  v0 := Tryz.zeroValue0
  t4 := Tryz.underlying4
  a4 := Tryz.isAgg4
  z4 := Tryz.sizeOf4
  v4 := Tryz.zeroValue4
  t23 := Tryz.underlying170
  a23 := Tryz.isAgg170
  z23 := Tryz.sizeOf170
  v23 := Tryz.zeroValue170
  t26 := Tryz.underlying3
  a26 := Tryz.isAgg3
  z26 := Tryz.sizeOf3
  v26 := Tryz.zeroValue3
  t27 := Tryz.underlying226
  a27 := Tryz.isAgg226
  z27 := Tryz.sizeOf226
  v27 := Tryz.zeroValue226
  t28 := Tryz.underlying227
  a28 := Tryz.isAgg227
  z28 := Tryz.sizeOf227
  v28 := Tryz.zeroValue227
  t33 := Tryz.underlying145
  a33 := Tryz.isAgg145
  z33 := Tryz.sizeOf145
  v33 := Tryz.zeroValue145 }
def Tryz.sortedA_ren : Go.Shelf.Ren := ⟨fun | 6 => 168 | 8 => 174 | 9 => 175 | 11 => 180 | 13 => 182 | 12 => 181 | 23 => 201 | 24 => 202 | 14 => 192 | 15 => 193 | 16 => 194 | 17 => 195 | 18 => 196 | 19 => 197 | 20 => 198 | 21 => 199 | 22 => 200 | 25 => 210 | 26 => 211 | 27 => 212 | 28 => 213 | 29 => 214 | 30 => 215 | 31 => 216 | n => n, fun | 26 => 3 | 28 => 227 | 24 => 42 | 0 => 0 | 3 => 3 | 37 => 154 | 48 => 126 | 50 => 79 | 4 => 4 | 40 => 247 | 39 => 246 | 45 => 195 | 5 => 5 | 9 => 9 | 51 => 256 | 55 => 259 | 57 => 261 | 58 => 262 | 33 => 145 | n => n, fun | n => n⟩
theorem Tryz.sortedA : Go.Proofs.SlLaysZI.n6 Tryz.prog Tryz.sortedA_ren := {
  mixed := by kernel_rfl
  f6 := ⟨Tryz.f168.name, by decide, Tryz.func168.trans (congrArg some (by kernel_rfl))⟩
  f8 := ⟨Tryz.f174.name, by decide, Tryz.func174.trans (congrArg some (by kernel_rfl))⟩
  f11 := ⟨Tryz.f180.name, by decide, Tryz.func180.trans (congrArg some (by kernel_rfl))⟩
  t0 := Tryz.underlying0
  a0 := Tryz.isAgg0
  z0 := Tryz.sizeOf0
  v0 := Tryz.zeroValue0
  t24 := Tryz.underlying42
  a24 := Tryz.isAgg42
  z24 := Tryz.sizeOf42
  v24 := Tryz.zeroValue42
  t26 := Tryz.underlying3
  a26 := Tryz.isAgg3
  z26 := Tryz.sizeOf3
  v26 := Tryz.zeroValue3
  t28 := Tryz.underlying227
  a28 := Tryz.isAgg227
  z28 := Tryz.sizeOf227
  v28 := Tryz.zeroValue227
  i26 := by kernel_rfl }
def Tryz.sortA_ren : Go.Shelf.Ren := ⟨fun | 5 => 175 | 8 => 182 | 7 => 181 | 19 => 201 | 20 => 202 | 10 => 192 | 11 => 193 | 12 => 194 | 13 => 195 | 14 => 196 | 15 => 197 | 16 => 198 | 17 => 199 | 18 => 200 | 30 => 210 | 31 => 211 | 32 => 212 | 33 => 213 | 34 => 214 | 35 => 215 | 40 => 216 | n => n, fun | 23 => 42 | 25 => 3 | 3 => 3 | 32 => 154 | 22 => 42 | 0 => 0 | 44 => 126 | 46 => 79 | 4 => 4 | 36 => 247 | 35 => 246 | 41 => 195 | 5 => 5 | 9 => 9 | 53 => 256 | 57 => 259 | 63 => 261 | 64 => 262 | n => n, fun | n => n⟩
theorem Tryz.sortA : Go.Proofs.SlLaysM.n5 Tryz.prog Tryz.sortA_ren := {
  mixed := by kernel_rfl
  f5 := ⟨Tryz.f175.name, by decide, Tryz.func175.trans (congrArg some (by kernel_rfl))⟩
  f7 := ⟨Tryz.f181.name, by decide, Tryz.func181.trans (congrArg some (by kernel_rfl))⟩
  f8 := Tryz.func182.trans (congrArg some (by kernel_rfl))
  f10 := ⟨Tryz.f192.name, by decide, Tryz.func192.trans (congrArg some (by kernel_rfl))⟩
  f11 := ⟨Tryz.f193.name, by decide, Tryz.func193.trans (congrArg some (by kernel_rfl))⟩
  f12 := ⟨Tryz.f194.name, by decide, Tryz.func194.trans (congrArg some (by kernel_rfl))⟩
  f13 := ⟨Tryz.f195.name, by decide, Tryz.func195.trans (congrArg some (by kernel_rfl))⟩
  f14 := ⟨Tryz.f196.name, by decide, Tryz.func196.trans (congrArg some (by kernel_rfl))⟩
  f15 := ⟨Tryz.f197.name, by decide, Tryz.func197.trans (congrArg some (by kernel_rfl))⟩
  f16 := ⟨Tryz.f198.name, by decide, Tryz.func198.trans (congrArg some (by kernel_rfl))⟩
  f17 := ⟨Tryz.f199.name, by decide, Tryz.func199.trans (congrArg some (by kernel_rfl))⟩
  f18 := ⟨Tryz.f200.name, by decide, Tryz.func200.trans (congrArg some (by kernel_rfl))⟩
  f19 := Tryz.func201.trans (congrArg some (by kernel_rfl))
  f20 := Tryz.func202.trans (congrArg some (by kernel_rfl))
  f30 := ⟨Tryz.f210.name, by decide, Tryz.func210.trans (congrArg some (by kernel_rfl))⟩
  f31 := Tryz.func211.trans (congrArg some (by kernel_rfl))
  f32 := Tryz.func212.trans (congrArg some (by kernel_rfl))
  f33 := ⟨Tryz.f213.name, by decide, Tryz.func213.trans (congrArg some (by kernel_rfl))⟩
  f34 := ⟨Tryz.f214.name, by decide, Tryz.func214.trans (congrArg some (by kernel_rfl))⟩
  f35 := ⟨Tryz.f215.name, by decide, Tryz.func215.trans (congrArg some (by kernel_rfl))⟩
  f40 := ⟨Tryz.f216.name, by decide, Tryz.func216.trans (congrArg some (by kernel_rfl))⟩
  t0 := Tryz.underlying0
  a0 := Tryz.isAgg0
  z0 := Tryz.sizeOf0
  v0 := Tryz.zeroValue0
  t3 := Tryz.underlying3
  a3 := Tryz.isAgg3
  z3 := Tryz.sizeOf3
  v3 := Tryz.zeroValue3
  t4 := Tryz.underlying4
  a4 := Tryz.isAgg4
  z4 := Tryz.sizeOf4
  v4 := Tryz.zeroValue4
  t5 := Tryz.underlying5
  a5 := Tryz.isAgg5
  z5 := Tryz.sizeOf5
  v5 := Tryz.zeroValue5
  t9 := Tryz.underlying9
  a9 := Tryz.isAgg9
  z9 := Tryz.sizeOf9
  v9 := Tryz.zeroValue9
  t22 := Tryz.underlying42
  a22 := Tryz.isAgg42
  z22 := Tryz.sizeOf42
  v22 := Tryz.zeroValue42
  t23 := Tryz.underlying42
  a23 := Tryz.isAgg42
  z23 := Tryz.sizeOf42
  v23 := Tryz.zeroValue42
  t25 := Tryz.underlying3
  a25 := Tryz.isAgg3
  z25 := Tryz.sizeOf3
  v25 := Tryz.zeroValue3
  t32 := Tryz.underlying154
  a32 := Tryz.isAgg154
  z32 := Tryz.sizeOf154
  v32 := Tryz.zeroValue154
  t35 := Tryz.underlying246
  a35 := Tryz.isAgg246
  z35 := Tryz.sizeOf246
  v35 := Tryz.zeroValue246
  t36 := Tryz.underlying247
  a36 := Tryz.isAgg247
  z36 := Tryz.sizeOf247
  v36 := Tryz.zeroValue247
  t41 := Tryz.underlying195
  a41 := Tryz.isAgg195
  z41 := Tryz.sizeOf195
  v41 := Tryz.zeroValue195
  t44 := Tryz.underlying126
  a44 := Tryz.isAgg126
  z44 := Tryz.sizeOf126
  v44 := Tryz.zeroValue126
  t46 := Tryz.underlying79
  a46 := Tryz.isAgg79
  z46 := Tryz.sizeOf79
  v46 := Tryz.zeroValue79
  t53 := Tryz.underlying256
  a53 := Tryz.isAgg256
  z53 := Tryz.sizeOf256
  v53 := Tryz.zeroValue256
  t57 := Tryz.underlying259
  a57 := Tryz.isAgg259
  z57 := Tryz.sizeOf259
  v57 := Tryz.zeroValue259
  t63 := Tryz.underlying261
  a63 := Tryz.isAgg261
  z63 := Tryz.sizeOf261
  v63 := Tryz.zeroValue261
  t64 := Tryz.underlying262
  a64 := Tryz.isAgg262
  z64 := Tryz.sizeOf262
  v64 := Tryz.zeroValue262 }
end Go.Proofs
namespace Go.Proofs.YthjdmfbengpepaaGreat
open Go.RowKit Go.Sort Go.Shelf

theorem sortsA (m : Nat) : AnyZI.SortsIn Tryz.prog Tryz.sortedA_ren Fence.wide m :=
  ⟨fun blk off cap ss W hH hblk hsz => callsIn_wide.2 (AnyM.slices_Sort_int Tryz.sortA blk off cap ss W hH hblk hsz),
   fun p cap W => callsIn_wide.2 (AnyM.slices_Sort_int_none Tryz.sortA p cap W)⟩
theorem codKeys (mb : Option Nat) (W : World) :
    Calls Tryz.prog 169 #[.map mb] W fun e w' => e = .returned (.func (.func 176) #[] #[.pointer (some ⟨W.heap.size, 0, none⟩)]) ∧ w' = W.alloc (.cells #[.map mb] 170) :=
  (callsIn_wide (n := 5)).1 (AnyZI.keys_in Tryz.keysA Fence.wide 5 trivial rfl mb W)
theorem row_isIs {w : World} {base : Nat} {v : Value} {l : Qs} (h : w.ownsRow base 3 1 v l.length ((l.map fun g => (g.1 : Int)).map encZ)) : ∃ a cap, v = .slice a l.length cap ∧ IsIs w a l.length cap l := by
  have hx : ∀ i, i < l.length → ((l.map fun g => (g.1 : Int)).map encZ)[i]? = some (.int .i64 ((nthL l i).1 : Int)) := fun i hi => by
    unfold nthL
    simp [hi, encZ]
  rcases h.2 with ⟨rfl, h0⟩ | ⟨g, cap, cur, rfl, hb, hg, hle, hmax, hsz, htk⟩
  · refine ⟨none, 0, by rw [h0], ⟨rfl, fun hp => absurd hp (by omega)⟩⟩
  · refine ⟨_, cap, rfl, ⟨rfl, fun hp => ⟨g, 0, rfl, ⟨_, _, hg⟩, fun i hi => ?_⟩⟩⟩
    have hc := World.ownsRow.cells (w := w) (base := base) (e := 3) (size := 1) (v := .slice (some ⟨g, 0, none⟩) l.length cap) (n := l.length) (xs := (l.map fun g => (g.1 : Int)).map encZ) ⟨h.1, .inr ⟨g, cap, cur, rfl, hb, hg, hle, hmax, hsz, htk⟩⟩ (g := g) rfl i _ (hx i hi)
    rw [Addr.add_lit] at hc
    exact hc
/-- slices.Sorted of a map's keys -/
theorem codSorted (w : World) (M : Nat) (l : Qs) (h : OwnM w M l) (hs : SortQ l) (h48 : l.length ≤ 48) :
    Calls Tryz.prog 168 #[.func (.func 176) #[] #[.pointer (some ⟨w.heap.size, 0, none⟩)]] (w.alloc (.cells #[.map (some M)] 170)) fun e w' => ∃ a cap, e = .returned (.slice a l.length cap) ∧ IsIs w' a l.length cap l ∧ Below w.heap.size w w' := by
  have hbl := h.lt
  have hseq : SeqGives Fence.wide 2 Tryz.prog 176 #[.pointer (some ⟨w.heap.size, 0, none⟩)] encZ (fun ss => ss.Perm (intKeys (mapD l))) (Maps.size (mapD l)) (w.alloc (.cells #[.map (some M)] 170)) :=
    AnyZI.keys_gives (ρ := Tryz.keysA_ren) { Tryz.keysA with } Fence.wide _ trivial rfl (by omega) w.heap.size M l.length (mapD l) _ (by simp) (by simp) (ownM_on h ((Below.refl _ w).alloc (Nat.le_refl _) _))
  have cS := AnyZI.sorted_in Tryz.sortedA Fence.wide 5 trivial trivial trivial trivial rfl (by omega) (sortsA _) (enters_of Tryz.func175 (by kernel_rfl) rfl) 176 #[.pointer (some ⟨w.heap.size, 0, none⟩)] trivial (enters_of Tryz.func176 (by kernel_rfl) rfl) _ _ (by rw [mapD_size]; unfold maxLen; omega) (by rw [mapD_size]; omega) _ hseq
  change CallsIn _ _ Tryz.prog 168 _ _ _ at cS
  refine ((callsIn_wide (n := 5)).1 cS).mono ?_
  rintro e w' ⟨v, ss, rfl, hS, hrow, _, hb⟩
  have hlen : ss.length = l.length := by
    have := hS.length_eq
    rw [mapD_keys, List.length_map] at this
    exact this
  have hk : ss.mergeSort (fun x y => decide (x ≤ y)) = l.map fun g => (g.1 : Int) := sorted_keys l hs ss hS
  rw [hk, hlen] at hrow
  obtain ⟨a, cap, rfl, hI⟩ := row_isIs hrow
  exact ⟨a, cap, rfl, hI, ((Below.refl _ w).alloc (Nat.le_refl _) _).trans (hb.mono (by simp))⟩
end Go.Proofs.YthjdmfbengpepaaGreat
namespace Go.Proofs.YthjdmfbengpepaaGreat
open Go.RowKit
attribute [local go_sem ↓] zv83

def kc256 : List Value := kcOf (32 : Nat) s256 135

/-- a Hash, in block G, that has taken A -/
def IsH (w : World) (G : Nat) (A : List UInt8) : Prop :=
  ∃ ws buf, ws.length = 8 ∧ Blk w G 219 (rc kc256 ws buf A.length) ∧ Inv mix256L s256.list A A.length ws buf

theorem IsH.on {w w' : World} {G : Nat} {A : List UInt8} (h : IsH w G A) (hb : Below w.heap.size w w') : IsH w' G A := by
  obtain ⟨ws, buf, h1, h2, h3⟩ := h
  exact ⟨ws, buf, h1, h2.on hb, h3⟩
theorem IsH.lt {w : World} {G : Nat} {A : List UInt8} (h : IsH w G A) : G < w.heap.size := by
  obtain ⟨ws, buf, h1, h2, h3⟩ := h
  exact h2.lt

set_option maxRecDepth 20000 in
set_option maxHeartbeats 1000000 in
theorem hNew (w : World) : Calls Tryz.prog 149 #[] w fun e w' => ∃ G, e = .returned (.pointer (some ⟨G, 0, none⟩)) ∧ w.heap.size ≤ G ∧ IsH w' G [] ∧ Below w.heap.size w w' := by
  have hb : Tryz.prog.built 219 [(0, .agg (rc kc256 s256.list (List.replicate 64 0) 0).toArray)] = some (rc kc256 s256.list (List.replicate 64 0) 0).toArray := by kernel_rfl
  go_enter Tryz.func149, Tryz.ntmps149
  go_wp2_with fail
  refine (digKind256 w).mono ?_
  rintro e w1 ⟨rfl, b1⟩
  go_wp2_with fail
  refine (digBegin (32 : Nat) s256 135 w1).mono ?_
  rintro e w2 ⟨rfl, b2⟩
  have t2 : Below w.heap.size w w2 := b1.trans (b2.mono b1.size)
  go_wp2_with (refine list_build rfl 219 _ rfl [(0, .agg (rc kc256 s256.list (List.replicate 64 0) 0).toArray)] (by simp only [List.map_toArray, List.map_cons, List.map_nil]; rfl) (rc kc256 s256.list (List.replicate 64 0) 0).toArray hb ?_)
  go_ret
  exact ⟨w2.heap.size, rfl, t2.size, ⟨s256.list, List.replicate 64 0, rfl, Blk.newAt w2 _ _ _ _ rfl rfl, Inv.start_ _ _ _ _ (List.length_replicate ..)⟩, t2.alloc t2.size _⟩

set_option maxRecDepth 20000 in
set_option maxHeartbeats 1000000 in
theorem hAdd (G : Nat) (A l : List UInt8) (a : Option Addr) (len cap : Nat) (w : World) (h : IsH w G A) (hl : IsB w a len cap l) (hG : 0 < len → ∀ b off, a = some ⟨b, off, none⟩ → b ≠ G) (hn : A.length + len < 9223372036854775808) :
    Calls Tryz.prog 150 #[.pointer (some ⟨G, 0, none⟩), .slice a len cap] w fun e w' => e = .returned (.tuple #[]) ∧ IsH w' G (A ++ l) ∧ w.grownBy w' (some G) := by
  obtain ⟨ws, buf, h8, hb, hi⟩ := h
  have HB : Hid (Blk w G 219 (rc kc256 ws buf A.length)) := hb
  have HI : Hid (Inv mix256L s256.list A A.length ws buf) := hi
  have HL : Hid (IsB w a len cap l) := hl
  have HE : Hid (l.length = len) := hl.len_eq
  have HG : Hid (0 < len → ∀ b off, a = some ⟨b, off, none⟩ → b ≠ G) := hG
  clear hb hi hl hG
  go_enter Tryz.func150, Tryz.ntmps150
  go_wp2_with fail
  refine (digAdd 135 mix256L s256.list mixOK256 kc256 rfl rfl G 219 ws buf A l a len cap w h8 HB.out HI.out HL.out HG.out hn).mono ?_
  rintro e w1 ⟨rfl, ws', buf', h8', hb', hi', hg⟩
  have HN : Hid (IsH w1 G (A ++ l)) := ⟨ws', buf', h8', by rw [List.length_append, HE.out]; exact hb', by rw [List.length_append, HE.out]; exact hi'⟩
  clear hb' hi'
  go_wp2_with fail
  go_end0
  exact ⟨rfl, HN.out, hg⟩

theorem info83' : (Tryz.prog.info? 192).map (·.size) = some 83 := by kernel_rfl

set_option maxRecDepth 20000 in
set_option maxHeartbeats 1000000 in
theorem hSum (G : Nat) (A : List UInt8) (w : World) (h : IsH w G A) (hn : A.length < 4294967296) :
    Calls Tryz.prog 151 #[.pointer (some ⟨G, 0, none⟩)] w fun e w' => ∃ v, e = .returned v ∧ OwnB w' w.heap.size v (sha256L A) ∧ Below w.heap.size w w' := by
  obtain ⟨ws, buf, h8, hb, hi⟩ := h
  have hsz : (Tryz.prog.info? 192).map (·.size) = some (rc kc256 ws buf A.length).toArray.size := by rw [info83', List.size_toArray, rc_length kc256 ws buf A.length rfl h8 hi.size]
  have HI : Hid (Inv mix256L s256.list A A.length ws buf) := hi
  clear hi
  go_enter Tryz.func151, Tryz.ntmps151
  go_wp2_with (refine wpList_load_row rfl 192 _ rfl _ rfl _ _ _ _ hb Tryz.underlying192 rfl hsz ?_)
  refine (digSum 135 mix256L s256.list mixOK256 32 (by omega) kc256 rfl rfl rfl ws buf A w h8 HI.out hn).mono ?_
  rintro e w1 ⟨v, rfl, ho, hb1⟩
  have HO : Hid (OwnB w1 w.heap.size v (sha256L A)) := ho
  clear ho
  go_wp2_with fail
  go_ret
  exact ⟨_, rfl, HO.out, hb1⟩

end Go.Proofs.YthjdmfbengpepaaGreat
