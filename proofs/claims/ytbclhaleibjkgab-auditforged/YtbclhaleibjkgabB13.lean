/- canon's reader: body, and what is read by it. · canon's reader: Clone, Read, and the exported reads. · Plain facts: what is read of what was written. -/
import Derived.Test.YtbclhaleibjkgabB12
import Derived.Laws.IdiomStrings
import Derived.Laws.Cover3
import Derived.Test.YtbclhaleibjkgabB10
namespace Go.Proofs.Ytbclhaleibjkgab
open Go.RowKit
attribute [local go_sem ↓] Go.wp_at_zero Go.wp_at_succ

theorem cutA_some (b off cap m : Nat) : ∃ o2, cutA b off cap m = some ⟨b, o2, none⟩ := by
  unfold cutA; split
  · exact ⟨off, rfl⟩
  · exact ⟨off + m, rfl⟩

theorem IsB.setOther {w : World} {a : Option Addr} {len cap : Nat} {l : List UInt8} (h : IsB w a len cap l) (B j : Nat) (v : Value) (hne : 0 < len → ∀ x, a = some x → x.block ≠ B) : IsB (w.setCell ⟨B, j, none⟩ v) a len cap l :=
  ⟨h.len_eq, h.le, h.max, h.nil, fun hp => by
    obtain ⟨b, off, e, hc⟩ := h.cells hp
    refine ⟨b, off, e, fun i hl => ?_⟩
    rw [World.cell?_setCell_other _ _ _ _ (fun e' => hne hp _ e (by injection e' with e1; exact e1.symm))]
    exact hc i hl⟩

theorem sl5 (b off r cap : Nat) (hm : 5 ≤ r) (w : World) : (Instr.slice 27 (.slice (some ⟨b, off, none⟩) r cap) (some (.int .i64 5)) none none).run Try.prog w = .ok (.slice (cutA b off cap 5) (r - 5) (cap - 5)) w := slK .i64 b off r cap 5 hm w
theorem sl9 (b off r cap : Nat) (hm : 9 ≤ r) (w : World) : (Instr.slice 27 (.slice (some ⟨b, off, none⟩) r cap) (some (.int .i64 9)) none none).run Try.prog w = .ok (.slice (cutA b off cap 9) (r - 9) (cap - 9)) w := slK .i64 b off r cap 9 hm w
theorem slo1 (b off r cap : Nat) (hm : 1 ≤ r) (w : World) : (Instr.slice 27 (.slice (some ⟨b, off, none⟩) r cap) (some (.int .i64 1)) none none).run Try.prog w = .ok (.slice (cutA b off cap 1) (r - 1) (cap - 1)) w := slK .i64 b off r cap 1 hm w
attribute [local go_sem ↓] sl5 sl9 slo1 slK slH

/-- may bytes behind that mark be read? -/
def okB (l : List UInt8) (br : Bool) (mark : UInt8) : Bool := okH l br mark 4 && decide (5 + numTo l 4 ≤ l.length)

end Go.Proofs.Ytbclhaleibjkgab
namespace Go.Proofs.Ytbclhaleibjkgab
open Go.RowKit
attribute [local go_sem ↓] Go.wp_at_zero Go.wp_at_succ

theorem gr_bel {n : Nat} {w w' : World} (h : Below n w w') (hn : n = w.heap.size) (o : Option Nat) : w.grownBy w' o :=
  match h with
  | ⟨a, b, c, d, e⟩ => ⟨a, b, c, d, fun i hi _ => e i (by omega)⟩
/-- string(b) -/
theorem conv_isB (w : World) (a : Option Addr) (len cap : Nat) (l : List UInt8) (hb : IsB w a len cap l) : (convert 27 9 (.slice a len cap)).run Try.prog w = .ok (.string ⟨l.toArray⟩) w := by
  have e := hb.len_eq
  subst e
  by_cases hl : 0 < l.length
  · obtain ⟨b, off, rfl, hc⟩ := hb.cells hl
    refine run_convert_bytes_back w 27 9 5 ⟨b, off, none⟩ cap l Try.underlying27 Try.underlying5 Try.underlying9 fun j hj => ?_
    rw [Addr.add_lit, hc j hj, nth_eq l j hj]
  · have : l = [] := List.eq_nil_of_length_eq_zero (by omega)
    subst this
    cases a with
    | none => exact run_convert_bytes_nil w 27 5 Try.underlying27 Try.underlying5 _ _ _ Try.underlying9
    | some x => exact run_convert_bytes_back w 27 9 5 x cap [] Try.underlying27 Try.underlying5 Try.underlying9 fun j hj => absurd hj (Nat.not_lt_zero _)

/-- b == nil -/
theorem eqNil (w : World) (a : Option Addr) (l c : Nat) : (binOp .eql 27 (.slice a l c) (.slice none 0 0)).run Try.prog w = .ok (.bool a.isNone) w := by
  simp only [binOp]
  simp [run_equal_slice_nil w 27 5 a l c Try.underlying27]
attribute [local go_sem ↓] eqNil

/-- what the reads tell, and what is left of the reader -/
def rdUint (l : List UInt8) (br : Bool) : Nat × List UInt8 × Bool := if okH l br 117 8 then (numTo l 8, l.drop 9, false) else (0, l, true)
def rdSome (mark : UInt8) (l : List UInt8) (br : Bool) : List UInt8 × List UInt8 × Bool := if okB l br mark then ((l.drop 5).take (numTo l 4), l.drop (5 + numTo l 4), false) else ([], l, true)
def okT (l : List UInt8) (br : Bool) : Bool := !br && (nth l 0 == 116 || nth l 0 == 102)
def rdBool (l : List UInt8) (br : Bool) : Bool × List UInt8 × Bool := if okT l br then (nth l 0 == 116, l.drop 1, false) else (false, l, true)
def okL (l : List UInt8) (br : Bool) (most : Int) : Bool := okH l br 108 4 && decide ((numTo l 4 : Int) ≤ most)
def rdList (l : List UInt8) (br : Bool) (most : Int) : Nat × List UInt8 × Bool := if okL l br most then (numTo l 4, l.drop 5, false) else (0, l, true)

attribute [local go_sem ↓] sl5 sl9 slo1

end Go.Proofs.Ytbclhaleibjkgab
namespace Go.Proofs.Ytbclhaleibjkgab

theorem nth_zero_cons (x : UInt8) (l : List UInt8) : nth (x :: l) 0 = x := by simp [nth]
theorem nth_succ_cons (x : UInt8) (l : List UInt8) (k : Nat) : nth (x :: l) (1 + k) = nth l k := by rw [Nat.add_comm]; simp [nth]
theorem nth_app (l m : List UInt8) (k : Nat) (h : k < l.length) : nth (l ++ m) k = nth l k := by
  unfold nth; rw [List.getD_eq_getElem?_getD, List.getD_eq_getElem?_getD, List.getElem?_append_left h]
theorem nth_beL (n size k j : Nat) (h : j < k) : nth (beL n size k) j = beAt n size j := by
  rw [nth_eq _ _ (by rw [beL_length]; exact h)]; simp [beL]

theorem numTo_be (m : UInt8) (n size : Nat) (r : List UInt8) : ∀ j, j ≤ size → numTo (m :: (beL n size size ++ r)) j = n / 2 ^ (8 * (size - j)) % 256 ^ j
  | 0, _ => by simp [numTo, Nat.mod_one]
  | j + 1, h => by
    rw [numTo, numTo_be m n size r j (by omega), nth_succ_cons, nth_app _ _ _ (by rw [beL_length]; omega), nth_beL _ _ _ _ (by omega)]
    unfold beAt
    rw [UInt8.toNat_ofNat']
    have e1 : 8 * (size - j) = 8 * (size - 1 - j) + 8 := by omega
    have e2 : 8 * (size - (j + 1)) = 8 * (size - 1 - j) := by omega
    rw [e1, e2, Nat.pow_add, ← Nat.div_div_eq_div_mul]
    generalize n / 2 ^ (8 * (size - 1 - j)) = x
    have e3 : (2 : Nat) ^ 8 = 256 := by decide
    have e4 : (256 : Nat) ^ (j + 1) = 256 * 256 ^ j := by rw [Nat.pow_succ, Nat.mul_comm]
    rw [e3, e4, Nat.mod_mul, Nat.mul_comm, Nat.add_comm]

theorem numTo_all (m : UInt8) (n size : Nat) (r : List UInt8) (h : n < 256 ^ size) : numTo (m :: (beL n size size ++ r)) size = n := by
  rw [numTo_be m n size r size (Nat.le_refl _), Nat.sub_self]
  simp [Nat.mod_eq_of_lt h]

theorem behL_eq (l : List UInt8) (m : UInt8) (n s k : Nat) : behL l m n s k = l ++ behL [] m n s k := by simp [behL]
theorem rdUint_back (n : Nat) (r : List UInt8) (h : n < 18446744073709551616) : rdUint (behL [] 117 n 8 8 ++ r) false = (n, r, false) := by
  have e : behL [] 117 n 8 8 ++ r = 117 :: (beL n 8 8 ++ r) := by simp [behL]
  have hn := numTo_all 117 n 8 r (by have : (256 : Nat) ^ 8 = 18446744073709551616 := by decide
                                     omega)
  have hl := beL_length n 8 8
  rw [e]
  unfold rdUint
  rw [if_pos (by unfold okH; rw [nth_zero_cons]; simp [hl]), hn]
  refine Prod.ext rfl (Prod.ext ?_ rfl)
  show List.drop 9 (117 :: (beL n 8 8 ++ r)) = r
  rw [List.drop_succ_cons, List.drop_left' hl]
theorem rdSome_back (m : UInt8) (b r : List UInt8) (h : b.length < 4294967296) : rdSome m (behL [] m b.length 4 4 ++ b ++ r) false = (b, r, false) := by
  have e : behL [] m b.length 4 4 ++ b ++ r = m :: (beL b.length 4 4 ++ (b ++ r)) := by simp [behL]
  have hn := numTo_all m b.length 4 (b ++ r) (by have : (256 : Nat) ^ 4 = 4294967296 := by decide
                                                 omega)
  have hl := beL_length b.length 4 4
  have hd : List.drop 5 (m :: (beL b.length 4 4 ++ (b ++ r))) = b ++ r := by rw [List.drop_succ_cons, List.drop_left' hl]
  rw [e]
  unfold rdSome
  rw [if_pos (by unfold okB okH; rw [nth_zero_cons, hn]; simp [hl]; omega), hn, ← List.drop_drop, hd]
  refine Prod.ext ?_ (Prod.ext ?_ rfl)
  · exact List.take_left
  · exact List.drop_left
theorem rdBool_back (t : Bool) (r : List UInt8) : rdBool ([if t then 116 else 102] ++ r) false = (t, r, false) := by
  cases t <;> simp [rdBool, okT, nth]
theorem rdList_back (n : Nat) (r : List UInt8) (most : Int) (h : (n : Int) ≤ most) (hn : n < 4294967296) : rdList (behL [] 108 n 4 4 ++ r) false most = (n, r, false) := by
  have e : behL [] 108 n 4 4 ++ r = 108 :: (beL n 4 4 ++ r) := by simp [behL]
  have hn := numTo_all 108 n 4 r (by have : (256 : Nat) ^ 4 = 4294967296 := by decide
                                     omega)
  have hl := beL_length n 4 4
  rw [e]
  unfold rdList
  rw [if_pos (by unfold okL okH; rw [nth_zero_cons, hn]; simp [hl, h]), hn]
  refine Prod.ext rfl (Prod.ext ?_ rfl)
  show List.drop 5 (108 :: (beL n 4 4 ++ r)) = r
  rw [List.drop_succ_cons, List.drop_left' hl]
end Go.Proofs.Ytbclhaleibjkgab
