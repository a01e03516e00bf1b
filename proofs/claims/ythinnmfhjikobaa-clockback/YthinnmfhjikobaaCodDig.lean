/- What clock's digits answers: two digits for each number. -/
import Derived.Test.YthinnmfhjikobaaOwnS
import Derived.Test.YthinnmfhjikobaaPlain3
import Derived.Laws.IdiomStrings
namespace Go.Proofs.Ythinnmfhjikobaa
open Go.RowKit

theorem conv_own (w : World) (base : Nat) (v : Value) (l : List UInt8) (h : OwnB w base v l) : (convert 53 9 v).run Try.prog w = .ok (.string ⟨l.toArray⟩) w := by
  obtain ⟨a, cap, rfl, hb⟩ := h.isB
  by_cases hl : 0 < l.length
  · obtain ⟨b, off, rfl, hc⟩ := hb.cells hl
    refine run_convert_bytes_back w 53 9 5 ⟨b, off, none⟩ cap l Try.underlying53 Try.underlying5 Try.underlying9 fun j hj => ?_
    rw [Addr.add_lit, hc j hj, nth_eq l j hj]
  · have : l = [] := List.eq_nil_of_length_eq_zero (by omega)
    subst this
    cases a with
    | none => exact run_convert_bytes_nil w 53 5 Try.underlying53 Try.underlying5 _ _ _ Try.underlying9
    | some x => exact run_convert_bytes_back w 53 9 5 x cap [] Try.underlying53 Try.underlying5 Try.underlying9 fun j hj => absurd hj (Nat.not_lt_zero _)

theorem ret_str {a b : List UInt8} (h : a = b) : Ending.returned (.string ⟨a.toArray⟩) = .returned (.string ⟨b.toArray⟩) := by rw [h]

def nthN (l : List Nat) (i : Nat) : Nat := l.getD i 0
theorem nthN_eq (l : List Nat) (i : Nat) (h : i < l.length) : nthN l i = l[i] := by
  unfold nthN; rw [List.getD_eq_getElem?_getD, List.getElem?_eq_getElem h]; rfl
/-- two digits for each number -/
def dg2 : List Nat → List UInt8
  | [] => []
  | n :: l => dgs 2 n ++ dg2 l
theorem dg2_append (l m : List Nat) : dg2 (l ++ m) = dg2 l ++ dg2 m := by
  induction l with
  | nil => rfl
  | cons x l ih => simp only [List.cons_append, dg2, ih, List.append_assoc]
theorem dg2_length (l : List Nat) : (dg2 l).length = 2 * l.length := by
  induction l with
  | nil => rfl
  | cons x l ih => simp only [dg2, List.length_append, List.length_cons, ih, dgs_length]; omega
theorem dgs_two (n : Nat) : dgs 2 n = [dgt (n / 10), dgt n] := rfl
theorem dg2_take (l : List Nat) (k : Nat) (h : k < l.length) : dg2 (l.take (k + 1)) = dg2 (l.take k) ++ [dgt (nthN l k / 10), dgt (nthN l k)] := by
  rw [nthN_eq l k h, ← List.take_append_getElem h, dg2_append]; rfl

set_option maxHeartbeats 800000 in
theorem codDigits (B : Nat) (ns : List Nat) (w : World) (hB : B < w.heap.size) (hn : ∀ n ∈ ns, n < 100) (hl : ns.length ≤ 100)
    (hc : ∀ i, i < ns.length → w.cell? ⟨B, i, none⟩ = some (.int .i64 (nthN ns i : Int))) :
    Calls Try.prog 28 #[.slice (some ⟨B, 0, none⟩) ns.length ns.length] w fun e w' => e = .returned (.string ⟨(dg2 ns).toArray⟩) ∧ Below w.heap.size w w' := by
  obtain ⟨len, hlen⟩ : ∃ len, ns.length = len := ⟨_, rfl⟩
  rw [hlen] at hl hc ⊢
  have HL : Hid (ns.length = len) := hlen
  have HC : Hid (∀ i, i < len → w.cell? ⟨B, i, none⟩ = some (.int .i64 (nthN ns i : Int))) := hc
  have HN : Hid (∀ i, i < len → nthN ns i < 100) := fun i hi => by rw [nthN_eq ns i (by omega)]; exact hn _ (List.getElem_mem _)
  clear hlen hc hn
  go_enter Try.func28, Try.ntmps28
  go_wp2_with (at_make; refine make_own8 _ rfl _ _ rfl w.heap.size .i64 .i64 _ (2 * len) rfl rfl (by omega) (by omega) (Nat.le_refl _) ?_; intro w1 hown1 hgrow1)
  go_loopw [3, 12] (fun v i wr => ∃ k : Nat, k ≤ len ∧ i = .int .i64 k ∧ OwnB wr w.heap.size v (dg2 (ns.take k)) ∧ Below w.heap.size w wr) (fun _ i _ => len - (intOf i).toNat)
  case atStart => exact ⟨0, Nat.zero_le _, rfl, hown1, (Below.refl _ _).grown hgrow1 (Nat.le_refl _) (fun k h => by cases h)⟩
  case round =>
    obtain ⟨k, hk, rfl, hown, hbel⟩ := hrel
    by_cases hlt : k < len
    · have g0 := HC.out k hlt
      have g1 := (hbel.cell (p := ⟨B, k, none⟩) hB).trans g0
      clear hown1 hgrow1 g0
      have hlt' : (k : Int) < (len : Int) := by omega
      have hn1 := HN.out k hlt
      have HT : Hid (dg2 (ns.take (k + 1)) = dg2 (ns.take k) ++ [dgt (nthN ns k / 10), dgt (nthN ns k)]) := dg2_take ns k (by rw [HL.out]; exact hlt)
      have HK : Hid ((dg2 (ns.take k)).length = 2 * k) := by unfold Hid; rw [dg2_length, List.length_take, HL.out]; omega
      generalize nthN ns k = n at *
      obtain ⟨c1, hc1⟩ : ∃ c, c = dgt (n / 10) := ⟨_, rfl⟩
      obtain ⟨c2, hc2⟩ : ∃ c, c = dgt n := ⟨_, rfl⟩
      have i1 : 48 + (n : Int) / 10 = (c1.toNat : Int) := by rw [hc1, dgt_toNat]; omega
      have i2 : 48 + (n : Int) % 10 = (c2.toNat : Int) := by rw [hc2, dgt_toNat]; omega
      have i3 := wrap8_nat c1.toNat c1.toNat_lt
      have i4 := wrap8_nat c2.toNat c2.toNat_lt
      rw [← hc1, ← hc2] at HT
      clear hc1 hc2
      have HB := hown.blk
      go_wp2_with (at_builtin; refine list_app1 _ rfl _ _ rfl w.heap.size _ (dg2 (ns.take k)) rfl (hown.alloc _) wr.heap.size 2 [c1, c2] rfl rfl (heap_alloc_new wr _) (by rw [HK.out]; omega) (by have := hbel.size; simp; omega) ?_; intro v1 w1 hown1 hgrow)
      go_roundw
      case rel => exact ⟨k + 1, by omega, by go_num, by rw [HT.out]; exact hown1, (hbel.alloc hbel.size _).grown hgrow (by have := hbel.size; simp; omega) (fun j hj => (HB j hj).1)⟩
      case measure => simp [intOf]; omega
    · have hcv := conv_own wr w.heap.size _ _ hown
      go_wp2
      go_ret
      have : k = len := by omega
      subst this
      exact ⟨ret_str (by rw [List.take_of_length_le (by rw [HL.out]; exact Nat.le_refl _)]), hbel⟩
end Go.Proofs.Ythinnmfhjikobaa
