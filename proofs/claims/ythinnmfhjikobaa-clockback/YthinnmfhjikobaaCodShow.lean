/- What clock's Show answers. -/
import Derived.Test.YthinnmfhjikobaaCodCiv
import Derived.Test.YthinnmfhjikobaaCodDig
namespace Go.Proofs.Ythinnmfhjikobaa
open Go.RowKit

theorem dgt_mod (a b : Nat) (h : a % 10 = b % 10) : dgt a = dgt b := by unfold dgt; rw [h]
theorem dgs_four (y : Nat) : dgs 4 y = dgs 2 (y / 100) ++ dgs 2 (y % 100) := by
  show (((([] ++ [dgt (y / 10 / 10 / 10)]) ++ [dgt (y / 10 / 10)]) ++ [dgt (y / 10)]) ++ [dgt y]) = (([] ++ [dgt (y / 100 / 10)]) ++ [dgt (y / 100)]) ++ (([] ++ [dgt (y % 100 / 10)]) ++ [dgt (y % 100)])
  rw [dgt_mod (y / 10 / 10 / 10) (y / 100 / 10) (by omega), dgt_mod (y / 10 / 10) (y / 100) (by omega), dgt_mod (y % 100 / 10) (y / 10) (by omega), dgt_mod (y % 100) y (by omega)]
  rfl
theorem txt_parts (y m d h i c : Nat) : txt y m d h i c = dg2 [y / 100, y % 100, m, d] ++ (84 :: (dg2 [h, i, c] ++ [90])) := by
  unfold txt; rw [dgs_four]; simp only [dg2, List.append_nil, List.append_assoc]
theorem join4 (p q : List UInt8) : (ByteArray.mk p.toArray ++ ByteArray.mk #[84] ++ ByteArray.mk q.toArray ++ ByteArray.mk #[90]) = ByteArray.mk (p ++ (84 :: (q ++ [90]))).toArray := by
  have e1 : (#[84] : Array UInt8) = [84].toArray := rfl
  have e2 : (#[90] : Array UInt8) = [90].toArray := rfl
  rw [e1, e2]
  simp only [ByteArray.mk_append_mk]
  simp only [List.append_assoc, List.cons_append, List.nil_append]

set_option maxHeartbeats 400000 in
theorem codShow_out (t : Nat) (w : World) (h : 253402300799 < t) :
    Calls Try.prog 13 #[.int .u64 (t : Int)] w fun e w' => e = .returned (.tuple #[.string ⟨#[]⟩, .int .i64 6]) ∧ Below w.heap.size w w' := by
  have h' : (253402300799 : Int) < (t : Int) := by omega
  clear h
  go_enter Try.func13, Try.ntmps13
  go_wp2
  go_ret2
  exact ⟨rfl, Below.refl _ _⟩

/-- numbers in a block of their own -/
theorem nums4 (w : World) (a b c d : Nat) : ∀ i, i < 4 → (w.alloc (Obj.cells #[.int .i64 (a : Int), .int .i64 (b : Int), .int .i64 (c : Int), .int .i64 (d : Int)] 3)).cell? ⟨w.heap.size, i, none⟩ = some (.int .i64 (nthN [a, b, c, d] i : Int)) := by
  intro i hi
  rw [cell_of_row _ _ i _ _ _ (heap_alloc_new w _)]
  obtain rfl | rfl | rfl | rfl : i = 0 ∨ i = 1 ∨ i = 2 ∨ i = 3 := by omega
  all_goals rfl
theorem nums3 (w : World) (a b c : Nat) : ∀ i, i < 3 → (w.alloc (Obj.cells #[.int .i64 (a : Int), .int .i64 (b : Int), .int .i64 (c : Int)] 3)).cell? ⟨w.heap.size, i, none⟩ = some (.int .i64 (nthN [a, b, c] i : Int)) := by
  intro i hi
  rw [cell_of_row _ _ i _ _ _ (heap_alloc_new w _)]
  obtain rfl | rfl | rfl : i = 0 ∨ i = 1 ∨ i = 2 := by omega
  all_goals rfl

set_option maxHeartbeats 1000000 in
theorem codShow_in (t y m d : Nat) (w : World) (ht : t ≤ 253402300799) (hd : IsDate (t / 86400 + 719162) y m d) :
    Calls Try.prog 13 #[.int .u64 (t : Int)] w fun e w' => e = .returned (.tuple #[.string ⟨(txt y m d (t % 86400 / 3600) (t % 86400 / 60 % 60) (t % 86400 % 60)).toArray⟩, .int .i64 0]) ∧ Below w.heap.size w w' := by
  have H : Hid (IsDate (t / 86400 + 719162) y m d) := hd
  have y2 := hd.y2
  have m2 := hd.m2
  have d2 : d ≤ 31 := by have := hd.d2; have := dim_le y m; omega
  clear hd
  have ht' : ¬ (253402300799 : Int) < (t : Int) := by omega
  obtain ⟨n, hn⟩ : ∃ n : Nat, n = t / 86400 := ⟨_, rfl⟩
  obtain ⟨s, hs⟩ : ∃ s : Nat, s = t % 86400 := ⟨_, rfl⟩
  have hn1 : (t : Int) / 86400 = (n : Int) := by omega
  have hs1 : (t : Int) % 86400 = (s : Int) := by omega
  have hn2 : n ≤ 2932896 := by omega
  have hs2 : s < 86400 := by omega
  rw [← hs]
  rw [← hn] at H
  clear hn hs ht
  obtain ⟨a, ha⟩ : ∃ a : Nat, a = s / 3600 := ⟨_, rfl⟩
  obtain ⟨b, hb⟩ : ∃ b : Nat, b = s / 60 % 60 := ⟨_, rfl⟩
  obtain ⟨c, hc⟩ : ∃ c : Nat, c = s % 60 := ⟨_, rfl⟩
  have ha1 : (s : Int) / 3600 = (a : Int) := by omega
  have hb1 : (s : Int) % 3600 / 60 = (b : Int) := by omega
  have hc1 : (s : Int) % 60 = (c : Int) := by omega
  have ha2 : a < 24 := by omega
  have hb2 : b < 60 := by omega
  have hc2 : c < 60 := by omega
  rw [← ha, ← hb, ← hc]
  clear ha hb hc
  obtain ⟨f, hf⟩ : ∃ f : Nat, f = y / 100 := ⟨_, rfl⟩
  obtain ⟨g, hg⟩ : ∃ g : Nat, g = y % 100 := ⟨_, rfl⟩
  have hf1 : (y : Int) / 100 = (f : Int) := by omega
  have hg1 : (y : Int) % 100 = (g : Int) := by omega
  have hf2 : f < 100 := by omega
  have hg2 : g < 100 := by omega
  have HT : Hid (txt y m d a b c = dg2 [f, g, m, d] ++ (84 :: (dg2 [a, b, c] ++ [90]))) := by unfold Hid; rw [txt_parts, hf, hg]
  clear hf hg
  generalize txt y m d a b c = T at *
  have L1 : (dg2 [f, g, m, d]).length = 8 := dg2_length _
  have L2 : (dg2 [a, b, c]).length = 6 := dg2_length _
  have q1 : ∀ n ∈ [f, g, m, d], n < 100 := by simp only [List.mem_cons, List.not_mem_nil, or_false]; omega
  have q2 : ∀ n ∈ [a, b, c], n < 100 := by simp only [List.mem_cons, List.not_mem_nil, or_false]; omega
  have Q1 : Hid (∀ n ∈ [f, g, m, d], n < 100) := q1
  have Q2 : Hid (∀ n ∈ [a, b, c], n < 100) := q2
  clear q1 q2
  go_enter Try.func13, Try.ntmps13
  go_wp2_with fail
  have hnn : ((n + 719162 : Nat) : Int) - 719162 = (n : Int) := by omega
  have hCiv := codCivil_in (n + 719162) y m d w H.out
  rw [hnn] at hCiv
  clear hnn
  refine hCiv.mono ?_
  rintro e x0 ⟨rfl, B0⟩
  clear hCiv
  go_wp2_with fail
  refine (codDigits x0.heap.size [f, g, m, d] _ (by simp) Q1.out (by simp) (nums4 x0 f g m d)).mono ?_
  rintro e x1 ⟨rfl, c1⟩
  have B1 := (B0.alloc B0.size (Obj.cells #[.int .i64 (f : Int), .int .i64 (g : Int), .int .i64 (m : Int), .int .i64 (d : Int)] 3)).trans (c1.mono (by have := B0.size; simp; omega))
  clear B0 c1
  generalize dg2 [f, g, m, d] = D1 at *
  go_wp2_with fail
  refine (codDigits x1.heap.size [a, b, c] _ (by simp) Q2.out (by simp) (nums3 x1 a b c)).mono ?_
  rintro e x2 ⟨rfl, c2⟩
  have B2 := (B1.alloc B1.size (Obj.cells #[.int .i64 (a : Int), .int .i64 (b : Int), .int .i64 (c : Int)] 3)).trans (c2.mono (by have := B1.size; simp; omega))
  clear B1 c2
  generalize dg2 [a, b, c] = D2 at *
  go_wp2_with fail
  go_ret2
  rw [HT.out]
  exact ⟨congrArg (fun z => Ending.returned (.tuple #[.string z, .int .i64 0])) (join4 _ _), B2⟩

/-- what Show answers: the text of the time, or that there is none -/
def ShownAs (t : Nat) (S : List UInt8) (E : Int) : Prop := (253402300799 < t ∧ S = [] ∧ E = 6) ∨ (t ≤ 253402300799 ∧ IsTime S t ∧ E = 0)

theorem show_cod (t : Nat) : ∃ S E, ShownAs t S E ∧
    (∀ w, Calls Try.prog 13 #[.int .u64 (t : Int)] w fun e w' => e = .returned (.tuple #[.string ⟨S.toArray⟩, .int .i64 E]) ∧ Below w.heap.size w w') := by
  by_cases h : 253402300799 < t
  · exact ⟨[], 6, .inl ⟨h, rfl, rfl⟩, fun w => codShow_out t w h⟩
  · obtain ⟨y, m, d, hd⟩ := exists_date (t / 86400 + 719162) (by omega)
    exact ⟨_, 0, .inr ⟨by omega, IsTime.of hd, rfl⟩, fun w => codShow_in t y m d w (by omega) hd⟩
end Go.Proofs.Ythinnmfhjikobaa
