/- What the statements' light answers. -/
import Derived.Test.YtihfpoclflppnaaDoorOwnR
import Derived.Test.YtihfpoclflppnaaDoorR8d
import Derived.BigQuiet
namespace Go.Proofs.YtihfpoclflppnaaDoor
open Go.RowKit

theorem wrapi_def (a : Int) : IntKind.i64.wrap a = if 9223372036854775808 ≤ a % 18446744073709551616 then a % 18446744073709551616 - 18446744073709551616 else a % 18446744073709551616 := by
  simp [IntKind.wrap, IntKind.signed, IntKind.bits]
theorem wrapi_add (a b : Int) : IntKind.i64.wrap (IntKind.i64.wrap a + b) = IntKind.i64.wrap (a + b) := by
  have h : (IntKind.i64.wrap a + b) % 18446744073709551616 = (a + b) % 18446744073709551616 := by
    rw [wrapi_def a]; split <;> omega
  rw [wrapi_def (IntKind.i64.wrap a + b), wrapi_def (a + b), h]
theorem wrap64_is (a : Int) : wrap64 a = IntKind.i64.wrap a := by
  rw [wrapi_def]; unfold wrap64; split <;> omega
theorem wrapi3 (a b c d : Int) : IntKind.i64.wrap (IntKind.i64.wrap (IntKind.i64.wrap (IntKind.i64.wrap a + b) + c) + d) = IntKind.i64.wrap (a + b + c + d) := by
  rw [wrapi_add (IntKind.i64.wrap (IntKind.i64.wrap a + b) + c) d, Int.add_assoc, wrapi_add (IntKind.i64.wrap a + b) (c + d), Int.add_assoc, wrapi_add a (b + (c + d))]
  congr 1; omega
/-- how long rules and texts are together -/
def lenR (r : Ru) : Nat := r.who.length + r.act.length + r.res.length
def sumR : List Ru → Nat
  | [] => 0
  | r :: l => lenR r + sumR l
theorem sumR_append (l m : List Ru) : sumR (l ++ m) = sumR l + sumR m := by
  induction l with
  | nil => simp [sumR]
  | cons r l ih => simp only [List.cons_append, sumR, ih]; omega
def sumT : List (List UInt8) → Nat
  | [] => 0
  | t :: l => t.length + sumT l
theorem sumT_append (l m : List (List UInt8)) : sumT (l ++ m) = sumT l + sumT m := by
  induction l with
  | nil => simp [sumT]
  | cons r l ih => simp only [List.cons_append, sumT, ih]; omega
theorem sumR_take (l : List Ru) (k : Nat) (h : k < l.length) : sumR (l.take (k + 1)) = sumR (l.take k) + lenR (nthR l k) := by
  rw [takeR l k h, sumR_append]; simp [sumR]
theorem takeT8 (l : List (List UInt8)) (k : Nat) (h : k < l.length) : l.take (k + 1) = l.take k ++ [nthT l k] := by
  rw [nthT_eq l k h, ← List.take_append_getElem h]
theorem sumT_take (l : List (List UInt8)) (k : Nat) (h : k < l.length) : sumT (l.take (k + 1)) = sumT (l.take k) + (nthT l k).length := by
  rw [takeT8 l k h, sumT_append]; simp [sumT]
def lightL (l : List Ru) (m : List (List UInt8)) : Bool := decide (sumR l + sumT m ≤ 2000 ∧ l.length ≤ 50)
/-- each text's length, as the form's reach bounds it -/
def ReachR (l : List Ru) : Prop := ∀ i, i < l.length → (nthR l i).who.length ≤ 140737488351232 ∧ (nthR l i).act.length ≤ 140737488351232 ∧ (nthR l i).res.length ≤ 140737488351232
theorem sumR_le (l : List Ru) (h : ReachR l) : sumR l ≤ l.length * 422212465053696 := by
  induction l with
  | nil => exact Nat.zero_le _
  | cons r l ih =>
    have h0 : r.who.length ≤ 140737488351232 ∧ r.act.length ≤ 140737488351232 ∧ r.res.length ≤ 140737488351232 := h 0 (by simp)
    have h1 := ih fun i hi => h (i + 1) (by simpa using hi)
    simp only [sumR, List.length_cons, lenR]
    omega
theorem sumT_le (l : List (List UInt8)) (h : ∀ i, i < l.length → (nthT l i).length ≤ 140737488351232) : sumT l ≤ l.length * 140737488351232 := by
  induction l with
  | nil => exact Nat.zero_le _
  | cons r l ih =>
    have h0 : r.length ≤ 140737488351232 := h 0 (by simp)
    have h1 := ih fun i hi => h (i + 1) (by simpa using hi)
    simp only [sumT, List.length_cons]
    omega

set_option maxRecDepth 20000 in
set_option maxHeartbeats 4000000 in
theorem lawLight8 (a : Option Addr) (n cap : Nat) (l : List Ru) (a2 : Option Addr) (n2 cap2 : Nat) (m : List (List UInt8)) (w : World) (h : IsRs w a n cap l) (h2 : IsTx w a2 n2 cap2 m) (hr : ReachR l) (hm : ∀ i, i < n2 → (nthT m i).length ≤ 140737488351232) (hn2 : n2 ≤ 100) (hnb : n ≤ 140737488351232) :
    Calls Tryd.prog 9 #[.slice a n cap, .slice a2 n2 cap2] w fun e w' => e = .returned (.bool (lightL l m)) ∧ Below w.heap.size w w' := by
  have H : Hid (IsRs w a n cap l) := h
  have H2 : Hid (IsTx w a2 n2 cap2 m) := h2
  have HR : Hid (ReachR l) := hr
  have HM : Hid (∀ i, i < n2 → (nthT m i).length ≤ 140737488351232) := hm
  have HL : Hid (l.length = n) := h.len_eq
  have HL2 : Hid (m.length = n2) := h2.len_eq
  clear h h2 hr hm
  go_enter Tryd.func9, Tryd.ntmps9
  go_wp2
  go_loopw [5, 6] (fun s i wr => ∃ (k : Nat) (z : Int), k ≤ n ∧ i = .int .i64 (k : Int) ∧ s = .int .i64 z ∧ Hid (z = IntKind.i64.wrap (sumR (l.take k) : Int)) ∧ Below w.heap.size w wr) (fun _ i _ => n - (intOf i).toNat)
  case atStart => exact ⟨0, 0, Nat.zero_le _, rfl, rfl, rfl, Below.refl _ _⟩
  case round =>
    obtain ⟨k, z, hk, rfl, rfl, hz, hbel⟩ := hrel
    by_cases hlt : k < n
    · have hlt' : (k : Int) < (n : Int) := by omega
      have HKL : Hid (k < l.length) := by unfold Hid; rw [HL.out]; exact hlt
      obtain ⟨b, off, rfl, hc⟩ := H.out.cells (by omega)
      have gb : b < w.heap.size := cell_lt (hc k hlt).1
      have hR := (hc k hlt).below hbel gb
      have HS : Hid ((sumR (l.take (k + 1)) : Int) = (sumR (l.take k) : Int) + ((str (nthR l k).who).size : Int) + ((str (nthR l k).act).size : Int) + ((str (nthR l k).res).size : Int)) := by
        unfold Hid; rw [sumR_take l k HKL.out, str_size, str_size, str_size]; unfold lenR; omega
      clear hc
      obtain ⟨c0, c1, c2, c3⟩ := hR
      generalize str (nthR l k).who = S1 at *
      generalize str (nthR l k).act = S2 at *
      generalize str (nthR l k).res = S3 at *
      generalize (nthR l k).deny = dn at *
      go_wp2
      go_quiet (fail)
      have T2 : Below w.heap.size w (wr.drewN nq) := bel_drewN hbel nq
      generalize wr.drewN nq = x2 at *
      have HE : Hid (wrap64 (wrap64 (wrap64 (z + (S1.size : Int)) + (S2.size : Int)) + (S3.size : Int)) = IntKind.i64.wrap (sumR (l.take (k + 1)) : Int)) := by
        unfold Hid
        rw [wrap64_is, wrap64_is, wrap64_is, hz.out, wrapi3, HS.out]
      clear c0 c1 c2 c3 hz HS
      generalize wrap64 (wrap64 (wrap64 (z + (S1.size : Int)) + (S2.size : Int)) + (S3.size : Int)) = z2 at *
      go_wp2
      go_roundw
      case rel => exact ⟨k + 1, z2, by omega, by go_num, rfl, HE, T2⟩
      case measure => simp [intOf]; omega
    · have hge : ¬ (k : Int) < (n : Int) := by omega
      have e : l.take k = l := List.take_of_length_le (by rw [HL.out]; omega)
      have HZ : Hid (z = IntKind.i64.wrap (sumR l : Int)) := by unfold Hid; rw [hz.out, e]
      clear e hz
      obtain ⟨W0, rfl⟩ : ∃ W : World, W = wr := ⟨_, rfl⟩
      go_wp2
      go_loopw [5, 7] (fun s i wr => ∃ (k : Nat) (z : Int), k ≤ n2 ∧ i = .int .i64 (k : Int) ∧ s = .int .i64 z ∧ Hid (z = IntKind.i64.wrap ((sumR l + sumT (m.take k) : Nat) : Int)) ∧ Below w.heap.size w wr) (fun _ i _ => n2 - (intOf i).toNat)
      case atStart => exact ⟨0, z, Nat.zero_le _, rfl, rfl, HZ, hbel⟩
      case round =>
        clear HZ hbel
        obtain ⟨j, y, hj, rfl, rfl, hy, hbel⟩ := hrel
        by_cases hlt2 : j < n2
        · have hlt2' : (j : Int) < (n2 : Int) := by omega
          have HJ : Hid (j < m.length) := by unfold Hid; rw [HL2.out]; exact hlt2
          obtain ⟨b, off, rfl, hc⟩ := H2.out.cells (by omega)
          have gb : b < w.heap.size := cell_lt (hc j hlt2)
          have c1 := (hbel.cell (p := ⟨b, off + j, none⟩) gb).trans (hc j hlt2)
          have HS : Hid (((sumR l + sumT (m.take (j + 1)) : Nat) : Int) = ((sumR l + sumT (m.take j) : Nat) : Int) + ((str (nthT m j)).size : Int)) := by
            unfold Hid; rw [sumT_take m j HJ.out, str_size]; omega
          have HE : Hid (∀ S1 : ByteArray, S1 = str (nthT m j) → IntKind.i64.wrap (y + (S1.size : Int)) = IntKind.i64.wrap ((sumR l + sumT (m.take (j + 1)) : Nat) : Int)) := by
            intro S1 h1; rw [h1, HS.out, hy.out, wrapi_add]
          obtain ⟨S1, hS1⟩ : ∃ S1, S1 = str (nthT m j) := ⟨_, rfl⟩
          have HE1 : Hid (IntKind.i64.wrap (y + (S1.size : Int)) = IntKind.i64.wrap ((sumR l + sumT (m.take (j + 1)) : Nat) : Int)) := HE.out S1 hS1
          rw [← hS1] at c1
          clear hc HS HE hS1 hy
          obtain ⟨y2, hy2⟩ : ∃ y2, IntKind.i64.wrap (y + (S1.size : Int)) = y2 := ⟨_, rfl⟩
          rw [hy2] at HE1
          go_wp2
          clear hy2
          go_roundw
          case rel => exact ⟨j + 1, _, by omega, by go_num, rfl, HE1, hbel⟩
          case measure => simp [intOf]; omega
        · have hge2 : ¬ (j : Int) < (n2 : Int) := by omega
          have e : m.take j = m := List.take_of_length_le (by rw [HL2.out]; omega)
          rw [e] at hy
          by_cases h50 : n ≤ 50
          · have h50' : (n : Int) ≤ 50 := by omega
            have hle := sumR_le l HR.out
            have hle2 := sumT_le m (by rw [HL2.out]; exact HM.out)
            rw [HL.out] at hle
            rw [HL2.out] at hle2
            have hy1 : y = ((sumR l + sumT m : Nat) : Int) := by rw [hy.out]; exact wrapi64_in _ (by omega) (by omega)
            by_cases h2000 : sumR l + sumT m ≤ 2000
            · have hy' : y ≤ 2000 := by rw [hy1]; omega
              have HV : Hid (true = lightL l m) := by unfold Hid lightL; rw [decide_eq_true ⟨h2000, by rw [HL.out]; exact h50⟩]
              clear e hy hle hle2 hy1 h2000
              go_wp2
              go_ret
              exact ⟨ret_b HV.out, hbel⟩
            · have hy' : ¬ y ≤ 2000 := by rw [hy1]; omega
              have HV : Hid (false = lightL l m) := by unfold Hid lightL; rw [decide_eq_false fun h => h2000 h.1]
              clear e hy hle hle2 hy1 h2000
              go_wp2
              go_ret
              exact ⟨ret_b HV.out, hbel⟩
          · have h50' : ¬ (n : Int) ≤ 50 := by omega
            have HV : Hid (false = lightL l m) := by unfold Hid lightL; rw [decide_eq_false fun h => h50 (by rw [← HL.out]; exact h.2)]
            clear e hy
            by_cases hy' : y ≤ 2000
            · go_wp2
              go_ret
              exact ⟨ret_b HV.out, hbel⟩
            · go_wp2
              go_ret
              exact ⟨ret_b HV.out, hbel⟩
end Go.Proofs.YtihfpoclflppnaaDoor
