/- What a word's test by a range over a text answers (the program's). -/
import Derived.Test.YtihfpoclflppnaaDoorR8a
import Derived.Laws.RangeAny
namespace Go.Proofs.YtihfpoclflppnaaDoor
open Go.RowKit

theorem get_nth (s : ByteArray) (l : List UInt8) (k : Nat) (h : k < s.size) (e : s.data.toList = l) : s[k]'h = nth l k := by
  have hk : k < l.length := by rw [← e, Array.length_toList]; exact h
  rw [nth_eq l k hk]
  subst e
  rfl
theorem iter_bel (w : World) (s : ByteArray) (k : Nat) : Below w.heap.size w (w.iter s k) := (Below.refl _ _).alloc (Nat.le_refl _) _

set_option maxRecDepth 20000 in
set_option maxHeartbeats 4000000 in
theorem codWord8_mid (l : List UInt8) (s : ByteArray) (w : World) (HZ : Hid (s.size = l.length)) (HS : Hid (s.data.toList = l)) (g1 : 1 ≤ s.size) (g2 : s.size ≤ 64) :
    Calls Tryd.prog 38 #[.string s] w fun e w' => e = .returned (.bool (wordL l)) ∧ Below w.heap.size w w' := by
  have h1' : decide ((s.size : Int) < 1) = false := decide_eq_false (by omega)
  have h2' : decide ((64 : Int) < (s.size : Int)) = false := decide_eq_false (by omega)
  have i1 : ¬ ((s.size : Int) < 1) := by omega
  have i2 : ¬ (64 : Int) < (s.size : Int) := by omega
  go_enter Tryd.func38, Tryd.ntmps38
  go_wp2
  clear h1' h2' i1 i2
  go_loopw [4] (fun _ wr => ∃ (k : Nat), k ≤ s.size ∧ wr = w.iter s k ∧ Hid ((l.take k).all wordC = true)) (fun _ wr => s.size - wr.iterPos w.heap.size)
  case atStart => exact ⟨0, Nat.zero_le _, rfl, rfl⟩
  case round =>
    obtain ⟨k, hk, hwr, HD⟩ := hrel
    subst hwr
    have hT := iter_bel w s k
    by_cases hlt : k < s.size
    · have hkl : k < l.length := by rw [← HZ.out]; exact hlt
      have hcn := get_nth s l k hlt HS.out
      have HT : Hid (wordC (nth l k) = true → (l.take (k + 1)).all wordC = true) := fun h => all_take hkl HD.out h
      have HF : Hid (wordC (nth l k) = false → wordL l = false) := fun h => by unfold wordL; rw [all_nth hkl h]; rfl
      obtain ⟨n, hn⟩ : ∃ n, n = (nth l k).toNat := ⟨_, rfl⟩
      have h256 : n < 256 := by rw [hn]; exact (nth l k).toNat_lt
      have HTN : Hid (wordN n = true → (l.take (k + 1)).all wordC = true) := by rw [hn]; exact HT.out
      have HFN : Hid (wordN n = false → wordL l = false) := by rw [hn]; exact HF.out
      clear HT HF HD
      by_cases h128 : n < 128
      · have hnx : ∀ ty, (Instr.next (.pointer (some ⟨w.heap.size, 0, none⟩)) true ty).run Tryd.prog (w.iter s k) = .ok (.tuple #[.bool true, .int .i64 (k : Int), .int .i32 (n : Int)]) (w.iter s (k + 1)) := fun ty => by
          have := run_next_ascii (P := Tryd.prog) w s k ty hlt (by rw [hcn, ← hn]; exact h128)
          rw [hcn, ← hn] at this; exact this
        have hT1 := iter_bel w s (k + 1)
        have hm : (w.iter s (k + 1)).iterPos w.heap.size = k + 1 := World.iterPos_iter _ _ _
        have hm0 : (w.iter s k).iterPos w.heap.size = k := World.iterPos_iter _ _ _
        clear hcn hn hkl
        generalize hWW : w.iter s (k + 1) = W1 at *
        have HWW : Hid (W1 = w.iter s (k + 1)) := hWW.symm
        generalize hWZ : w.iter s k = W0 at *
        clear hWW hWZ
        by_cases c0 : n ≤ 32
        · have i1 : (0 : Int) ≤ (n : Int) := by omega
          have i2 : (n : Int) ≤ 32 := by omega
          have e59 : ((n : Int) == 59) = false := by rw [beq_eq_false_iff_ne]; omega
          have f59 : ¬ (n : Int) = 59 := by omega
          have d33 : decide ((n : Int) < 33) = true := decide_eq_true (by omega)
          have d126 : decide ((126 : Int) < (n : Int)) = false := decide_eq_false (by omega)
          have HR : Hid (wordL l = false) := HFN.out (by unfold wordN; exact decide_eq_false (by omega))
          clear HTN HFN
          go_wp2
          go_ret
          exact ⟨ret_b HR.out.symm, hT1⟩
        by_cases c1 : n ≤ 58
        · have i1 : (33 : Int) ≤ (n : Int) := by omega
          have i2 : (n : Int) ≤ 58 := by omega
          have e59 : ((n : Int) == 59) = false := by rw [beq_eq_false_iff_ne]; omega
          have f59 : ¬ (n : Int) = 59 := by omega
          have d33 : decide ((n : Int) < 33) = false := decide_eq_false (by omega)
          have d126 : decide ((126 : Int) < (n : Int)) = false := decide_eq_false (by omega)
          have HR : Hid ((l.take (k + 1)).all wordC = true) := HTN.out (by unfold wordN; exact decide_eq_true (by omega))
          clear HTN HFN
          go_wp2
          go_roundw
          case rel => exact ⟨k + 1, by omega, HWW.out, HR⟩
          case measure => rw [hm, hm0]; omega
        by_cases c2 : n = 59
        · subst c2
          have HR : Hid (wordL l = false) := HFN.out (by unfold wordN; exact decide_eq_false (by omega))
          clear HTN HFN
          go_wp2
          go_ret
          exact ⟨ret_b HR.out.symm, hT1⟩
        by_cases c3 : n ≤ 126
        · have i1 : (60 : Int) ≤ (n : Int) := by omega
          have i2 : (n : Int) ≤ 126 := by omega
          have e59 : ((n : Int) == 59) = false := by rw [beq_eq_false_iff_ne]; omega
          have f59 : ¬ (n : Int) = 59 := by omega
          have d33 : decide ((n : Int) < 33) = false := decide_eq_false (by omega)
          have d126 : decide ((126 : Int) < (n : Int)) = false := decide_eq_false (by omega)
          have HR : Hid ((l.take (k + 1)).all wordC = true) := HTN.out (by unfold wordN; exact decide_eq_true (by omega))
          clear HTN HFN
          go_wp2
          go_roundw
          case rel => exact ⟨k + 1, by omega, HWW.out, HR⟩
          case measure => rw [hm, hm0]; omega
        have i1 : (127 : Int) ≤ (n : Int) := by omega
        have e59 : ((n : Int) == 59) = false := by rw [beq_eq_false_iff_ne]; omega
        have f59 : ¬ (n : Int) = 59 := by omega
        have d33 : decide ((n : Int) < 33) = false := decide_eq_false (by omega)
        have d126 : decide ((126 : Int) < (n : Int)) = true := decide_eq_true (by omega)
        have HR : Hid (wordL l = false) := HFN.out (by unfold wordN; exact decide_eq_false (by omega))
        clear HTN HFN
        go_wp2
        go_ret
        exact ⟨ret_b HR.out.symm, hT1⟩
      · have hdh := decode_high s k hlt (by rw [hcn, ← hn]; omega)
        have hdl := decode_le s k
        obtain ⟨v, hv⟩ : ∃ v, v = (Utf8.decode s k).1 := ⟨_, rfl⟩
        have hnx : ∀ ty, (Instr.next (.pointer (some ⟨w.heap.size, 0, none⟩)) true ty).run Tryd.prog (w.iter s k) = .ok (.tuple #[.bool true, .int .i64 (k : Int), .int .i32 (v : Int)]) (w.iter s (k + (Utf8.decode s k).2)) := fun ty => by
          rw [hv]; exact run_next_any (P := Tryd.prog) w s k ty hlt
        have hT1 := iter_bel w s (k + (Utf8.decode s k).2)
        rw [← hv] at hdh hdl
        have j1 : (128 : Int) ≤ (v : Int) := by have := hdh.1; omega
        have j2 : (v : Int) ≤ 2147483647 := by omega
        have e59 : ((v : Int) == 59) = false := by rw [beq_eq_false_iff_ne]; omega
        have d33 : decide ((v : Int) < 33) = false := decide_eq_false (by omega)
        have d126 : decide ((126 : Int) < (v : Int)) = true := decide_eq_true (by omega)
        clear hcn hn hkl hdh hdl hv
        generalize w.iter s (k + (Utf8.decode s k).2) = W1 at *
        generalize hWZ : w.iter s k = W0 at *
        clear hWZ
        have HR : Hid (wordL l = false) := HFN.out (by unfold wordN; exact decide_eq_false (by omega))
        clear HTN HFN
        go_wp2
        go_ret
        exact ⟨ret_b HR.out.symm, hT1⟩
    · have hnx : ∀ ty, (Instr.next (.pointer (some ⟨w.heap.size, 0, none⟩)) true ty).run Tryd.prog (w.iter s k) = .ok (.tuple #[.bool false]) (w.iter s k) := fun ty => run_next_end (P := Tryd.prog) w s k ty hlt
      have HV : Hid (wordL l = true) := by
        have := HD.out
        rw [List.take_of_length_le (by rw [← HZ.out]; omega)] at this
        unfold Hid wordL; rw [this, ← HZ.out, decide_eq_true ⟨g1, g2⟩]; rfl
      generalize hWZ : w.iter s k = W0 at *
      clear hWZ HD
      go_wp2
      go_ret
      exact ⟨ret_b HV.out.symm, hT⟩

set_option maxRecDepth 20000 in
set_option maxHeartbeats 4000000 in
theorem codWord8 (l : List UInt8) (w : World) (hl : l.length ≤ 140737488351232) :
    Calls Tryd.prog 38 #[.string (str l)] w fun e w' => e = .returned (.bool (wordL l)) ∧ Below w.heap.size w w' := by
  have HZ : Hid ((str l).size = l.length) := str_size l
  have HS : Hid ((str l).data.toList = l) := str_list l
  generalize str l = s at *
  have hsz : s.size ≤ 140737488351232 := by rw [HZ.out]; exact hl
  have HNo : Hid (¬ (1 ≤ s.size ∧ s.size ≤ 64) → wordL l = false) := fun h => by
    unfold wordL
    rw [← HZ.out, decide_eq_false h, Bool.and_false]
  by_cases g1 : 1 ≤ s.size
  · by_cases g2 : s.size ≤ 64
    · exact codWord8_mid l s w HZ HS g1 g2
    · have h1' : decide ((s.size : Int) < 1) = false := decide_eq_false (by omega)
      have h2' : decide ((64 : Int) < (s.size : Int)) = true := decide_eq_true (by omega)
      have i1 : ¬ ((s.size : Int) < 1) := by omega
      have i2 : (64 : Int) < (s.size : Int) := by omega
      have HV : Hid (wordL l = false) := HNo.out (fun h => g2 h.2)
      clear HNo
      go_enter Tryd.func38, Tryd.ntmps38
      go_wp2
      go_ret
      exact ⟨ret_b HV.out.symm, Below.refl _ _⟩
  · have h1' : decide ((s.size : Int) < 1) = true := decide_eq_true (by omega)
    have i1 : (s.size : Int) < 1 := by omega
    have HV : Hid (wordL l = false) := HNo.out (fun h => g1 h.1)
    clear HNo
    go_enter Tryd.func38, Tryd.ntmps38
    go_wp2
    go_ret
    exact ⟨ret_b HV.out.symm, Below.refl _ _⟩
end Go.Proofs.YtihfpoclflppnaaDoor
