/- The document's Answer. -/
import Derived.Test.YtbknabmcelknmaaGreatDoorR5A
import Derived.BigQuiet
namespace Go.Proofs.YtbknabmcelknmaaGreatDoor
open Go.RowKit Go.Lib

set_option maxRecDepth 20000 in
set_option maxHeartbeats 800000 in
theorem refAnswer (st : Int) (hst : -9223372036854775808 ≤ st ∧ st ≤ 9223372036854775807) (a : Option Addr) (n cap : Nat) (hs : List Pr) (ba : Option Addr) (bn bc : Nat) (b : List UInt8) (w : World) (h : IsP w a n cap hs) (hb : IsB w ba bn bc b) (hbn : bn ≤ 100000000) (hsz : (hlines hs).length ≤ 100000000000000) :
    Calls Tryz.prog 23 #[.int .i64 st, .slice a n cap, .slice ba bn bc] w fun e w' => ∃ v, e = .returned v ∧ OwnX w' w.heap.size v (answerL st hs b) ∧ Below w.heap.size w w' := by
  have HLb := hb.len_eq
  have HL : Hid (hs.length = n) := h.len_eq
  have em : max st 0 = ((st.toNat : Nat) : Int) := by omega
  have d1 := digitsL_len20 st.toNat (by omega)
  have d2 := digitsL_len20 b.length (by omega)
  have HI1 : Calls Tryz.prog 44 #[.int .u64 (max st 0)] w fun e w' => e = .returned (.string (str (digitsL st.toNat))) ∧ Below w.heap.size w w' := by rw [em]; exact refDigits _ _ w (Nat.le_refl _) (by omega)
  have HI2 : ∀ W, Calls Tryz.prog 44 #[.int .u64 (bn : Int)] W fun e w' => e = .returned (.string (str (digitsL b.length))) ∧ Below W.heap.size W w' := fun W => by rw [HLb]; exact refDigits _ _ W (Nat.le_refl _) (by omega)
  have ea : answerL st hs b = (http11 ++ [32] ++ digitsL st.toNat ++ [13, 10] ++ hlines hs) ++ (ctline ++ digitsL b.length ++ [13, 10, 13, 10]) ++ b := by unfold answerL; simp only [List.append_assoc]
  rw [ea]
  clear ea em
  generalize digitsL st.toNat = ds at *
  generalize digitsL b.length = dl at *
  have hz1 : ¬ 9223372036854775807 < 9 + (str ds).size := by rw [str_size]; omega
  have hz2 : ¬ 9223372036854775807 < 9 + (str ds).size + 2 := by rw [str_size]; omega
  have HS : (⟨#[72, 84, 84, 80, 47, 49, 46, 49, 32]⟩ : ByteArray) ++ str ds ++ ⟨#[13, 10]⟩ = str (http11 ++ [32] ++ ds ++ [13, 10]) := by
    rw [show (⟨#[72, 84, 84, 80, 47, 49, 46, 49, 32]⟩ : ByteArray) = str (http11 ++ [32]) from rfl, show (⟨#[13, 10]⟩ : ByteArray) = str [13, 10] from rfl, str_append2, str_append2]
  have hl0 : (http11 ++ [32] ++ ds ++ [13, 10]).length = ds.length + 11 := by unfold http11; simp only [List.length_append, List.length_cons, List.length_nil]; omega
  generalize http11 ++ [32] ++ ds ++ [13, 10] = h0 at *
  have HP : Hid (∀ W, Below w.heap.size w W → IsP W a n cap hs) := fun W hW => h.below hW rfl
  have HB : Hid (∀ W, Below w.heap.size w W → IsB W ba bn bc b) := fun W hW => hb.below hW rfl
  have hn : n ≤ 9223372036854775807 := by have := h.le; have := h.max; unfold maxLen at this; omega
  clear h hb
  go_enter Tryz.func23, Tryz.ntmps23
  go_wp2_with (go_at_call 44; refine HI1.mono ?_; rintro e w1 ⟨rfl, hb1⟩)
  clear HS HI1 hz1 hz2
  go_loopw [7, 8] (fun v i wr => ∃ (k : Nat), k ≤ n ∧ i = .int .i64 k ∧ v = .string (str (h0 ++ hlines (hs.take k))) ∧ Below w.heap.size w wr) (fun _ i _ => n - (intOf i).toNat)
  case atStart => exact ⟨0, Nat.zero_le _, rfl, by rw [List.take_zero, show hlines [] = [] from rfl, List.append_nil], hb1⟩
  case round =>
    obtain ⟨k, hk, rfl, rfl, hbel⟩ := hrel
    by_cases hlt : k < n
    · obtain ⟨b0, off, rfl, hc⟩ := (HP.out wr hbel).cells (by omega)
      obtain ⟨c1, c2⟩ := hc k hlt
      have hb0 : (0 : Int) ≤ (k : Int) := by omega
      have hb1 : (k : Int) < (n : Int) := by omega
      have hkl : k < hs.length := by rw [HL.out]; exact hlt
      have HT : Hid (str (h0 ++ hlines (hs.take k)) ++ str (nthP hs k).1 ++ ⟨#[58, 32]⟩ ++ str (nthP hs k).2 ++ ⟨#[13, 10]⟩ = str (h0 ++ hlines (hs.take (k + 1)))) := by
        unfold Hid
        rw [hlines_take hs k hkl, show (⟨#[58, 32]⟩ : ByteArray) = str [58, 32] from rfl, show (⟨#[13, 10]⟩ : ByteArray) = str [13, 10] from rfl, str_append2, str_append2, str_append2, str_append2]
        unfold hline
        simp only [List.append_assoc]
      have hz : (hline (nthP hs k)).length = (str (nthP hs k).1).size + 2 + (str (nthP hs k).2).size + 2 := by unfold hline; rw [str_size, str_size]; simp only [List.length_append, List.length_cons, List.length_nil]
      have hy := hlines_take_le hs (k + 1)
      rw [hlines_take hs k hkl, List.length_append, hz] at hy
      have hx : (str (h0 ++ hlines (hs.take k))).size = h0.length + (hlines (hs.take k)).length := by rw [str_size, List.length_append]
      have g1 : ¬ 9223372036854775807 < (str (h0 ++ hlines (hs.take k))).size + (str (nthP hs k).1).size := by omega
      have g2 : ¬ 9223372036854775807 < (str (h0 ++ hlines (hs.take k))).size + (str (nthP hs k).1).size + 2 := by omega
      have g3 : ¬ 9223372036854775807 < (str (h0 ++ hlines (hs.take k))).size + (str (nthP hs k).1).size + 2 + (str (nthP hs k).2).size := by omega
      have g4 : ¬ 9223372036854775807 < (str (h0 ++ hlines (hs.take k))).size + (str (nthP hs k).1).size + 2 + (str (nthP hs k).2).size + 2 := by omega
      clear hc hz hy hx
      generalize str (h0 ++ hlines (hs.take k)) = s0 at *
      generalize str (nthP hs k).1 = s1 at *
      generalize str (nthP hs k).2 = s2 at *
      go_wp2
      go_quiet (fail)
      go_wp2
      go_roundw
      case rel => exact ⟨k + 1, hlt, by go_num, by rw [HT.out], bel_drewN hbel _⟩
      case measure => simp [intOf]; omega
    · have hge : ¬ (k : Int) < (n : Int) := by omega
      have hkn : k = n := by omega
      subst hkn
      rw [List.take_of_length_le (by rw [HL.out]; exact Nat.le_refl _)]
      have hx : (str (h0 ++ hlines hs)).size = h0.length + (hlines hs).length := by rw [str_size, List.length_append]
      have hl1 : (h0 ++ hlines hs ++ (ctline ++ dl ++ [13, 10, 13, 10])).length = h0.length + (hlines hs).length + dl.length + 20 := by unfold ctline ctl; simp only [List.length_append, List.length_cons, List.length_nil]; omega
      have g1 : ¬ 9223372036854775807 < (str (h0 ++ hlines hs)).size + 16 := by omega
      have g2 : ¬ 9223372036854775807 < (str (h0 ++ hlines hs)).size + 16 + (str dl).size := by rw [str_size dl]; omega
      have g3 : ¬ 9223372036854775807 < (str (h0 ++ hlines hs)).size + 16 + (str dl).size + 4 := by rw [str_size dl]; omega
      have HE : Hid (str (h0 ++ hlines hs) ++ ⟨#[99, 111, 110, 116, 101, 110, 116, 45, 108, 101, 110, 103, 116, 104, 58, 32]⟩ ++ str dl ++ ⟨#[13, 10, 13, 10]⟩ = str (h0 ++ hlines hs ++ (ctline ++ dl ++ [13, 10, 13, 10]))) := by
        unfold Hid
        rw [show (⟨#[99, 111, 110, 116, 101, 110, 116, 45, 108, 101, 110, 103, 116, 104, 58, 32]⟩ : ByteArray) = str ctline from rfl, show (⟨#[13, 10, 13, 10]⟩ : ByteArray) = str [13, 10, 13, 10] from rfl, str_append2, str_append2, str_append2]
        simp only [List.append_assoc]
      have HW : Hid (∀ W, Below w.heap.size w W → OwnX (Lib.bytesWorld W 5 (str (h0 ++ hlines hs ++ (ctline ++ dl ++ [13, 10, 13, 10])))) w.heap.size (.slice (some ⟨W.heap.size, 0, none⟩) (str (h0 ++ hlines hs ++ (ctline ++ dl ++ [13, 10, 13, 10]))).size (grownCap W (str (h0 ++ hlines hs ++ (ctline ++ dl ++ [13, 10, 13, 10]))).size 0 5)) (h0 ++ hlines hs ++ (ctline ++ dl ++ [13, 10, 13, 10])) ∧ Below w.heap.size w (Lib.bytesWorld W 5 (str (h0 ++ hlines hs ++ (ctline ++ dl ++ [13, 10, 13, 10]))))) := fun W hW => by
        have hO := conv_str_ownX W (str (h0 ++ hlines hs ++ (ctline ++ dl ++ [13, 10, 13, 10]))) (by rw [str_size]; unfold maxLen; omega) w.heap.size hW.size
        rw [sL_str] at hO
        exact ⟨hO, hW.trans ((conv_str_bel W _).mono hW.size)⟩
      have HLY : Hid ((h0 ++ hlines hs ++ (ctline ++ dl ++ [13, 10, 13, 10])).length + b.length ≤ 140737488355328) := by unfold Hid; rw [hl1]; omega
      clear hl1 hx
      generalize hHD : h0 ++ hlines hs ++ (ctline ++ dl ++ [13, 10, 13, 10]) = hd at *
      have HHD : Hid (h0 ++ hlines hs ++ (ctline ++ dl ++ [13, 10, 13, 10]) = hd) := hHD
      clear hHD
      generalize str (h0 ++ hlines hs) = s0 at *
      generalize str dl = sd at *
      go_wp2_with (first | (go_at_call 44; refine (HI2 _).mono ?_; rintro e w4 ⟨rfl, hb4⟩; have hbb4 := hbel.trans (hb4.mono hbel.size); have hcv := conv_str w4 (s0 ++ ⟨#[99, 111, 110, 116, 101, 110, 116, 45, 108, 101, 110, 103, 116, 104, 58, 32]⟩ ++ sd ++ ⟨#[13, 10, 13, 10]⟩); obtain ⟨ho5, hbb5⟩ := HW.out _ hbb4; rw [← HE.out] at ho5 hbb5; generalize Lib.bytesWorld w4 5 (s0 ++ ⟨#[99, 111, 110, 116, 101, 110, 116, 45, 108, 101, 110, 103, 116, 104, 58, 32]⟩ ++ sd ++ ⟨#[13, 10, 13, 10]⟩) = wB at *; generalize grownCap w4 (s0 ++ ⟨#[99, 111, 110, 116, 101, 110, 116, 45, 108, 101, 110, 103, 116, 104, 58, 32]⟩ ++ sd ++ ⟨#[13, 10, 13, 10]⟩ : ByteArray).size 0 5 = gc at *; generalize (s0 ++ ⟨#[99, 111, 110, 116, 101, 110, 116, 45, 108, 101, 110, 103, 116, 104, 58, 32]⟩ ++ sd ++ ⟨#[13, 10, 13, 10]⟩ : ByteArray).size = sz at *) | (at_builtin; refine list_appXs _ rfl (.tmp 44) (.tmp 45) 22 rfl w.heap.size _ hd rfl ho5 _ b rfl (src_isB _ _ _ _ b (HB.out _ hbb5)) HLY.out hbb5.size ?_; intro v8 w8 ho8 hg8 hat8))
      go_ret
      exact ⟨v8, rfl, by rw [HHD.out]; exact ho8, ho5.grown_bel hbb5 hbb5.size hg8⟩
end Go.Proofs.YtbknabmcelknmaaGreatDoor
