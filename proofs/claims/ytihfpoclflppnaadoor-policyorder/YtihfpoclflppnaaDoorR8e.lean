/- What the document's Show answers. -/
import Derived.Test.YtihfpoclflppnaaDoorOwnR
import Derived.Test.YtihfpoclflppnaaDoorR8a
import Derived.Test.YtihfpoclflppnaaDoorR8c
namespace Go.Proofs.YtihfpoclflppnaaDoor
open Go.RowKit

theorem joinC_snoc (c : UInt8) (ps : List (List UInt8)) (a : List UInt8) (h : ps ≠ []) : joinC c (ps ++ [a]) = joinC c ps ++ c :: a := by
  induction ps with
  | nil => exact absurd rfl h
  | cons p ps ih =>
    cases ps with
    | nil => rfl
    | cons q ps =>
      rw [List.cons_append, joinC_cons c p _ (by simp), ih (by simp), joinC_cons c p (q :: ps) (by simp), List.append_assoc]; rfl
theorem textR_first (l : List Ru) (h : 0 < l.length) : textR (l.take 1) = ruleT (nthR l 0) := by
  rw [takeR l 0 h]; rfl
theorem textR_succ (l : List Ru) (k : Nat) (h : k < l.length) (h0 : 0 < k) : textR (l.take (k + 1)) = textR (l.take k) ++ 59 :: ruleT (nthR l k) := by
  unfold textR
  rw [takeR l k h, List.map_append]
  exact joinC_snoc 59 _ _ (by
    intro e
    have := congrArg List.length e
    rw [List.length_map, List.length_take, List.length_nil] at this
    omega)
theorem textR_le (l : List Ru) (k : Nat) (hk : k ≤ l.length) : (textR (l.take k)).length ≤ (textR l).length := by
  have key : ∀ d, k + d ≤ l.length → (textR (l.take k)).length ≤ (textR (l.take (k + d))).length := by
    intro d
    induction d with
    | zero => intro _; exact Nat.le_refl _
    | succ d ih =>
      intro hd
      refine Nat.le_trans (ih (by omega)) ?_
      by_cases h0 : 0 < k + d
      · rw [← Nat.add_assoc, textR_succ l (k + d) (by omega) h0, List.length_append]; omega
      · rw [show k + d = 0 by omega]; exact Nat.zero_le _
  have := key (l.length - k) (by omega)
  rw [show k + (l.length - k) = l.length by omega, List.take_length] at this
  exact this
theorem ruleT_eq (r : Ru) : ruleT r = kindL r.deny ++ 32 :: (r.who ++ 32 :: (r.act ++ 32 :: r.res)) := rfl
def wordsTo (l : List Ru) (k : Nat) : Prop := ∀ j, j < k → wordsR (nthR l j) = true
theorem sho_no (l : List Ru) (k : Nat) (hk : k < l.length) (h : wordsR (nthR l k) = false) : shoE l = 45 ∧ shoT l = [] := by
  have hok : shoOk l = false := by
    unfold shoOk
    have : l.all wordsR = false := by
      rw [List.all_eq_false]
      exact ⟨nthR l k, by rw [nthR_eq l k hk]; exact List.getElem_mem hk, by rw [h]; simp⟩
    rw [this]; rfl
  exact ⟨by unfold shoE; rw [hok]; rfl, by unfold shoT; rw [hok]; rfl⟩
theorem sho_long (l : List Ru) (h : ¬ (textR l).length ≤ 160) : shoE l = 45 ∧ shoT l = [] := by
  have hok : shoOk l = false := by unfold shoOk; rw [decide_eq_false h, Bool.and_false]
  exact ⟨by unfold shoE; rw [hok]; rfl, by unfold shoT; rw [hok]; rfl⟩
theorem sho_yes (l : List Ru) (hw : wordsTo l l.length) (h : (textR l).length ≤ 160) : shoE l = 0 ∧ shoT l = textR l := by
  have hok : shoOk l = true := by
    unfold shoOk
    rw [decide_eq_true h, Bool.and_true, List.all_eq_true]
    intro r hr
    obtain ⟨j, hj, rfl⟩ := List.getElem_of_mem hr
    have := hw j hj
    rw [nthR_eq l j hj] at this
    exact this
  exact ⟨by unfold shoE; rw [hok]; rfl, by unfold shoT; rw [hok]; rfl⟩
theorem words_no1 {r : Ru} (h : wordL r.who = false) : wordsR r = false := by unfold wordsR; rw [h]; rfl
theorem words_no2 {r : Ru} (h : wordL r.act = false) : wordsR r = false := by unfold wordsR; rw [h]; simp
theorem words_no3 {r : Ru} (h : wordL r.res = false) : wordsR r = false := by unfold wordsR; rw [h]; simp
theorem words_yes {r : Ru} (h1 : wordL r.who = true) (h2 : wordL r.act = true) (h3 : wordL r.res = true) : wordsR r = true := by unfold wordsR; rw [h1, h2, h3]; rfl
theorem wordL_len {l : List UInt8} (h : wordL l = true) : l.length ≤ 64 := by
  unfold wordL at h
  rw [Bool.and_eq_true, decide_eq_true_iff] at h
  exact h.2.2
theorem ret_se8 {a b : List UInt8} {e e' : Int} (h : a = b) (h2 : e = e') : Ending.returned (.tuple #[.string (str a), .int .i64 e]) = .returned (.tuple #[.string (str b), .int .i64 e']) := by rw [h, h2]

set_option maxRecDepth 20000 in
set_option maxHeartbeats 8000000 in
theorem refShow8 (a : Option Addr) (n cap : Nat) (l : List Ru) (w : World) (h : IsRs w a n cap l) (hz : SmallR l) (hn : n ≤ 1000) :
    Calls Tryd.prog 15 #[.slice a n cap] w fun e w' => e = .returned (.tuple #[.string (str (shoT l)), .int .i64 (shoE l)]) ∧ Below w.heap.size w w' := by
  have H : Hid (IsRs w a n cap l) := h
  have HZ : Hid (SmallR l) := hz
  have HL : Hid (l.length = n) := h.len_eq
  clear h hz
  go_enter Tryd.func15, Tryd.ntmps15
  go_wp2
  go_loopw [4, 5] (fun s i wr => ∃ (k : Nat) (T : ByteArray), k ≤ n ∧ i = .int .i64 (k : Int) ∧ s = .string T ∧ Hid (T = str (textR (l.take k))) ∧ T.size ≤ 361 ∧ Hid (wordsTo l k) ∧ Below w.heap.size w wr) (fun _ i _ => n - (intOf i).toNat)
  case atStart => exact ⟨0, str [], Nat.zero_le _, rfl, rfl, rfl, by rw [str_size]; exact Nat.zero_le _, fun j hj => absurd hj (Nat.not_lt_zero _), Below.refl _ _⟩
  case round =>
    obtain ⟨k, T, hk, rfl, rfl, hT, hT361, hw, hbel⟩ := hrel
    by_cases hlt : k < n
    · have hlt' : (k : Int) < (n : Int) := by omega
      have HKL : Hid (k < l.length) := by unfold Hid; rw [HL.out]; exact hlt
      obtain ⟨b, off, rfl, hc⟩ := H.out.cells (by omega)
      have gb : b < w.heap.size := cell_lt (hc k hlt).1
      have hR := (hc k hlt).below hbel gb
      have hzk := HZ.out k HKL.out
      obtain ⟨r, hr⟩ : ∃ r, r = nthR l k := ⟨_, rfl⟩
      have HR : Hid (r = nthR l k) := hr
      rw [← hr] at hR hzk
      have W1 := fun w => refWord8 r.who w (by omega)
      have W2 := fun w => refWord8 r.act w (by omega)
      have W3 := fun w => refWord8 r.res w (by omega)
      have HNk : Hid (wordsR r = false → shoE l = 45 ∧ shoT l = []) := fun h => sho_no l k HKL.out (by rw [← HR.out]; exact h)
      clear hr hzk hc
      obtain ⟨c0, c1, c2, c3⟩ := hR
      by_cases w1 : wordL r.who = true
      · rw [w1] at W1
        by_cases w2 : wordL r.act = true
        · rw [w2] at W2
          by_cases w3 : wordL r.res = true
          · rw [w3] at W3
            by_cases h160 : T.size ≤ 160
            · have h160' : ¬ (160 : Int) < (T.size : Int) := by omega
              have l1 : (str r.who).size ≤ 64 := by rw [str_size]; exact wordL_len w1
              have l2 : (str r.act).size ≤ 64 := by rw [str_size]; exact wordL_len w2
              have l3 : (str r.res).size ≤ 64 := by rw [str_size]; exact wordL_len w3
              have HW : Hid (wordsTo l (k + 1)) := fun j hj => by
                by_cases e : j = k
                · rw [e, ← HR.out]; exact words_yes w1 w2 w3
                · exact hw.out j (by omega)
              have HTl : Hid (T.size = (textR (l.take k)).length) := by unfold Hid; rw [hT.out, str_size]
              by_cases hk0 : k = 0
              · have hk0' : ¬ (0 : Int) < (k : Int) := by omega
                by_cases hd : r.deny = true
                · have HE : Hid (((((((T ++ ByteArray.mk #[100, 101, 110, 121, 32]) ++ str r.who) ++ ByteArray.mk #[32]) ++ str r.act) ++ ByteArray.mk #[32]) ++ str r.res) = str (textR (l.take (k + 1)))) := by
                    have e1 : textR (l.take (k + 1)) = ruleT r := by rw [hk0, HR.out, hk0]; exact textR_first l (by have := HKL.out; omega)
                    have e2 : T = str [] := by rw [hT.out, hk0]; rfl
                    unfold Hid; rw [e1, e2, ruleT_eq, hd]
                    simp only [show (ByteArray.mk #[32]) = str [32] from rfl, show (ByteArray.mk #[100, 101, 110, 121, 32]) = str [100, 101, 110, 121, 32] from rfl, str_append2]
                    unfold kindL; simp [sDeny]
                  have HEz : Hid (((((((T ++ ByteArray.mk #[100, 101, 110, 121, 32]) ++ str r.who) ++ ByteArray.mk #[32]) ++ str r.act) ++ ByteArray.mk #[32]) ++ str r.res).size ≤ 361) := by
                    unfold Hid; simp only [ByteArray.size_append]
                    have z32 : (ByteArray.mk #[32]).size = 1 := rfl
                    have z59 : (ByteArray.mk #[59]).size = 1 := rfl
                    have zk : (ByteArray.mk #[100, 101, 110, 121, 32]).size = 5 := rfl
                    omega
                  rw [hd] at c0
                  clear hT hw HNk HTl hd hk0 w1 w2 w3
                  generalize str r.who = S1 at *
                  generalize str r.act = S2 at *
                  generalize str r.res = S3 at *
                  go_wp2_with fail
                  refine (W1 _).mono ?_
                  rintro e y1 ⟨rfl, hy1⟩
                  obtain rfl := hy1.symm
                  clear hy1
                  go_wp2_with fail
                  refine (W2 _).mono ?_
                  rintro e y2 ⟨rfl, hy2⟩
                  obtain rfl := hy2.symm
                  clear hy2
                  go_wp2_with fail
                  refine (W3 _).mono ?_
                  rintro e y3 ⟨rfl, hy3⟩
                  obtain rfl := hy3.symm
                  clear hy3
                  go_wp2_with fail
                  have y1 : ¬ 9223372036854775807 < T.size + 5 + S1.size := by omega
                  have y2 : ¬ 9223372036854775807 < T.size + 5 + S1.size + 1 := by omega
                  have y3 : ¬ 9223372036854775807 < T.size + 5 + S1.size + 1 + S2.size := by omega
                  have y4 : ¬ 9223372036854775807 < T.size + 5 + S1.size + 1 + S2.size + 1 := by omega
                  have y5 : ¬ 9223372036854775807 < T.size + 5 + S1.size + 1 + S2.size + 1 + S3.size := by omega
                  go_quiet (fail)
                  have T2 : Below w.heap.size w (wr.drewN nq) := bel_drewN hbel nq
                  generalize wr.drewN nq = x2 at *
                  clear y1 y2 y3 y4 y5 c0 c1 c2 c3
                  go_wp2
                  go_roundw
                  case rel => exact ⟨k + 1, _, by omega, by go_num, rfl, HE.out, HEz.out, HW.out, T2⟩
                  case measure => simp [intOf]; omega
                · have hd : r.deny = false := by simpa using hd
                  have HE : Hid (((((((T ++ ByteArray.mk #[97, 108, 108, 111, 119, 32]) ++ str r.who) ++ ByteArray.mk #[32]) ++ str r.act) ++ ByteArray.mk #[32]) ++ str r.res) = str (textR (l.take (k + 1)))) := by
                    have e1 : textR (l.take (k + 1)) = ruleT r := by rw [hk0, HR.out, hk0]; exact textR_first l (by have := HKL.out; omega)
                    have e2 : T = str [] := by rw [hT.out, hk0]; rfl
                    unfold Hid; rw [e1, e2, ruleT_eq, hd]
                    simp only [show (ByteArray.mk #[32]) = str [32] from rfl, show (ByteArray.mk #[97, 108, 108, 111, 119, 32]) = str [97, 108, 108, 111, 119, 32] from rfl, str_append2]
                    unfold kindL; simp [sAllow]
                  have HEz : Hid (((((((T ++ ByteArray.mk #[97, 108, 108, 111, 119, 32]) ++ str r.who) ++ ByteArray.mk #[32]) ++ str r.act) ++ ByteArray.mk #[32]) ++ str r.res).size ≤ 361) := by
                    unfold Hid; simp only [ByteArray.size_append]
                    have z32 : (ByteArray.mk #[32]).size = 1 := rfl
                    have z59 : (ByteArray.mk #[59]).size = 1 := rfl
                    have zk : (ByteArray.mk #[97, 108, 108, 111, 119, 32]).size = 6 := rfl
                    omega
                  rw [hd] at c0
                  clear hT hw HNk HTl hd hk0 w1 w2 w3
                  generalize str r.who = S1 at *
                  generalize str r.act = S2 at *
                  generalize str r.res = S3 at *
                  go_wp2_with fail
                  refine (W1 _).mono ?_
                  rintro e y1 ⟨rfl, hy1⟩
                  obtain rfl := hy1.symm
                  clear hy1
                  go_wp2_with fail
                  refine (W2 _).mono ?_
                  rintro e y2 ⟨rfl, hy2⟩
                  obtain rfl := hy2.symm
                  clear hy2
                  go_wp2_with fail
                  refine (W3 _).mono ?_
                  rintro e y3 ⟨rfl, hy3⟩
                  obtain rfl := hy3.symm
                  clear hy3
                  go_wp2_with fail
                  have y1 : ¬ 9223372036854775807 < T.size + 6 + S1.size := by omega
                  have y2 : ¬ 9223372036854775807 < T.size + 6 + S1.size + 1 := by omega
                  have y3 : ¬ 9223372036854775807 < T.size + 6 + S1.size + 1 + S2.size := by omega
                  have y4 : ¬ 9223372036854775807 < T.size + 6 + S1.size + 1 + S2.size + 1 := by omega
                  have y5 : ¬ 9223372036854775807 < T.size + 6 + S1.size + 1 + S2.size + 1 + S3.size := by omega
                  go_quiet (fail)
                  have T2 : Below w.heap.size w (wr.drewN nq) := bel_drewN hbel nq
                  generalize wr.drewN nq = x2 at *
                  clear y1 y2 y3 y4 y5 c0 c1 c2 c3
                  go_wp2
                  go_roundw
                  case rel => exact ⟨k + 1, _, by omega, by go_num, rfl, HE.out, HEz.out, HW.out, T2⟩
                  case measure => simp [intOf]; omega
              · have hk0' : (0 : Int) < (k : Int) := by omega
                by_cases hd : r.deny = true
                · have HE : Hid ((((((((T ++ ByteArray.mk #[59]) ++ ByteArray.mk #[100, 101, 110, 121, 32]) ++ str r.who) ++ ByteArray.mk #[32]) ++ str r.act) ++ ByteArray.mk #[32]) ++ str r.res) = str (textR (l.take (k + 1)))) := by
                    unfold Hid; rw [textR_succ l k HKL.out (by omega), ← HR.out, hT.out, ruleT_eq, hd]
                    simp only [show (ByteArray.mk #[59]) = str [59] from rfl, show (ByteArray.mk #[32]) = str [32] from rfl, show (ByteArray.mk #[100, 101, 110, 121, 32]) = str [100, 101, 110, 121, 32] from rfl, str_append2]
                    unfold kindL; simp [sDeny]
                  have HEz : Hid ((((((((T ++ ByteArray.mk #[59]) ++ ByteArray.mk #[100, 101, 110, 121, 32]) ++ str r.who) ++ ByteArray.mk #[32]) ++ str r.act) ++ ByteArray.mk #[32]) ++ str r.res).size ≤ 361) := by
                    unfold Hid; simp only [ByteArray.size_append]
                    have z32 : (ByteArray.mk #[32]).size = 1 := rfl
                    have z59 : (ByteArray.mk #[59]).size = 1 := rfl
                    have zk : (ByteArray.mk #[100, 101, 110, 121, 32]).size = 5 := rfl
                    omega
                  rw [hd] at c0
                  clear hT hw HNk HTl hd hk0 w1 w2 w3
                  generalize str r.who = S1 at *
                  generalize str r.act = S2 at *
                  generalize str r.res = S3 at *
                  go_wp2_with fail
                  refine (W1 _).mono ?_
                  rintro e y1 ⟨rfl, hy1⟩
                  obtain rfl := hy1.symm
                  clear hy1
                  go_wp2_with fail
                  refine (W2 _).mono ?_
                  rintro e y2 ⟨rfl, hy2⟩
                  obtain rfl := hy2.symm
                  clear hy2
                  go_wp2_with fail
                  refine (W3 _).mono ?_
                  rintro e y3 ⟨rfl, hy3⟩
                  obtain rfl := hy3.symm
                  clear hy3
                  go_wp2_with fail
                  have y1 : ¬ 9223372036854775807 < T.size + 1 + 5 + S1.size := by omega
                  have y2 : ¬ 9223372036854775807 < T.size + 1 + 5 + S1.size + 1 := by omega
                  have y3 : ¬ 9223372036854775807 < T.size + 1 + 5 + S1.size + 1 + S2.size := by omega
                  have y4 : ¬ 9223372036854775807 < T.size + 1 + 5 + S1.size + 1 + S2.size + 1 := by omega
                  have y5 : ¬ 9223372036854775807 < T.size + 1 + 5 + S1.size + 1 + S2.size + 1 + S3.size := by omega
                  go_quiet (fail)
                  have T2 : Below w.heap.size w (wr.drewN nq) := bel_drewN hbel nq
                  generalize wr.drewN nq = x2 at *
                  clear y1 y2 y3 y4 y5 c0 c1 c2 c3
                  go_wp2
                  go_roundw
                  case rel => exact ⟨k + 1, _, by omega, by go_num, rfl, HE.out, HEz.out, HW.out, T2⟩
                  case measure => simp [intOf]; omega
                · have hd : r.deny = false := by simpa using hd
                  have HE : Hid ((((((((T ++ ByteArray.mk #[59]) ++ ByteArray.mk #[97, 108, 108, 111, 119, 32]) ++ str r.who) ++ ByteArray.mk #[32]) ++ str r.act) ++ ByteArray.mk #[32]) ++ str r.res) = str (textR (l.take (k + 1)))) := by
                    unfold Hid; rw [textR_succ l k HKL.out (by omega), ← HR.out, hT.out, ruleT_eq, hd]
                    simp only [show (ByteArray.mk #[59]) = str [59] from rfl, show (ByteArray.mk #[32]) = str [32] from rfl, show (ByteArray.mk #[97, 108, 108, 111, 119, 32]) = str [97, 108, 108, 111, 119, 32] from rfl, str_append2]
                    unfold kindL; simp [sAllow]
                  have HEz : Hid ((((((((T ++ ByteArray.mk #[59]) ++ ByteArray.mk #[97, 108, 108, 111, 119, 32]) ++ str r.who) ++ ByteArray.mk #[32]) ++ str r.act) ++ ByteArray.mk #[32]) ++ str r.res).size ≤ 361) := by
                    unfold Hid; simp only [ByteArray.size_append]
                    have z32 : (ByteArray.mk #[32]).size = 1 := rfl
                    have z59 : (ByteArray.mk #[59]).size = 1 := rfl
                    have zk : (ByteArray.mk #[97, 108, 108, 111, 119, 32]).size = 6 := rfl
                    omega
                  rw [hd] at c0
                  clear hT hw HNk HTl hd hk0 w1 w2 w3
                  generalize str r.who = S1 at *
                  generalize str r.act = S2 at *
                  generalize str r.res = S3 at *
                  go_wp2_with fail
                  refine (W1 _).mono ?_
                  rintro e y1 ⟨rfl, hy1⟩
                  obtain rfl := hy1.symm
                  clear hy1
                  go_wp2_with fail
                  refine (W2 _).mono ?_
                  rintro e y2 ⟨rfl, hy2⟩
                  obtain rfl := hy2.symm
                  clear hy2
                  go_wp2_with fail
                  refine (W3 _).mono ?_
                  rintro e y3 ⟨rfl, hy3⟩
                  obtain rfl := hy3.symm
                  clear hy3
                  go_wp2_with fail
                  have y1 : ¬ 9223372036854775807 < T.size + 1 + 6 + S1.size := by omega
                  have y2 : ¬ 9223372036854775807 < T.size + 1 + 6 + S1.size + 1 := by omega
                  have y3 : ¬ 9223372036854775807 < T.size + 1 + 6 + S1.size + 1 + S2.size := by omega
                  have y4 : ¬ 9223372036854775807 < T.size + 1 + 6 + S1.size + 1 + S2.size + 1 := by omega
                  have y5 : ¬ 9223372036854775807 < T.size + 1 + 6 + S1.size + 1 + S2.size + 1 + S3.size := by omega
                  go_quiet (fail)
                  have T2 : Below w.heap.size w (wr.drewN nq) := bel_drewN hbel nq
                  generalize wr.drewN nq = x2 at *
                  clear y1 y2 y3 y4 y5 c0 c1 c2 c3
                  go_wp2
                  go_roundw
                  case rel => exact ⟨k + 1, _, by omega, by go_num, rfl, HE.out, HEz.out, HW.out, T2⟩
                  case measure => simp [intOf]; omega
            · have h160' : (160 : Int) < (T.size : Int) := by omega
              have HX := sho_long l (by have := textR_le l k (by rw [HL.out]; exact hk); rw [hT.out, str_size] at h160; omega)
              have HX1 : Hid (shoE l = 45) := HX.1
              have HX2 : Hid (shoT l = []) := HX.2
              clear HX HNk hT hw
              go_wp2_with fail
              refine (W1 _).mono ?_
              rintro e y1 ⟨rfl, hy1⟩
              obtain rfl := hy1.symm
              clear hy1
              go_wp2_with fail
              refine (W2 _).mono ?_
              rintro e y2 ⟨rfl, hy2⟩
              obtain rfl := hy2.symm
              clear hy2
              go_wp2_with fail
              refine (W3 _).mono ?_
              rintro e y3 ⟨rfl, hy3⟩
              obtain rfl := hy3.symm
              clear hy3
              go_wp2_with fail
              go_ret2
              exact ⟨ret_se8 (a := []) HX2.out.symm HX1.out.symm, hbel⟩
          · have w3' : wordL r.res = false := by simpa using w3
            rw [w3'] at W3
            have HX := HNk.out (words_no3 w3')
            have HX1 : Hid (shoE l = 45) := HX.1
            have HX2 : Hid (shoT l = []) := HX.2
            clear HX HNk hT hw
            go_wp2_with fail
            refine (W1 _).mono ?_
            rintro e y1 ⟨rfl, hy1⟩
            obtain rfl := hy1.symm
            clear hy1
            go_wp2_with fail
            refine (W2 _).mono ?_
            rintro e y2 ⟨rfl, hy2⟩
            obtain rfl := hy2.symm
            clear hy2
            go_wp2_with fail
            refine (W3 _).mono ?_
            rintro e y3 ⟨rfl, hy3⟩
            obtain rfl := hy3.symm
            clear hy3
            go_wp2_with fail
            go_ret2
            exact ⟨ret_se8 (a := []) HX2.out.symm HX1.out.symm, hbel⟩
        · have w2' : wordL r.act = false := by simpa using w2
          rw [w2'] at W2
          have HX := HNk.out (words_no2 w2')
          have HX1 : Hid (shoE l = 45) := HX.1
          have HX2 : Hid (shoT l = []) := HX.2
          clear HX HNk hT hw
          go_wp2_with fail
          refine (W1 _).mono ?_
          rintro e y1 ⟨rfl, hy1⟩
          obtain rfl := hy1.symm
          clear hy1
          go_wp2_with fail
          refine (W2 _).mono ?_
          rintro e y2 ⟨rfl, hy2⟩
          obtain rfl := hy2.symm
          clear hy2
          go_wp2_with fail
          go_ret2
          exact ⟨ret_se8 (a := []) HX2.out.symm HX1.out.symm, hbel⟩
      · have w1' : wordL r.who = false := by simpa using w1
        rw [w1'] at W1
        have HX := HNk.out (words_no1 w1')
        have HX1 : Hid (shoE l = 45) := HX.1
        have HX2 : Hid (shoT l = []) := HX.2
        clear HX HNk hT hw
        go_wp2_with fail
        refine (W1 _).mono ?_
        rintro e y1 ⟨rfl, hy1⟩
        obtain rfl := hy1.symm
        clear hy1
        go_wp2_with fail
        go_ret2
        exact ⟨ret_se8 (a := []) HX2.out.symm HX1.out.symm, hbel⟩
    · have hge : ¬ (k : Int) < (n : Int) := by omega
      have hkn : k = l.length := by rw [HL.out]; omega
      have eT : T = str (textR l) := by rw [hT.out, hkn, List.take_length]
      by_cases h160 : T.size ≤ 160
      · have h160' : ¬ (160 : Int) < (T.size : Int) := by omega
        have HX := sho_yes l (by rw [← hkn]; exact hw.out) (by rw [eT, str_size] at h160; exact h160)
        have HX1 : Hid (shoE l = 0) := HX.1
        have HX2 : Hid (T = str (shoT l)) := by unfold Hid; rw [HX.2, eT]
        clear HX hkn eT hT hw
        go_wp2_with fail
        go_ret2
        exact ⟨by rw [HX1.out, ← HX2.out]; rfl, hbel⟩
      · have h160' : (160 : Int) < (T.size : Int) := by omega
        have HX := sho_long l (by rw [eT, str_size] at h160; exact h160)
        have HX1 : Hid (shoE l = 45) := HX.1
        have HX2 : Hid (shoT l = []) := HX.2
        clear HX hkn eT hT hw
        go_wp2_with fail
        go_ret2
        exact ⟨ret_se8 (a := []) HX2.out.symm HX1.out.symm, hbel⟩
end Go.Proofs.YtihfpoclflppnaaDoor
