/- What the document's Digits, method, token, between and value answer. request: a line for each header. -/
import Derived.Test.YtbknabmcelknmaaGreatDoorJ6
import Derived.Test.YtbknabmcelknmaaGreatDoorOwnS
import Derived.Test.YtbknabmcelknmaaGreatDoorJ12
import Derived.BigQuiet
import Derived.Test.YtbknabmcelknmaaGreatDoorOwnX
import Derived.Test.YtbknabmcelknmaaGreatDoorBack5
import Derived.Test.YtbknabmcelknmaaGreatDoorJ29
namespace Go.Proofs.YtbknabmcelknmaaGreatDoor
open Go.RowKit

theorem OwnB.one (w : World) (base : Nat) (c : UInt8) (hb : base ≤ w.heap.size) : OwnB (w.alloc (.cells #[.int .u8 (c.toNat : Int)] 5)) base (.slice (some ⟨w.heap.size, 0, none⟩) 1 1) [c] :=
  World.ownsRow_lit w #[.int .u8 (c.toNat : Int)] 1 hb (by decide) rfl
theorem str_append2 (x y : List UInt8) : str x ++ str y = str (x ++ y) := by unfold str; rw [ByteArray.mk_append_mk]
theorem ret_s {a b : ByteArray} (h : a = b) : Ending.returned (.string a) = .returned (.string b) := by rw [h]

set_option maxHeartbeats 1000000 in
theorem refDigits (k : Nat) : ∀ (n : Nat) (w : World), n ≤ k → n < 18446744073709551616 →
    Calls Tryz.prog 44 #[.int .u64 (n : Int)] w fun e w' => e = .returned (.string (str (digitsL n))) ∧ Below w.heap.size w w' := by
  induction k using Nat.strongRecOn with
  | _ k ih =>
    intro n w hk hn
    obtain ⟨d, hd⟩ : ∃ d, d = n % 10 := ⟨_, rfl⟩
    obtain ⟨m, hm⟩ : ∃ m, m = n / 10 := ⟨_, rfl⟩
    have hq1 : (n : Int) % 10 = (d : Int) := by omega
    have hq2 : (n : Int).tmod 10 = (d : Int) := by rw [Int.tmod_eq_emod_of_nonneg (by omega)]; omega
    have hq3 : (n : Int) / 10 = (m : Int) := by omega
    have hq4 : (n : Int).tdiv 10 = (m : Int) := by rw [Int.tdiv_eq_ediv_of_nonneg (by omega)]; omega
    have hc0 := dgB_val n
    have HB1 : Hid (n < 10 → digitsL n = [dgB n]) := digitsL_small
    have HB2 : Hid (¬ n < 10 → digitsL n = digitsL m ++ [dgB n]) := fun h => by rw [hm]; exact digitsL_big h
    generalize hcc : dgB n = c at *
    have j1 : (48 : Int) + (d : Int) = (c.toNat : Int) := by omega
    have j2 := wrap8_nat c.toNat c.toNat_lt
    have hcv := conv_own _ w.heap.size _ _ (OwnB.one w w.heap.size c (Nat.le_refl _))
    have T1 : Below w.heap.size w (w.alloc (.cells #[.int .u8 (c.toNat : Int)] 5)) := (Below.refl _ _).alloc (Nat.le_refl _) _
    change (convert _ _ _).run _ _ = .ok (.string (str [c])) _ at hcv
    have hdl : d < 10 := by omega
    have hml : m < 1844674407370955162 := by omega
    by_cases h10 : n < 10
    · have h10' : (n : Int) < 10 := by omega
      have HR : Hid (digitsL n = [c]) := HB1.out h10
      clear HB1 HB2 hd hm hcc hc0 ih h10
      have HS1 : Hid (str [c] = str (digitsL n)) := by unfold Hid; rw [HR.out]
      generalize str [c] = s1 at *
      go_enter Tryz.func44, Tryz.ntmps44
      go_wp2_with fail
      go_ret
      exact ⟨ret_s HS1.out, T1⟩
    · have h10' : ¬ (n : Int) < 10 := by omega
      have HR : Hid (digitsL n = digitsL m ++ [c]) := HB2.out h10
      have HI := fun w => ih m (by omega) m w (Nat.le_refl _) (by omega)
      have hz := digitsL_len20 m (by omega)
      have Z1 : ((str (digitsL m)).size : Int) ≤ 20 := by rw [str_size]; omega
      have Z2 : ((str [c]).size : Int) ≤ 20 := by rw [str_size]; simp
      have HS : Hid (str (digitsL m) ++ str [c] = str (digitsL n)) := by unfold Hid; rw [str_append2, HR.out]
      clear HB1 HB2 hd hm hcc hc0 ih h10 HR hz
      generalize str (digitsL m) = s2 at *
      generalize str [c] = s1 at *
      go_enter Tryz.func44, Tryz.ntmps44
      go_wp2_with (go_at_call 44; refine (HI _).mono ?_; rintro e x2 ⟨rfl, b2⟩)
      go_ret
      exact ⟨ret_s HS.out, T1.trans (b2.mono T1.size)⟩

set_option maxHeartbeats 1000000 in
theorem refBetween (l : List UInt8) (lo hi most : Nat) (w : World) (hl : l.length ≤ 40000000000000) :
    Calls Tryz.prog 37 #[.string (str l), .int .u8 (lo : Int), .int .u8 (hi : Int), .int .i64 (most : Int)] w fun e w' => e = .returned (.bool (betwL lo hi most l)) ∧ w' = w := by
  have HZ : Hid ((str l).size = l.length) := str_size l
  have HS : Hid ((str l).data.toList = l) := str_list l
  generalize str l = s at *
  have hsz : s.size ≤ 40000000000000 := by rw [HZ.out]; exact hl
  go_enter Tryz.func37, Tryz.ntmps37
  go_wp2
  go_loopw [9] (fun i wr => ∃ (k : Nat), k ≤ s.size ∧ i = .int .i64 k ∧ Hid ((l.take k).all (betwB lo hi) = true) ∧ wr = w) (fun i _ => s.size - (intOf i).toNat)
  case atStart => exact ⟨0, Nat.zero_le _, rfl, rfl, rfl⟩
  case round =>
    obtain ⟨k, hk, rfl, HD, rfl⟩ := hrel
    by_cases hlt : k < s.size
    · have hb0 : (0 : Int) ≤ (k : Int) := by omega
      have hb1 : (k : Int) < (s.size : Int) := by omega
      have hkl : k < l.length := by rw [← HZ.out]; exact hlt
      have hcn : nth l k = sb s (k : Int) := by unfold sb; rw [HS.out]; rfl
      have hx0 := ixs s (k : Int) hb0 hb1
      have HT : Hid (betwB lo hi (nth l k) = true → (l.take (k + 1)).all (betwB lo hi) = true) := fun h => all_take hkl HD.out h
      have HF : Hid (betwB lo hi (nth l k) = false → betwL lo hi most l = false) := fun h => by unfold betwL; rw [all_nth hkl h]; rfl
      rw [hcn] at HT HF
      generalize sb s (k : Int) = c at *
      clear hkl hcn
      by_cases h1 : c.toNat < lo
      · have h1' : (c.toNat : Int) < (lo : Int) := by omega
        have HR : Hid (betwL lo hi most l = false) := HF.out (by unfold betwB; simp; omega)
        clear HT HF
        go_wp2
        go_ret
        exact ⟨ret_b HR.out.symm, by first | rfl | trivial⟩
      · have h1' : ¬ (c.toNat : Int) < (lo : Int) := by omega
        by_cases h2 : hi < c.toNat
        · have h2' : (hi : Int) < (c.toNat : Int) := by omega
          have HR : Hid (betwL lo hi most l = false) := HF.out (by unfold betwB; simp; omega)
          clear HT HF
          go_wp2
          go_ret
          exact ⟨ret_b HR.out.symm, by first | rfl | trivial⟩
        · have h2' : ¬ (hi : Int) < (c.toNat : Int) := by omega
          have HR : Hid ((l.take (k + 1)).all (betwB lo hi) = true) := HT.out (by unfold betwB; simp; omega)
          clear HT HF HD
          go_wp2
          go_roundw
          case rel => exact ⟨k + 1, by omega, by go_num, HR, by first | rfl | trivial⟩
          case measure => simp [intOf]; omega
    · have hge : ¬ (k : Int) < (s.size : Int) := by omega
      have HR : Hid (betwL lo hi most l = decide (l.length ≤ most)) := by
        have := HD.out
        rw [List.take_of_length_le (by rw [← HZ.out]; omega)] at this
        unfold Hid betwL; rw [this]; rfl
      have HQ : Hid (decide ((s.size : Int) ≤ (most : Int)) = decide (l.length ≤ most)) := by unfold Hid; rw [HZ.out]; apply decide_eq_decide.2; omega
      by_cases hm : s.size ≤ most
      · have hm' : (s.size : Int) ≤ (most : Int) := by omega
        go_wp2
        go_ret
        exact ⟨ret_b (by rw [HR.out, ← HQ.out]; simp [hm']), by first | rfl | trivial⟩
      · have hm' : ¬ (s.size : Int) ≤ (most : Int) := by omega
        have HV : Hid (betwL lo hi most l = false) := by unfold Hid; rw [HR.out, ← HQ.out]; exact decide_eq_false hm'
        go_wp2
        go_ret
        exact ⟨ret_b HV.out.symm, by first | rfl | trivial⟩
end Go.Proofs.YtbknabmcelknmaaGreatDoor
namespace Go.Proofs.YtbknabmcelknmaaGreatDoor
open Go.RowKit

theorem sL_str (l : List UInt8) : sL (str l) = l := by unfold sL str; simp
theorem IsP.grown {w w' : World} {a : Option Addr} {n cap : Nat} {l : List Pr} {row : Option Nat} (h : IsP w a n cap l) (hg : w.grownBy w' row) (hne : ∀ b off, a = some ⟨b, off, none⟩ → row ≠ some b) : IsP w' a n cap l :=
  ⟨h.len_eq, h.le, h.max, h.nil, fun hp => by
    obtain ⟨b, off, e, hc⟩ := h.cells hp
    refine ⟨b, off, e, fun i hi => ?_⟩
    obtain ⟨h1, h2⟩ := hc i hi
    have hb : w'.heap[b]? = w.heap[b]? := hg.5 b (cell_lt h1) (fun k => hne b off e k.symm)
    rw [World.cell?_of_block (a := ⟨b, off + i * 2, none⟩) hb, World.cell?_of_block (a := ⟨b, off + i * 2 + 1, none⟩) hb]
    exact ⟨h1, h2⟩⟩
theorem hlines_append (a b : List Pr) : hlines (a ++ b) = hlines a ++ hlines b := by unfold hlines; rw [List.map_append, List.flatten_append]
theorem hlines_one (p : Pr) : hlines [p] = hline p := by unfold hlines; simp
theorem hlines_take (l : List Pr) (k : Nat) (h : k < l.length) : hlines (l.take (k + 1)) = hlines (l.take k) ++ hline (nthP l k) := by
  rw [takeP5 l k h, hlines_append, hlines_one]
theorem hlines_take_le (l : List Pr) (k : Nat) : (hlines (l.take k)).length ≤ (hlines l).length := by
  have := congrArg List.length (hlines_append (l.take k) (l.drop k))
  rw [List.take_append_drop, List.length_append] at this
  omega
theorem hline_str (p : Pr) : str p.1 ++ ⟨#[58, 32]⟩ ++ str p.2 ++ ⟨#[13, 10]⟩ = str (hline p) := by
  rw [show (⟨#[58, 32]⟩ : ByteArray) = str [58, 32] from rfl, show (⟨#[13, 10]⟩ : ByteArray) = str [13, 10] from rfl, str_append2, str_append2, str_append2]; rfl

set_option maxRecDepth 20000 in
set_option maxHeartbeats 1000000 in
theorem codShowHs (base : Nat) (v : Value) (l : List UInt8) (a : Option Addr) (n cap : Nat) (hs : List Pr) (w : World) (hP : IsP w a n cap hs) (ho : OwnX w base v l) (hbase : base ≤ w.heap.size) (hap : 0 < n → ∀ b off, a = some ⟨b, off, none⟩ → b < w.heap.size ∧ v.ownBlock ≠ some b)
    (hlen : l.length + (hlines hs).length ≤ 140737488355328) :
    Calls Tryz.prog 43 #[v, .slice a n cap] w fun e w' => ∃ v', e = .returned v' ∧ OwnX w' base v' (l ++ hlines hs) ∧ Below base w w' := by
  have HL : Hid (hs.length = n) := hP.len_eq
  have HP : Hid (IsP w a n cap hs) := hP
  have hn : n ≤ 9223372036854775807 := by have := hP.le; have := hP.max; unfold maxLen at this; omega
  have HA : Hid (0 < n → ∀ b off, a = some ⟨b, off, none⟩ → b < w.heap.size ∧ v.ownBlock ≠ some b) := hap
  clear hP hap
  go_enter Tryz.func43, Tryz.ntmps43
  go_wp2
  go_loopw [0, 9] (fun vb i wr => ∃ (k : Nat), k ≤ n ∧ i = .int .i64 k ∧ OwnX wr base vb (l ++ hlines (hs.take k)) ∧ Hid (IsP wr a n cap hs) ∧ Hid (0 < n → ∀ b off, a = some ⟨b, off, none⟩ → b < wr.heap.size ∧ vb.ownBlock ≠ some b) ∧ Below base w wr) (fun _ i _ => n - (intOf i).toNat)
  case atStart => exact ⟨0, Nat.zero_le _, rfl, by rw [List.take_zero]; exact (by rw [show hlines [] = [] from rfl, List.append_nil]; exact ho), HP, HA, Below.refl _ _⟩
  case round =>
    obtain ⟨k, hk, rfl, hown, HPr, HAr, hbel⟩ := hrel
    by_cases hlt : k < n
    · obtain ⟨b, off, rfl, hc⟩ := HPr.out.cells (by omega)
      obtain ⟨c1, c2⟩ := hc k hlt
      have hb0 : (0 : Int) ≤ (k : Int) := by omega
      have hb1 : (k : Int) < (n : Int) := by omega
      have HT : Hid (l ++ hlines (hs.take (k + 1)) = l ++ hlines (hs.take k) ++ hline (nthP hs k)) := by unfold Hid; rw [hlines_take hs k (by rw [HL.out]; exact hlt), List.append_assoc]
      have HZ : Hid ((l ++ hlines (hs.take k)).length + (hline (nthP hs k)).length ≤ 140737488355328) := by
        have h1 := hlines_take_le hs (k + 1)
        have h2 := congrArg List.length (hlines_take hs k (by rw [HL.out]; exact hlt))
        rw [List.length_append] at h2
        unfold Hid; rw [List.length_append]; omega
      have HS : Hid (str (nthP hs k).1 ++ ⟨#[58, 32]⟩ ++ str (nthP hs k).2 ++ ⟨#[13, 10]⟩ = str (hline (nthP hs k))) := hline_str _
      have hz : (hline (nthP hs k)).length = (str (nthP hs k).1).size + 2 + (str (nthP hs k).2).size + 2 := by unfold hline; rw [str_size, str_size]; simp only [List.length_append, List.length_cons, List.length_nil]
      have hz1 : ¬ 9223372036854775807 < (str (nthP hs k).1).size + 2 := by have := HZ.out; omega
      have hz2 : ¬ 9223372036854775807 < (str (nthP hs k).1).size + 2 + (str (nthP hs k).2).size := by have := HZ.out; omega
      have hz3 : ¬ 9223372036854775807 < (str (nthP hs k).1).size + 2 + (str (nthP hs k).2).size + 2 := by have := HZ.out; omega
      clear hc hz
      generalize hline (nthP hs k) = ln at *
      generalize l ++ hlines (hs.take k) = lk at *
      generalize nthP hs k = pp at *
      obtain ⟨p1, p2⟩ := pp
      have HSR : Hid (∀ x, Src Tryz.prog 1 9 (.string (str p1 ++ ⟨#[58, 32]⟩ ++ str p2 ++ ⟨#[13, 10]⟩)) ln.length (bv ln) x) := fun x => by
        rw [HS.out]
        have := src_str x (str ln)
        rwa [sL_str] at this
      go_wp2_with (at_builtin; refine list_appXs _ rfl (.tmp 13) (.tmp 20) 9 rfl base _ lk rfl (hown.alloc _) _ ln rfl (HSR.out _) HZ.out (by have := hbel.size; simp; omega) ?_; intro v2 w2 ho2 hg2 hat2)
      go_roundw
      case rel =>
        have hg0 : ∀ b' off', (some (⟨b, off, none⟩ : Addr)) = some ⟨b', off', none⟩ → u0.ownBlock ≠ some b' := fun b' off' e => (HAr.out (by omega) b' off' e).2
        refine ⟨k + 1, hlt, by go_num, by rw [HT.out]; exact ho2, (HPr.out.small _).grown hg2 hg0, fun _ b' off' e => ?_, (hbel.alloc (by have := hbel.size; omega) _).grown hg2 (by have := hbel.size; simp; omega) (fun j hj => (hown.blk j hj).1)⟩
        have h1 := HAr.out (by omega) b' off' e
        refine ⟨by have := hg2.4; simp at this; omega, ?_⟩
        rcases hat2 with h | h
        · rw [h]; exact h1.2
        · rw [h]; intro e2; have := Option.some.inj e2; simp at this; omega
      case measure => simp [intOf]; omega
    · have hge : ¬ (k : Int) < (n : Int) := by omega
      have hkn : k = n := by omega
      subst hkn
      rw [List.take_of_length_le (by rw [HL.out]; exact Nat.le_refl _)] at hown
      go_wp2
      go_ret
      exact ⟨_, rfl, hown, hbel⟩
end Go.Proofs.YtbknabmcelknmaaGreatDoor
