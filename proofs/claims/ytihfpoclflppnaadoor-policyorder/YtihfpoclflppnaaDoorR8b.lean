/- What the document's Match answers. -/
import Derived.Test.YtihfpoclflppnaaDoorOwnL
import Derived.Test.YtihfpoclflppnaaDoorPol0
import Derived.Test.YtihfpoclflppnaaDoorB0
import Derived.Test.YtihfpoclflppnaaDoorB2
import Derived.Test.YtihfpoclflppnaaDoorB9
import Derived.RegionTactic
import Derived.BigRegion
namespace Go.Proofs.YtihfpoclflppnaaDoor
open Go.RowKit

theorem OwnL.other {w : World} {base g cap : Nat} {l : List Bool} {n : Nat} (h : OwnL w base (.slice (some ⟨g, 0, none⟩) n cap) l) (a : Addr) (u : Value) (hne : g ≠ a.block) : OwnL (w.setCell a u) base (.slice (some ⟨g, 0, none⟩) n cap) l := by
  refine ⟨h.1, ?_⟩
  rcases h.2 with h2 | ⟨g', cap', cur, h3, h4, h5, h6⟩
  · exact .inl h2
  · have e : g = g' := by
      simp only [Value.slice.injEq, Option.some.injEq, Addr.mk.injEq, and_true] at h3
      exact h3.1
    subst e
    exact .inr ⟨g, cap', cur, h3, h4, by rw [heap_setCell_other w a g u hne]; exact h5, h6⟩
/-- the row behind i bytes of the pattern -/
def rowM (p s : List UInt8) (i : Nat) : List Bool := (List.range (s.length + 1)).map (matTo p s i)
theorem rowM_length (p s : List UInt8) (i : Nat) : (rowM p s i).length = s.length + 1 := by simp [rowM]
theorem rowM_at (p s : List UInt8) (i k : Nat) (h : k < s.length + 1) : nthB (rowM p s i) k = matTo p s i k := by
  rw [nthB_eq _ _ (by rw [rowM_length]; exact h)]; simp [rowM]
def fillM (p s : List UInt8) (i k : Nat) : List Bool := (List.range (s.length + 1)).map fun j => if j < k then matTo p s i j else false
theorem fillM_length (p s : List UInt8) (i k : Nat) : (fillM p s i k).length = s.length + 1 := by simp [fillM]
theorem fillM_at (p s : List UInt8) (i k j : Nat) (h : j < s.length + 1) : nthB (fillM p s i k) j = if j < k then matTo p s i j else false := by
  rw [nthB_eq _ _ (by rw [fillM_length]; exact h)]; simp [fillM]
theorem fillM_all (p s : List UInt8) (i : Nat) : fillM p s i (s.length + 1) = rowM p s i := by
  unfold fillM rowM
  refine List.map_congr_left fun j hj => ?_
  rw [if_pos (by simpa using hj)]
theorem fillM_zero (p s : List UInt8) (i : Nat) : List.replicate (s.length + 1) false = fillM p s i 0 := by
  unfold fillM
  refine (List.eq_replicate_iff.2 ⟨by simp, fun b hb => ?_⟩).symm
  obtain ⟨j, _, rfl⟩ := List.mem_map.1 hb
  rw [if_neg (Nat.not_lt_zero _)]
theorem fillM_set (p s : List UInt8) (i k : Nat) : (fillM p s i k).set k (matTo p s i k) = fillM p s i (k + 1) := by
  refine List.ext_getElem (by simp [fillM]) fun j hj hj' => ?_
  simp only [fillM, List.getElem_set, List.getElem_map, List.getElem_range]
  by_cases e : k = j
  · subst e; rw [if_pos rfl, if_pos (by omega)]
  · rw [if_neg e]
    by_cases h2 : j < k
    · rw [if_pos h2, if_pos (by omega)]
    · rw [if_neg h2, if_neg (by omega)]
theorem fillM_skip (p s : List UInt8) (i k : Nat) (h : matTo p s i k = false) : fillM p s i k = fillM p s i (k + 1) := by
  unfold fillM
  refine List.map_congr_left fun j _ => ?_
  by_cases e : j = k
  · subst e; rw [if_neg (Nat.lt_irrefl _), if_pos (by omega), h]
  · by_cases h2 : j < k
    · rw [if_pos h2, if_pos (by omega)]
    · rw [if_neg h2, if_neg (by omega)]
theorem rowM_first (p s : List UInt8) : (List.replicate (s.length + 1) false).set 0 true = rowM p s 0 := by
  rw [fillM_zero p s 0]
  refine List.ext_getElem (by simp [fillM, rowM]) fun j hj hj' => ?_
  simp only [fillM, rowM, List.getElem_set, List.getElem_map, List.getElem_range]
  have hjl : j < s.length + 1 := by simpa [rowM] using hj'
  rw [matTo_first p s j (by omega), if_neg (Nat.not_lt_zero _)]
  by_cases e : j = 0
  · rw [if_pos e.symm, e]; rfl
  · rw [if_neg fun h => e h.symm, decide_eq_false e]

set_option maxRecDepth 20000 in
set_option maxHeartbeats 4000000 in
theorem refMatch8 (P S : List UInt8) (w : World) (hp : P.length ≤ 10000000) (hs : S.length ≤ 10000000) :
    Calls Tryd.prog 19 #[.string (str P), .string (str S)] w fun e w' => e = .returned (.bool (matL P S)) ∧ Below w.heap.size w w' := by
  have HZp : Hid ((str P).size = P.length) := str_size P
  have HSp : Hid ((str P).data.toList = P) := str_list P
  have HZs : Hid ((str S).size = S.length) := str_size S
  have HSs : Hid ((str S).data.toList = S) := str_list S
  generalize str P = p at *
  generalize str S = s at *
  have hp7 : p.size ≤ 10000000 := by rw [HZp.out]; exact hp
  have hs7 : s.size ≤ 10000000 := by rw [HZs.out]; exact hs
  obtain ⟨n, hn⟩ : ∃ n : Nat, n = s.size + 1 := ⟨_, rfl⟩
  have hnZ : (s.size : Int) + 1 = (n : Int) := by omega
  have HN : Hid (n = S.length + 1) := by unfold Hid; rw [hn, HZs.out]
  have hn7 : n ≤ 10000001 := by omega
  have hn1 : (0 : Int) < (n : Int) := by omega
  have HNs : Hid (n = s.size + 1) := hn
  clear hn hp hs
  go_enter Tryd.func19, Tryd.ntmps19
  go_wp2_with (at_make; refine make_fullL _ rfl _ _ rfl w.heap.size .i64 .i64 _ _ n rfl rfl (by omega) (by omega) (by omega) (Nat.le_refl _) ?_; intro w1 hown1 hgrow1; have hc1 := hown1.cellAt (by simp) 0 (by omega); have hf1 := hown1.frozenAt (by simp) 0)
  have T1 : Below w.heap.size w w1 := (Below.refl _ _).grown hgrow1 (Nat.le_refl _) (fun k h => by cases h)
  have o1 := hown1.set (by simp) 0 true
  have e1 : (List.replicate n false).set 0 true = rowM P S 0 := by rw [HN.out]; exact rowM_first P S
  rw [e1] at o1
  have T1' : Below w.heap.size w (w1.setCell ⟨w.heap.size, 0, none⟩ (.bool true)) := T1.setCell (Nat.le_refl _) _
  clear hc1 hf1 hown1 hgrow1 T1 e1
  go_loopw [5, 6, 7] (fun v i u wr => ∃ k g : Nat, k ≤ p.size ∧ i = .int .i64 (k : Int) ∧ v = .slice (some ⟨g, 0, none⟩) n n ∧ OwnL wr w.heap.size (.slice (some ⟨g, 0, none⟩) n n) (rowM P S k) ∧ Below w.heap.size w wr) (fun _ i _ _ => p.size - (intOf i).toNat)
  case atStart => exact ⟨0, w.heap.size, Nat.zero_le _, rfl, rfl, o1, T1'⟩
  case round =>
    clear o1 T1'
    obtain ⟨i, g, hi, rfl, rfl, hown, hbel⟩ := hrel
    by_cases hlt : i < p.size
    · have hlt' : (i : Int) < (p.size : Int) := by omega
      have hix := fun u => ixs p (i : Int) (by omega) hlt' u
      have hc : sb p (i : Int) = nth P i := by unfold sb; rw [Int.toNat_natCast, HSp.out]
      rw [hc] at hix
      clear hc
      obtain ⟨W0, rfl⟩ : ∃ W : World, W = wr := ⟨_, rfl⟩
      go_wp2_with (at_make; refine make_fullL _ rfl _ _ rfl w.heap.size .i64 .i64 _ _ n rfl rfl (by omega) (by omega) (by omega) hbel.size ?_; intro w2 hown2 hgrow2)
      have T2 : Below w.heap.size w w2 := hbel.grown hgrow2 hbel.size (fun k h => by cases h)
      have oA : OwnL w2 w.heap.size (.slice (some ⟨g, 0, none⟩) n n) (rowM P S i) := hown.below (by exact (Below.refl _ _).grown hgrow2 (Nat.le_refl _) (fun k h => by cases h))
      have hg : g < W0.heap.size := (hown.blk g rfl).2
      have e2 : List.replicate n false = fillM P S (i + 1) 0 := by rw [HN.out]; exact fillM_zero P S (i + 1)
      rw [e2] at hown2
      have HiP : Hid (i < P.length) := by unfold Hid; rw [← HZp.out]; exact hlt
      obtain ⟨D, hD⟩ : ∃ D, D = W0.heap.size := ⟨_, rfl⟩
      have hgD : g ≠ D := by omega
      have hwD : w.heap.size ≤ D := by rw [hD]; exact hbel.size
      rw [← hD] at hown2 ⊢
      clear hown hbel hgrow2 e2 hg hD
      go_loopw [8] (fun j wr => ∃ k : Nat, k ≤ n ∧ j = .int .i64 (k : Int) ∧ OwnL wr w.heap.size (.slice (some ⟨D, 0, none⟩) n n) (fillM P S (i + 1) k) ∧ OwnL wr w.heap.size (.slice (some ⟨g, 0, none⟩) n n) (rowM P S i) ∧ Below w.heap.size w wr) (fun j _ => n - (intOf j).toNat)
      case atStart => exact ⟨0, Nat.zero_le _, rfl, hown2, oA, T2⟩
      case round =>
        clear hown2 oA T2
        obtain ⟨k, hk, rfl, oT, oA, hbel⟩ := hrel
        by_cases hkn : k < n
        · have hks : (k : Int) ≤ (s.size : Int) := by have := HNs.out; omega
          have HkS : Hid (k < S.length + 1) := by unfold Hid; rw [← HN.out]; exact hkn
          have hkz : (k : Int) < (n : Int) := by omega
          have cT := oT.cellAt (by rw [fillM_length]; exact HN.out.symm) k hkn
          have fT := oT.frozenAt (by rw [fillM_length]; exact HN.out.symm) k
          have cA := oA.cellAt (by rw [rowM_length]; exact HN.out.symm) k hkn
          rw [rowM_at P S i k HkS.out] at cA
          rw [fillM_at P S (i + 1) k k HkS.out, if_neg (Nat.lt_irrefl _)] at cT
          have HST : Hid (∀ x : Bool, matTo P S (i + 1) k = x → OwnL (wr.setCell ⟨D, k, none⟩ (.bool x)) w.heap.size (.slice (some ⟨D, 0, none⟩) n n) (fillM P S (i + 1) (k + 1)) ∧ OwnL (wr.setCell ⟨D, k, none⟩ (.bool x)) w.heap.size (.slice (some ⟨g, 0, none⟩) n n) (rowM P S i) ∧ Below w.heap.size w (wr.setCell ⟨D, k, none⟩ (.bool x))) := by
            intro x hx
            refine ⟨?_, oA.other _ _ (by simpa using hgD), hbel.setCell hwD _⟩
            have := oT.set (by rw [fillM_length]; exact HN.out.symm) k x
            rw [← hx, fillM_set] at this
            rw [← hx]; exact this
          by_cases h42 : nth P i = 42
          · have hz42 : ((nth P i).toNat : Int) = 42 := by rw [h42]; rfl
            have hstar := matTo_star P S i k HiP.out h42 (by have := HkS.out; omega)
            by_cases hA : matTo P S i k = true
            · rw [hA] at cA hstar
              have HX := HST.out true (by rw [hstar]; rfl)
              clear hstar hA HST oT oA hbel h42
              go_wp2
              go_roundw
              case rel => exact ⟨k + 1, by omega, by go_num, HX.1, HX.2.1, HX.2.2⟩
              case measure => simp [intOf]; omega
            · have hA' : matTo P S i k = false := by simpa using hA
              rw [hA'] at cA hstar
              by_cases hk0 : k = 0
              · have HX := HST.out false (by rw [hstar, hk0]; rfl)
                have hk0' : ¬ (0 : Int) < (k : Int) := by omega
                clear hstar hA hA' HST oT oA hbel h42 hk0
                go_wp2
                go_roundw
                case rel => exact ⟨k + 1, by omega, by go_num, HX.1, HX.2.1, HX.2.2⟩
                case measure => simp [intOf]; omega
              · obtain ⟨q, hq⟩ : ∃ q, k = q + 1 := ⟨k - 1, by omega⟩
                have hq1 : (k : Int) - 1 = (q : Int) := by omega
                have hqn : (q : Int) < (n : Int) := by omega
                have hk0' : (0 : Int) < (k : Int) := by omega
                have cQ := oT.cellAt (by rw [fillM_length]; exact HN.out.symm) q (by omega)
                rw [fillM_at P S (i + 1) k q (by have := HkS.out; omega), if_pos (by omega)] at cQ
                have HX := HST.out (matTo P S (i + 1) q) (by rw [hstar, Bool.false_or, decide_eq_true (by omega : 0 < k), Bool.true_and, show k - 1 = q by omega])
                generalize matTo P S (i + 1) q = b at *
                clear hstar hA hA' HST oT oA hbel h42 hk0 hq
                go_wp2
                go_roundw
                case rel => exact ⟨k + 1, by omega, by go_num, HX.1, HX.2.1, HX.2.2⟩
                case measure => simp [intOf]; omega
          · have hz42 : ((((nth P i).toNat : Int)) == 42) = false := by
              rw [beq_eq_false_iff_ne]; intro h; exact h42 ((toNat8_inj _ 42).1 h)
            have hz42' : ¬ ((nth P i).toNat : Int) = 42 := fun h => h42 ((toNat8_inj _ 42).1 h)
            by_cases hk0 : k = 0
            · have hk0' : ¬ (0 : Int) < (k : Int) := by omega
              have e3 : fillM P S (i + 1) k = fillM P S (i + 1) (k + 1) := fillM_skip _ _ _ _ (by rw [hk0]; exact matTo_zero P S i HiP.out h42)
              rw [e3] at oT
              clear hk0 h42 HST e3
              go_wp2
              go_roundw
              case rel => exact ⟨k + 1, by omega, by go_num, oT, oA, hbel⟩
              case measure => simp [intOf]; omega
            · obtain ⟨q, hq⟩ : ∃ q, k = q + 1 := ⟨k - 1, by omega⟩
              have hq1 : (k : Int) - 1 = (q : Int) := by omega
              have hqn : (q : Int) < (n : Int) := by omega
              have hqs : (q : Int) < (s.size : Int) := by omega
              have hk0' : (0 : Int) < (k : Int) := by omega
              have hixs := fun u => ixs s (q : Int) (by omega) hqs u
              have hcs : sb s (q : Int) = nth S q := by unfold sb; rw [Int.toNat_natCast, HSs.out]
              rw [hcs] at hixs
              have cQ := oA.cellAt (by rw [rowM_length]; exact HN.out.symm) q (by omega)
              rw [rowM_at P S i q (by have := HkS.out; omega)] at cQ
              have hone := matTo_one P S i q HiP.out h42 (by have := HkS.out; omega)
              rw [← hq] at hone
              by_cases hB : matTo P S i q = true
              · rw [hB] at cQ hone
                by_cases h63 : nth P i = 63
                · have hz63 : ((nth P i).toNat : Int) = 63 := by rw [h63]; rfl
                  have HX := HST.out true (by rw [hone, decide_eq_true h63]; rfl)
                  clear hone hB HST oT oA hbel h42 hk0 hq hcs h63 hixs
                  go_wp2
                  go_region
                  all_goals
                    go_wp2
                    exact ⟨⟨k + 1, by omega, by go_num, HX.1, HX.2.1, HX.2.2.drew⟩, by simp [intOf]; omega⟩
                · have hz63 : ((((nth P i).toNat : Int)) == 63) = false := by
                    rw [beq_eq_false_iff_ne]; intro h; exact h63 ((toNat8_inj _ 63).1 h)
                  have hz63' : ¬ ((nth P i).toNat : Int) = 63 := fun h => h63 ((toNat8_inj _ 63).1 h)
                  by_cases hE : nth P i = nth S q
                  · have HX := HST.out true (by rw [hone, decide_eq_true hE]; simp)
                    rw [← hE] at hixs
                    clear hone hB HST oT oA hbel h42 hk0 hq hcs h63 hE
                    generalize (nth P i).toNat = a at *
                    go_wp2
                    go_region
                    all_goals
                      go_wp2
                      exact ⟨⟨k + 1, by omega, by go_num, HX.1, HX.2.1, HX.2.2.drew⟩, by simp [intOf]; omega⟩
                  · have hzE : ((((nth P i).toNat : Int)) == ((nth S q).toNat : Int)) = false := by
                      rw [beq_eq_false_iff_ne]; intro h; exact hE ((toNat8_inj _ _).1 h)
                    have hzE' : ¬ ((nth P i).toNat : Int) = ((nth S q).toNat : Int) := fun h => hE ((toNat8_inj _ _).1 h)
                    have HX := HST.out false (by rw [hone, decide_eq_false hE, decide_eq_false h63]; rfl)
                    clear hone hB HST oT oA hbel h42 hk0 hq hcs h63 hE
                    generalize (nth P i).toNat = a at *
                    generalize (nth S q).toNat = b at *
                    go_wp2
                    go_region
                    all_goals
                      go_wp2
                      exact ⟨⟨k + 1, by omega, by go_num, HX.1, HX.2.1, HX.2.2.drew⟩, by simp [intOf]; omega⟩
              · have hB' : matTo P S i q = false := by simpa using hB
                rw [hB'] at cQ hone
                have HX := HST.out false (by rw [hone]; rfl)
                clear hone hB hB' HST oT oA hbel h42 hk0 hq hcs
                go_wp2
                go_region
                all_goals
                  go_wp2
                  exact ⟨⟨k + 1, by omega, by go_num, HX.1, HX.2.1, HX.2.2.drew⟩, by simp [intOf]; omega⟩
        · have hkn' : k = n := by omega
          have hks : ¬ (k : Int) ≤ (s.size : Int) := by have := HNs.out; omega
          have oR : OwnL wr w.heap.size (.slice (some ⟨D, 0, none⟩) n n) (rowM P S (i + 1)) := by
            have := oT
            rw [hkn', HN.out, fillM_all] at this
            rw [HN.out]; exact this
          clear oT oA hkn'
          go_wp2
          go_roundw
          case rel => exact ⟨i + 1, D, by omega, by go_num, rfl, oR, hbel⟩
          case measure => simp [intOf]; omega
    · have hge : ¬ (i : Int) < (p.size : Int) := by omega
      have hsn : (s.size : Int) < (n : Int) := by omega
      have cE := hown.cellAt (by rw [rowM_length]; exact HN.out.symm) s.size (by have := HNs.out; omega)
      have HE : Hid (nthB (rowM P S i) s.size = matL P S) := by
        unfold Hid
        rw [rowM_at P S i s.size (by rw [HZs.out]; omega), HZs.out, show i = P.length by rw [← HZp.out]; omega]
        exact matTo_all P S
      rw [HE.out] at cE
      clear hown
      go_wp2
      go_ret
      exact ⟨rfl, hbel⟩
end Go.Proofs.YtihfpoclflppnaaDoor
