/- The program's upload: Total, Right. -/
import Derived.Test.YtgcmojldegplaaaUp5
namespace Go.Proofs.Ytgcmojldegplaaa
open Go.RowKit

attribute [local go_sem] undef
set_option maxRecDepth 20000 in
set_option maxHeartbeats 2000000 in
theorem codTotal16 (u : UpH) (a : Option Addr) (n cap : Nat) (l : List Pq) (w : World) (h : IsPs16 w a n cap l) (hn : n ≤ 1000) (hl : ∀ p ∈ l, p.1.d.length ≤ 140737488351232) :
    Calls Try.prog 16 #[.agg (upc u (.slice a n cap)).toArray] w fun e w' => e = .returned (.int .i64 (totalPs (l.map Prod.fst) : Int)) ∧ Below w.heap.size w w' := by
  have HO := mkHid (OneB.new w 25 (upc u (.slice a n cap)))
  have HX := mkHid h
  have HLn := mkHid h.row.len
  have HLl := mkHid hl
  have HTk : Hid (∀ k, k ≤ n → totalPs ((l.map Prod.fst).take k) ≤ k * 140737488351232) := fun k hk => by
    induction k with
    | zero => simp [totalPs]
    | succ k ih =>
      have hk2 : k < (l.map Prod.fst).length := by rw [List.length_map, HLn.out]; omega
      rw [total_take _ k hk2]
      have h1 := ih (by omega)
      have hk3 : k < l.length := by rw [HLn.out]; omega
      have h2 := hl (l[k]'hk3) (List.getElem_mem _)
      rw [List.getElem_map]
      omega
  clear h hl
  obtain ⟨bkt, key, id, time⟩ := u
  simp only [upc] at *
  go_enter Try.func16, Try.ntmps16
  go_upto_region 1 with fail
  generalize World.alloc _ _ = y at *
  have c4 := HO.out.k.cell 4
  simp only [List.getElem?_cons_zero, List.getElem?_cons_succ] at c4
  go_wp2_with fail
  clear c4
  go_loopw [3, 9] (fun t i wr => ∃ k : Nat, k ≤ n ∧ i = .int .i64 (k : Int) ∧ t = .int .i64 (totalPs ((l.map Prod.fst).take k) : Int) ∧ Hid (Below w.heap.size w wr)) (fun _ i _ => n - (Go.RowKit.intOf i).toNat)
  case atStart => exact ⟨0, Nat.zero_le _, rfl, by simp [totalPs], HO.out.bel⟩
  case round =>
    clear HO
    obtain ⟨k, hk, rfl, rfl, HB⟩ := hrel
    by_cases hlt : k < n
    · have hlt' : (k : Int) < (n : Int) := by omega
      obtain ⟨B, off, p, rfl, _, hp, hc⟩ := (HX.out.row.below HB.out (Nat.le_refl _)).at k hlt
      have e0 : wr.cell? ⟨B, off + k * 2, none⟩ = some (.int .i64 p.1.n) := hc 0 _ rfl
      have e1 := hc 1 _ rfl
      have hk2 : k < (l.map Prod.fst).length := by rw [List.length_map, HLn.out]; exact hlt
      have gs : (totalPs ((l.map Prod.fst).take k) : Int) + (p.1.d.length : Int) = (totalPs ((l.map Prod.fst).take (k + 1)) : Int) := by
        rw [total_take _ k hk2, List.getElem_map]
        have : l[k]'(by rw [HLn.out]; exact hlt) = p := by have := List.getElem?_eq_some_iff.1 hp; exact this.2
        rw [this]; omega
      have hk0 : (0 : Int) ≤ (k : Int) := by omega
      have Hlt := mkHid hlt
      have hTb2 := HTk.out (k + 1) (by omega)
      clear hc hp hk2 hk
      have hTb : totalPs ((l.map Prod.fst).take (k + 1)) ≤ 140737488351232000 := by
        have : (k + 1) * 140737488351232 ≤ 1000 * 140737488351232 := Nat.mul_le_mul_right _ (by omega)
        omega
      clear hTb2 hlt
      obtain ⟨T2, HT2⟩ : ∃ T2, T2 = totalPs ((l.map Prod.fst).take (k + 1)) := ⟨_, rfl⟩
      rw [← HT2] at gs hTb
      have HT2 := mkHid HT2
      obtain ⟨⟨pn, pd⟩, ⟨pa, pc⟩⟩ := p
      simp only at e0 e1 gs
      generalize pd.length = dl at *
      have HBa := mkHid (HB.out.alloc HB.out.size (.cells #[.int .i64 pn, .slice pa dl pc] 43))
      go_wp2_with fail
      go_roundw
      case rel => exact ⟨k + 1, Hlt.out, by go_num, by rw [← HT2.out], HBa⟩
      case measure => simp [Go.RowKit.intOf]; have := Hlt.out; omega
    · have hkn : k = n := by omega
      subst hkn
      have HE : Hid ((l.map Prod.fst).take k = l.map Prod.fst) := List.take_of_length_le (by rw [List.length_map, HLn.out]; exact Nat.le_refl _)
      have hge : ¬ (k : Int) < (k : Int) := by omega
      rw [HE.out]
      go_wp2_with fail
      go_ret
      exact ⟨rfl, HB.out⟩
set_option maxRecDepth 20000 in
set_option maxHeartbeats 8000000 in
theorem codRight16 (u : UpH) (a : Option Addr) (n cap : Nat) (l : List Pq) (w : World) (h : IsPs16 w a n cap l) (hn : n ≤ 100000) :
    Calls Try.prog 8 #[.agg (upc u (.slice a n cap)).toArray] w fun e w' => e = .returned (.bool (rightPs (l.map Prod.fst))) ∧ Below w.heap.size w w' := by
  have HO := mkHid (OneB.new w 25 (upc u (.slice a n cap)))
  have HX := mkHid h
  have HLn := mkHid h.row.len
  have HR0 : Hid (rightPs (l.map Prod.fst) = rightGo (prevN (l.map Prod.fst) 0) ((l.map Prod.fst).drop 0)) := rfl
  clear h
  obtain ⟨bkt, key, id, time⟩ := u
  simp only [upc] at *
  generalize rightPs (l.map Prod.fst) = RR at *
  go_enter Try.func8, Try.ntmps8
  go_upto_region 1 with fail
  generalize World.alloc _ _ = y at *
  have c4 := HO.out.k.cell 4
  simp only [List.getElem?_cons_zero, List.getElem?_cons_succ] at c4
  go_wp2_with fail
  clear c4
  go_loopw [3, 9] (fun q i wr => ∃ k : Nat, k ≤ n ∧ i = .int .i64 (k : Int) ∧ q = .int .i64 (prevN (l.map Prod.fst) k) ∧ Hid (0 ≤ prevN (l.map Prod.fst) k) ∧ Hid (RR = rightGo (prevN (l.map Prod.fst) k) ((l.map Prod.fst).drop k)) ∧ Hid (Below w.heap.size w wr)) (fun _ i _ => n - (Go.RowKit.intOf i).toNat)
  case atStart => exact ⟨0, Nat.zero_le _, rfl, rfl, Int.le_refl _, HR0, HO.out.bel⟩
  case round =>
    clear HO HR0
    obtain ⟨k, hk, rfl, rfl, HQ, HR, HB⟩ := hrel
    by_cases hlt : k < n
    rotate_left
    · have hkn : k = n := by omega
      subst hkn
      have hge : ¬ (k : Int) < (k : Int) := by omega
      have HT : Hid (RR = true) := by
        unfold Hid; rw [HR.out, List.drop_of_length_le (by rw [List.length_map, HLn.out]; exact Nat.le_refl _), rightGo]
      clear hlt HR HQ
      go_wp2_with fail
      go_ret
      exact ⟨ret_b HT.out.symm, HB.out⟩
    have hlt' : (k : Int) < (n : Int) := by omega
    obtain ⟨B, off, p, rfl, hBl, hp, hc⟩ := (HX.out.row.below HB.out (Nat.le_refl _)).at k hlt
    have e0 : wr.cell? ⟨B, off + k * 2, none⟩ = some (.int .i64 p.1.n) := hc 0 _ rfl
    have e1 := hc 1 _ rfl
    have HA := mkHid (right_at (l := l.map Prod.fst) (k := k) (p := p.1) (by rw [List.getElem?_map, hp]; rfl))
    have HN : Hid (prevN (l.map Prod.fst) (k + 1) = p.1.n) := by unfold Hid prevN; simp [hp]
    have hk0 : (0 : Int) ≤ (k : Int) := by omega
    have Hlt := mkHid hlt
    obtain ⟨⟨pn, pd⟩, ⟨pa, pc⟩⟩ := p
    simp only [] at e0 e1 HA HN hc
    generalize pd.length = dl at *
    clear hc hp hBl hlt
    generalize prevN (l.map Prod.fst) k = q at *
    have HBa := mkHid (HB.out.alloc HB.out.size (.cells #[.int .i64 pn, .slice pa dl pc] 43))
    have Hq := HQ.out
    by_cases h1 : pn ≤ q
    · have HT : Hid (RR = false) := by unfold Hid; rw [HR.out, HA.out]; simp; omega
      have h1d : decide (pn ≤ q) = true := decide_eq_true h1
      clear HR HA
      go_wp2_with fail
      go_ret
      exact ⟨ret_b HT.out.symm, HBa.out⟩
    have h1d : decide (pn ≤ q) = false := decide_eq_false h1
    by_cases h2 : 4 < pn
    · have HT : Hid (RR = false) := by unfold Hid; rw [HR.out, HA.out]; simp; omega
      have h2d : decide (4 < pn) = true := decide_eq_true h2
      clear HR HA
      go_wp2_with fail
      go_ret
      exact ⟨ret_b HT.out.symm, HBa.out⟩
    have h2d : decide (4 < pn) = false := decide_eq_false h2
    by_cases h3 : 1536 < dl
    · have HT : Hid (RR = false) := by unfold Hid; rw [HR.out, HA.out]; simp; omega
      have h3' : (1536 : Int) < (dl : Int) := by omega
      clear HR HA
      go_wp2_with fail
      go_ret
      exact ⟨ret_b HT.out.symm, HBa.out⟩
    have h3' : ¬ (1536 : Int) < (dl : Int) := by omega
    have HR2 : Hid (RR = rightGo (prevN (l.map Prod.fst) (k + 1)) ((l.map Prod.fst).drop (k + 1))) := by
      unfold Hid; rw [HR.out, HA.out]
      rw [decide_eq_true (by omega : 1 ≤ pn), decide_eq_true (by omega : pn ≤ 4), decide_eq_true (by omega : dl ≤ 1536), decide_eq_true (by omega : q < pn)]
      rfl
    have HQ2 : Hid (0 ≤ prevN (l.map Prod.fst) (k + 1)) := by unfold Hid; rw [HN.out]; omega
    clear HR HA h1 h2 h3
    go_wp2_with fail
    go_roundw
    case rel => exact ⟨k + 1, Hlt.out, by go_num, by rw [HN.out], HQ2, HR2, HBa⟩
    case measure => simp [Go.RowKit.intOf]; have := Hlt.out; omega
end Go.Proofs.Ytgcmojldegplaaa
