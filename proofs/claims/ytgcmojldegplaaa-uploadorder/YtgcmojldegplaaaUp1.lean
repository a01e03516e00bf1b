/- What the document's Total and Right of an upload answer. -/
import Derived.Test.YtgcmojldegplaaaUp0
import Derived.Deep.Cut
import Derived.Deep.QuietTactic
import Derived.BigQuiet
namespace Go.Proofs.Ytgcmojldegplaaa
open Go.RowKit

attribute [local go_sem] undef
theorem total_take (l : List Pa) (k : Nat) (hk : k < l.length) : totalPs (l.take (k + 1)) = totalPs (l.take k) + (l[k]).d.length := by
  unfold totalPs
  rw [List.take_add_one, List.getElem?_eq_getElem hk, Option.toList_some, List.map_append, List.sum_append]
  simp
set_option maxRecDepth 20000 in
set_option maxHeartbeats 2000000 in
theorem refTotal16 (u : UpH) (a : Option Addr) (n cap : Nat) (l : List Pq) (w : World) (h : IsPs16 w a n cap l) (hn : n ≤ 1000) (hl : ∀ p ∈ l, p.1.d.length ≤ 140737488351232) :
    Calls Try.prog 17 #[.agg (upc u (.slice a n cap)).toArray] w fun e w' => e = .returned (.int .i64 (totalPs (l.map Prod.fst) : Int)) ∧ Below w.heap.size w w' := by
  have HO := mkHid (OneB.new w 25 (upc u (.slice a n cap)))
  have HX := mkHid h
  have HLn := mkHid h.row.len
  have HLl := mkHid hl
  have HTk : Hid (∀ k, k ≤ n → totalPs ((l.map Prod.fst).take k) ≤ k * 140737488351232) := fun k hk => by
    induction k with
    | zero => simp [totalPs]
    | succ k ih =>
      have hk2 : k < (l.map Prod.fst).length := by rw [List.length_map, HLn.out]; omega
      rw [total_take _ k hk2]
      have h1 := ih (by omega)
      have hk3 : k < l.length := by rw [HLn.out]; omega
      have h2 := hl (l[k]'hk3) (List.getElem_mem _)
      rw [List.getElem_map]
      omega
  clear h hl
  obtain ⟨bkt, key, id, time⟩ := u
  simp only [upc] at *
  go_enter Try.func17, Try.ntmps17
  go_upto_region 1 with fail
  generalize World.alloc _ _ = y at *
  go_wp2_with fail
  go_loopw [3, 4] (fun t i wr => ∃ k : Nat, k ≤ n ∧ i = .int .i64 (k : Int) ∧ t = .int .i64 (totalPs ((l.map Prod.fst).take k) : Int) ∧ wr = y) (fun _ i _ => n - (Go.RowKit.intOf i).toNat)
  case atStart => exact ⟨0, Nat.zero_le _, rfl, by simp [totalPs], rfl⟩
  case round =>
    obtain ⟨k, hk, rfl, rfl, rfl⟩ := hrel
    have c4 := HO.out.k.cell 4
    simp only [List.getElem?_cons_zero, List.getElem?_cons_succ] at c4
    by_cases hlt : k < n
    · have hlt' : (k : Int) < (n : Int) := by omega
      obtain ⟨B, off, p, rfl, _, hp, hc⟩ := (HX.out.row.below HO.out.bel (Nat.le_refl _)).at k hlt
      have e1 := hc 1 _ rfl
      have hk2 : k < (l.map Prod.fst).length := by rw [List.length_map, HLn.out]; exact hlt
      have gs : (totalPs ((l.map Prod.fst).take k) : Int) + (p.1.d.length : Int) = (totalPs ((l.map Prod.fst).take (k + 1)) : Int) := by
        rw [total_take _ k hk2, List.getElem_map]
        have : l[k]'(by rw [HLn.out]; exact hlt) = p := by have := List.getElem?_eq_some_iff.1 hp; exact this.2
        rw [this]; omega
      have hk0 : (0 : Int) ≤ (k : Int) := by omega
      have Hlt := mkHid hlt
      have hTb2 := HTk.out (k + 1) (by omega)
      clear hc hp hk2 hk
      have hTb : totalPs ((l.map Prod.fst).take (k + 1)) ≤ 140737488351232000 := by
        have : (k + 1) * 140737488351232 ≤ 1000 * 140737488351232 := Nat.mul_le_mul_right _ (by omega)
        omega
      clear hTb2 hlt
      obtain ⟨T2, HT2⟩ : ∃ T2, T2 = totalPs ((l.map Prod.fst).take (k + 1)) := ⟨_, rfl⟩
      rw [← HT2] at gs hTb
      have HT2 := mkHid HT2
      go_wp2_with fail
      go_roundw
      case rel => exact ⟨k + 1, Hlt.out, by go_num, by rw [← HT2.out], trivial⟩
      case measure => simp [Go.RowKit.intOf]; have := Hlt.out; omega
    · have hkn : k = n := by omega
      subst hkn
      have HE : Hid ((l.map Prod.fst).take k = l.map Prod.fst) := List.take_of_length_le (by rw [List.length_map, HLn.out]; exact Nat.le_refl _)
      have hge : ¬ (k : Int) < (k : Int) := by omega
      rw [HE.out]
      go_wp2_with fail
      go_ret
      exact ⟨rfl, HO.out.bel⟩
/-- the number ahead of a place (0 ahead of the first) -/
def prevN (l : List Pa) (k : Nat) : Int := match k with | 0 => 0 | k + 1 => (l.getD k ⟨0, []⟩).n
theorem right_at {l : List Pa} {k : Nat} {p : Pa} (h : l[k]? = some p) : rightGo (prevN l k) (l.drop k) = ((decide (1 ≤ p.n) && decide (p.n ≤ 4) && decide (p.d.length ≤ 1536) && decide (prevN l k < p.n)) && rightGo (prevN l (k + 1)) (l.drop (k + 1))) := by
  obtain ⟨hk, e⟩ := List.getElem?_eq_some_iff.1 h
  rw [List.drop_eq_getElem_cons hk, e, rightGo]
  have : prevN l (k + 1) = p.n := by unfold prevN; simp [h]
  rw [this]
set_option maxRecDepth 20000 in
set_option maxHeartbeats 8000000 in
theorem refRight16 (u : UpH) (a : Option Addr) (n cap : Nat) (l : List Pq) (w : World) (h : IsPs16 w a n cap l) (hn : n ≤ 100000) :
    Calls Try.prog 9 #[.agg (upc u (.slice a n cap)).toArray] w fun e w' => e = .returned (.bool (rightPs (l.map Prod.fst))) ∧ Below w.heap.size w w' := by
  have HO := mkHid (OneB.new w 25 (upc u (.slice a n cap)))
  have HX := mkHid h
  have HLn := mkHid h.row.len
  have HR0 : Hid (rightPs (l.map Prod.fst) = rightGo (prevN (l.map Prod.fst) 0) ((l.map Prod.fst).drop 0)) := rfl
  clear h
  obtain ⟨bkt, key, id, time⟩ := u
  simp only [upc] at *
  generalize rightPs (l.map Prod.fst) = RR at *
  go_enter Try.func9, Try.ntmps9
  go_upto_region 1 with fail
  generalize World.alloc _ _ = y at *
  go_wp2_with fail
  go_loopw [3, 4] (fun i _ wr => ∃ k : Nat, k ≤ n ∧ i = .int .i64 (k : Int) ∧ Hid (RR = rightGo (prevN (l.map Prod.fst) k) ((l.map Prod.fst).drop k)) ∧ Hid (OneB w wr 25 [.string bkt, .string key, .int .u64 (id : Int), .int .u64 (time : Int), .slice a n cap])) (fun i _ _ => n - (Go.RowKit.intOf i).toNat)
  case atStart => exact ⟨0, Nat.zero_le _, rfl, HR0, HO⟩
  case round =>
    clear HO HR0
    obtain ⟨k, hk, rfl, HR, HO⟩ := hrel
    have c4 := HO.out.k.cell 4
    simp only [List.getElem?_cons_zero, List.getElem?_cons_succ] at c4
    by_cases hlt : k < n
    rotate_left
    · have hkn : k = n := by omega
      subst hkn
      have hge : ¬ (k : Int) < (k : Int) := by omega
      have HT : Hid (RR = true) := by
        unfold Hid; rw [HR.out, List.drop_of_length_le (by rw [List.length_map, HLn.out]; exact Nat.le_refl _), rightGo]
      clear hlt HR
      go_wp2_with fail
      go_ret
      exact ⟨ret_b HT.out.symm, HO.out.bel⟩
    have hlt' : (k : Int) < (n : Int) := by omega
    have HXr := mkHid (HX.out.below HO.out.bel)
    obtain ⟨B, off, p, rfl, hBl, hp, hc⟩ := HXr.out.row.at k hlt
    have e0 : wr.cell? ⟨B, off + k * 2, none⟩ = some (.int .i64 p.1.n) := hc 0 _ rfl
    have e1 := hc 1 _ rfl
    have HA := mkHid (right_at (l := l.map Prod.fst) (k := k) (p := p.1) (by rw [List.getElem?_map, hp]; rfl))
    have hpk : ∀ j, k = j + 1 → ∃ q : Pq, l[j]? = some q ∧ prevN (l.map Prod.fst) k = q.1.n := fun j hj => by
      subst hj
      have hj2 : j < l.length := by rw [HLn.out]; omega
      exact ⟨l[j], List.getElem?_eq_getElem hj2, by unfold prevN; simp [hj2]⟩
    have hk0 : (0 : Int) ≤ (k : Int) := by omega
    have Hlt := mkHid hlt
    have hn2 : k ≤ 100000 := by omega
    obtain ⟨⟨pn, pd⟩, ⟨pa, pc⟩⟩ := p
    simp only [] at e0 e1 HA hc
    generalize pd.length = dl at *
    go_upto_region 5 with fail
    have hbY : Below wr.heap.size wr (wr.alloc (.cells #[.int .i64 pn, .slice pa dl pc] 43)) := (Below.refl _ wr).alloc (Nat.le_refl _) _
    have HOy := mkHid (HO.out.on hbY)
    have kp := Blk.new wr 43 [.int .i64 pn, .slice pa dl pc]
    have p0 := kp.cell 0
    have p1 := kp.cell 1
    have d4 := HOy.out.k.cell 4
    simp only [List.getElem?_cons_zero, List.getElem?_cons_succ] at p0 p1 d4
    have HPr : Hid (∀ j, k = j + 1 → ∃ q : Pq, prevN (l.map Prod.fst) k = q.1.n ∧ (wr.alloc (.cells #[.int .i64 pn, .slice pa dl pc] 43)).cell? ⟨B, off + j * 2, none⟩ = some (.int .i64 q.1.n)) := fun j hj => by
      obtain ⟨q, h1, h2⟩ := hpk j hj
      obtain ⟨B', off', hB', _, hc'⟩ := HXr.out.row.cells (by omega)
      obtain ⟨rfl, rfl⟩ : B = B' ∧ off = off' := by cases hB'; exact ⟨rfl, rfl⟩
      have := hc' j q h1 0 _ rfl
      exact ⟨q, h2, (hbY.cell (p := ⟨B, off + j * 2, none⟩) (cell_lt (a := ⟨B, off + j * 2 + 0, none⟩) this)).trans this⟩
    clear hc hpk kp hbY c4 e0 e1 hp HXr HO hlt hBl
    generalize wr.alloc (.cells #[.int .i64 pn, .slice pa dl pc] 43) = Y at *
    by_cases h1 : pn < 1
    · have HT : Hid (RR = false) := by unfold Hid; rw [HR.out, HA.out]; simp; omega
      clear HR HA HPr
      go_wp2_with fail
      go_quiet (fail)
      go_wp2_with fail
      go_ret
      exact ⟨ret_b HT.out.symm, bel_drewN HOy.out.bel _⟩
    have h1d : decide (pn < 1) = false := decide_eq_false h1
    by_cases h2 : 4 < pn
    · have HT : Hid (RR = false) := by unfold Hid; rw [HR.out, HA.out]; simp; omega
      clear HR HA HPr
      go_wp2_with fail
      go_quiet (fail)
      go_wp2_with fail
      go_ret
      exact ⟨ret_b HT.out.symm, bel_drewN HOy.out.bel _⟩
    have h2d : decide (4 < pn) = false := decide_eq_false h2
    by_cases h3 : 1536 < dl
    · have HT : Hid (RR = false) := by unfold Hid; rw [HR.out, HA.out]; simp; omega
      have h3' : (1536 : Int) < (dl : Int) := by omega
      clear HR HA HPr
      go_wp2_with fail
      go_quiet (fail)
      go_wp2_with fail
      go_ret
      exact ⟨ret_b HT.out.symm, bel_drewN HOy.out.bel _⟩
    have h3' : ¬ (1536 : Int) < (dl : Int) := by omega
    have h3d : decide ((1536 : Int) < (dl : Int)) = false := decide_eq_false h3'
    cases k with
    | zero =>
      have HR2 : Hid (RR = rightGo (prevN (l.map Prod.fst) (0 + 1)) ((l.map Prod.fst).drop (0 + 1))) := by
        unfold Hid; rw [HR.out, HA.out, show prevN (l.map Prod.fst) 0 = 0 from rfl]
        rw [decide_eq_true (by omega : 1 ≤ pn), decide_eq_true (by omega : pn ≤ 4), decide_eq_true (by omega : dl ≤ 1536), decide_eq_true (by omega : (0 : Int) < pn)]
        rfl
      clear HR HA HPr h1 h2 h3
      go_wp2_with fail
      go_quiet (fail)
      go_wp2_with fail
      go_roundw
      case rel => exact ⟨0 + 1, Hlt.out, by go_num, HR2, HOy.out.on (bel_drewN (Below.refl _ _) _)⟩
      case measure => simp [Go.RowKit.intOf]; have := Hlt.out; omega
    | succ j =>
      obtain ⟨q, hq1, hq2⟩ := HPr.out j rfl
      have hj1 : ((j + 1 : Nat) : Int) - 1 = (j : Int) := by omega
      have hjp : (0 : Int) < ((j + 1 : Nat) : Int) := by omega
      have hjd : decide ((0 : Int) < ((j + 1 : Nat) : Int)) = true := decide_eq_true hjp
      have hj2 : (0 : Int) ≤ (j : Int) := by omega
      have hj3 : (j : Int) < (n : Int) := by have := Hlt.out; omega
      have hjw : IntKind.i64.wrap (j : Int) = (j : Int) := by rw [IntKind.wrap_i64]; omega
      rw [hq1] at HA HR
      by_cases h4 : pn ≤ q.1.n
      · have HT : Hid (RR = false) := by unfold Hid; rw [HR.out, HA.out]; simp; omega
        have h4d : decide (pn ≤ q.1.n) = true := decide_eq_true h4
        clear HR HA HPr
        go_wp2_with fail
        go_quiet (fail)
        go_wp2_with fail
        go_ret
        exact ⟨ret_b HT.out.symm, bel_drewN HOy.out.bel _⟩
      · have HR2 : Hid (RR = rightGo (prevN (l.map Prod.fst) (j + 1 + 1)) ((l.map Prod.fst).drop (j + 1 + 1))) := by
          unfold Hid; rw [HR.out, HA.out]
          rw [decide_eq_true (by omega : 1 ≤ pn), decide_eq_true (by omega : pn ≤ 4), decide_eq_true (by omega : dl ≤ 1536), decide_eq_true (by omega : q.1.n < pn)]
          rfl
        have h4d : decide (pn ≤ q.1.n) = false := decide_eq_false h4
        clear HR HA HPr
        go_wp2_with fail
        go_quiet (fail)
        go_wp2_with fail
        go_roundw
        case rel => exact ⟨j + 1 + 1, Hlt.out, by go_num, HR2, HOy.out.on (bel_drewN (Below.refl _ _) _)⟩
        case measure => simp [Go.RowKit.intOf]; have := Hlt.out; omega
end Go.Proofs.Ytgcmojldegplaaa
