/- The program's blob: Need, slices.Contains over numbers, right, shown, told. · Results that lie in a variable. · What the document's Drop answers. · Put, plain; what it needs of a world. -/
import Derived.Test.YthjdmfbengpepaaGreatB29
import Derived.Lib.MinMax
import Derived.Test.YthjdmfbengpepaaGreatB0
import Derived.Laws.ResultCell
import Derived.Laws.Rows
import Derived.Test.YthjdmfbengpepaaGreatB27
import Derived.Test.YthjdmfbengpepaaGreatB18
namespace Go.Proofs.YthjdmfbengpepaaGreat
open Go.RowKit

set_option maxHeartbeats 1000000 in
theorem codNeed12 (n : Int) (w : World) (h1 : n ≤ 9223372036854775807) :
    Calls Tryz.prog 29 #[.int .i64 n] w fun e w' => e = .returned (.int .i64 (needL n)) ∧ w' = w := by
  by_cases hn : n < 1
  · have HV : Hid ((0 : Int) = needL n) := by unfold Hid needL; rw [if_pos hn]
    go_enter Tryz.func29, Tryz.ntmps29
    go_wp2_with fail
    go_ret
    exact ⟨ret_i HV.out, rfl⟩
  · obtain ⟨k, hk⟩ : ∃ k : Nat, n = (k : Int) + 1 := ⟨(n - 1).toNat, by omega⟩
    subst hk
    obtain ⟨q, hq⟩ : ∃ q, q = k / 512 := ⟨_, rfl⟩
    have hq1 : (k : Int).tdiv 512 = (q : Int) := by rw [Int.tdiv_eq_ediv_of_nonneg (by omega)]; omega
    have HV : Hid ((q : Int) + 1 = needL ((k : Int) + 1)) := by unfold Hid needL; rw [if_neg hn]; omega
    have e1 : (k : Int) + 1 - 1 = (k : Int) := by omega
    have hqk : q ≤ k := by rw [hq]; exact Nat.div_le_self _ _
    have hkm : (k : Int) + 1 ≤ 9223372036854775807 := h1
    clear hq h1
    go_enter Tryz.func29, Tryz.ntmps29
    go_wp2_with fail
    go_ret
    exact ⟨ret_i HV.out, rfl⟩
theorem getD_mem' {l : List Int} {k : Nat} (h : k < l.length) : l.getD k 0 ∈ l := by
  have : l.getD k 0 = l[k] := by simp [h]
  rw [this]; exact List.getElem_mem _
theorem mem_getD' {l : List Int} {n : Int} (h : n ∈ l) : ∃ i, i < l.length ∧ l.getD i 0 = n := by
  obtain ⟨i, hi, e⟩ := List.getElem_of_mem h
  exact ⟨i, hi, by simp [hi, e]⟩
set_option maxHeartbeats 1000000 in
theorem codIndexZ (a : Option Addr) (len cap : Nat) (l : List Int) (n : Int) (w : World) (h : IsZ w a len l) (hl : len ≤ 100000) :
    Calls Tryz.prog 132 #[.slice a len cap, .int .i64 n] w fun e w' => (∃ z : Int, e = .returned (.int .i64 z) ∧ decide (0 ≤ z) = decide (n ∈ l)) ∧ w' = w := by
  have H := mkHid h
  clear h
  go_enter Tryz.func132, Tryz.ntmps132
  go_wp2_with fail
  go_loopw [8] (fun i wr => wr = w ∧ ∃ k : Nat, k ≤ len ∧ i = .int .i64 (k : Int) ∧ Hid (∀ x, x < k → l.getD x 0 ≠ n)) (fun i _ => len - (Go.RowKit.intOf i).toNat)
  case atStart => exact ⟨rfl, 0, Nat.zero_le _, rfl, fun x h => absurd h (Nat.not_lt_zero _)⟩
  case round =>
    obtain ⟨rfl, k, hk, rfl, HA⟩ := hrel
    by_cases hlt : k < len
    · have hlt' : (k : Int) < (len : Int) := by omega
      obtain ⟨g, off, rfl, _, hc⟩ := H.out.cells (by omega)
      have c0 := hc k hlt
      clear hc
      by_cases he : l.getD k 0 = n
      · have HV : Hid (decide ((0 : Int) ≤ (k : Int)) = decide (n ∈ l)) := by
          have h1 : n ∈ l := by rw [← he]; exact getD_mem' (by rw [H.out.len_eq]; exact hlt)
          unfold Hid; rw [decide_eq_true h1, decide_eq_true (by omega)]
        rw [he] at c0
        clear he
        go_wp2_with fail
        go_ret
        exact ⟨⟨_, rfl, HV.out⟩, rfl⟩
      · have HA1 : Hid (∀ x, x < k + 1 → l.getD x 0 ≠ n) := fun x hx => by
          rcases Nat.lt_succ_iff_lt_or_eq.1 hx with h | h
          · exact HA.out x h
          · rw [h]; exact he
        have he2 : ¬ n = l.getD k 0 := fun e => he e.symm
        generalize l.getD k 0 = z at *
        go_wp2_with fail
        go_roundw
        case rel => exact ⟨by first | rfl | trivial, k + 1, by omega, by go_num, HA1⟩
        case measure => simp [Go.RowKit.intOf]; omega
    · have hlt' : ¬ (k : Int) < (len : Int) := by omega
      have HV : Hid (decide ((0 : Int) ≤ -1) = decide (n ∈ l)) := by
        unfold Hid
        rw [decide_eq_false (by omega), decide_eq_false (fun hm => by
          obtain ⟨i, hi, e⟩ := mem_getD' hm
          exact HA.out i (by have := H.out.len_eq; omega) e)]
      go_wp2_with fail
      go_ret
      exact ⟨⟨_, rfl, by first | exact HV.out | exact decide_eq_decide.1 HV.out⟩, rfl⟩
theorem codContainsZ (a : Option Addr) (len cap : Nat) (l : List Int) (n : Int) (w : World) (h : IsZ w a len l) (hl : len ≤ 100000) :
    Calls Tryz.prog 91 #[.slice a len cap, .int .i64 n] w fun e w' => e = .returned (.bool (decide (n ∈ l))) ∧ w' = w := by
  have HI := codIndexZ a len cap l n w h hl
  generalize decide (n ∈ l) = d at *
  clear h
  go_enter Tryz.func91, Tryz.ntmps91
  go_wp2_with fail
  refine HI.mono ?_
  rintro e w' ⟨⟨z, rfl, hz⟩, rfl⟩
  subst hz
  clear HI
  go_wp2_with fail
  go_ret
  exact ⟨rfl, rfl⟩
theorem codShown (n : Int) (w : World) (h0 : -9223372036854775808 ≤ n) (h1 : n ≤ 9223372036854775807) :
    Calls Tryz.prog 68 #[.int .i64 n] w fun e w' => e = .returned (.int .u64 (((max n 0).toNat : Nat) : Int)) ∧ w' = w := by
  obtain ⟨m, hm⟩ : ∃ m : Nat, m = (max n 0).toNat := ⟨_, rfl⟩
  have hm1 : max n 0 = (m : Int) := by omega
  have hw : IntKind.u64.wrap (m : Int) = (m : Int) := wrap64_nat m (by omega)
  rw [← hm]
  clear hm
  go_enter Tryz.func68, Tryz.ntmps68
  go_wp2_with fail
  go_ret
  exact ⟨rfl, rfl⟩
theorem codTold (n : Nat) (w : World) :
    Calls Tryz.prog 59 #[.int .u64 (n : Int)] w fun e w' => e = .returned (.int .i64 ((min n 2147483647 : Nat) : Int)) ∧ w' = w := by
  obtain ⟨m, hm⟩ : ∃ m : Nat, m = min n 2147483647 := ⟨_, rfl⟩
  have hm1 : min (n : Int) 2147483647 = (m : Int) := by omega
  have hw : IntKind.i64.wrap (m : Int) = (m : Int) := by rw [IntKind.wrap_i64]; omega
  rw [← hm]
  clear hm
  go_enter Tryz.func59, Tryz.ntmps59
  go_wp2_with fail
  go_ret
  exact ⟨rfl, rfl⟩
set_option maxRecDepth 20000 in
set_option maxHeartbeats 2000000 in
theorem codRight12 (r : Rf) (q : RfA) (w : World) (h : IsRf w r q) :
    Calls Tryz.prog 41 #[.agg (rfc r q).toArray] w fun e w' => e = .returned (.bool (rightL r)) ∧ Below w.heap.size w w' := by
  have hY : Below w.heap.size w (w.alloc (.cells (rfc r q).toArray 44)) := (Below.refl _ w).alloc (Nat.le_refl _) _
  have kb := Blk.new w 44 (rfc r q)
  obtain ⟨rl, rs, rz⟩ := r
  obtain ⟨qa, qc, qb, qd⟩ := q
  have c0 : (w.alloc (.cells (rfc ⟨rl, rs, rz⟩ ⟨qa, qc, qb, qd⟩).toArray 44)).cell? ⟨w.heap.size, 0, none⟩ = some (.int .i64 rl) := kb.cell 0
  have c1 : (w.alloc (.cells (rfc ⟨rl, rs, rz⟩ ⟨qa, qc, qb, qd⟩).toArray 44)).cell? ⟨w.heap.size, 1, none⟩ = some (.slice qa rs.length qc) := kb.cell 1
  have c2 : (w.alloc (.cells (rfc ⟨rl, rs, rz⟩ ⟨qa, qc, qb, qd⟩).toArray 44)).cell? ⟨w.heap.size, 2, none⟩ = some (.slice qb rz.length qd) := kb.cell 2
  have HZ := mkHid (h.secs.below hY)
  have h0 : -9223372036854775808 ≤ rl := h.len0
  have h1 : rl ≤ 9223372036854775807 := h.len1
  have hcp : rz.length ≤ qd := h.cap
  have HY := mkHid hY
  have HNd := fun W => codNeed12 rl W h1
  have HHd : Hid (headOk ⟨rl, rs, rz⟩ ↔ (0 ≤ rl ∧ rl ≤ 6144 ∧ rs.length = 32 ∧ (rz.length : Int) = needL rl)) := Iff.rfl
  have hnn := needL_nn rl
  clear h kb hY
  simp only [rfc] at *
  generalize rs.length = n at *
  generalize hzl : rz.length = zl at *
  have HZl := mkHid hzl
  clear hzl
  by_cases hA : rl < 0
  · have HV := mkHid (right_no1 (r := ⟨rl, rs, rz⟩) (fun h => by have := HHd.out.1 h; omega))
    go_enter Tryz.func41, Tryz.ntmps41
    go_wp2_with fail
    go_quiet (fail)
    go_wp2
    go_ret
    exact ⟨ret_b HV.out, bel_drewN HY.out _⟩
  have dA : decide (rl < 0) = false := decide_eq_false hA
  by_cases hB : 6144 < rl
  · have HV := mkHid (right_no1 (r := ⟨rl, rs, rz⟩) (fun h => by have := HHd.out.1 h; omega))
    go_enter Tryz.func41, Tryz.ntmps41
    go_wp2_with fail
    go_quiet (fail)
    go_wp2
    go_ret
    exact ⟨ret_b HV.out, bel_drewN HY.out _⟩
  have dB : decide (6144 < rl) = false := decide_eq_false hB
  by_cases hC : ¬ n = 32
  · have hC' : ¬ (n : Int) = 32 := by omega
    have bC : ((n : Int) != 32) = true := by simp [hC']
    have HV := mkHid (right_no1 (r := ⟨rl, rs, rz⟩) (fun h => by have := HHd.out.1 h; omega))
    go_enter Tryz.func41, Tryz.ntmps41
    go_wp2_with fail
    go_quiet (fail)
    go_wp2
    go_ret
    exact ⟨ret_b HV.out, bel_drewN HY.out _⟩
  obtain rfl := Classical.not_not.1 hC
  by_cases hD : ¬ (zl : Int) = needL rl
  · have bD : ((zl : Int) != needL rl) = true := by simp [hD]
    have HV := mkHid (right_no1 (r := ⟨rl, rs, rz⟩) (fun h => by have := HHd.out.1 h; omega))
    go_enter Tryz.func41, Tryz.ntmps41
    go_wp2_with fail
    go_quiet (first | (go_at_call 29; exact Calls.quiet_of_same (HNd _)))
    go_wp2
    go_ret
    exact ⟨ret_b HV.out, bel_drewN HY.out _⟩
  have hD := Classical.not_not.1 hD
  have HHo : Hid (headOk ⟨rl, rs, rz⟩) := HHd.out.2 ⟨by omega, by omega, rfl, hD⟩
  have hz13 : zl ≤ 13 := by
    have : needL rl ≤ 12 := by unfold needL; split <;> omega
    omega
  rw [← hD] at HNd
  have HC : ∀ x, ((w.alloc (.cells #[.int .i64 rl, .slice qa 32 qc, .slice qb zl qd] 44)).drewN x).cell? ⟨w.heap.size, 2, none⟩ = some (.slice qb zl qd) := fun x => c2
  have HB : Hid (∀ x, Below w.heap.size w ((w.alloc (.cells #[.int .i64 rl, .slice qa 32 qc, .slice qb zl qd] 44)).drewN x)) := fun x => bel_drewN HY.out x
  have HZs : Hid (∀ x, IsZ ((w.alloc (.cells #[.int .i64 rl, .slice qa 32 qc, .slice qb zl qd] 44)).drewN x) qb zl rz) := fun x => HZ.out.below (bel_drewN (Below.refl _ _) x)
  clear hD hnn HHd HZ HY
  go_enter Tryz.func41, Tryz.ntmps41
  go_wp2_with fail
  go_quiet (first | (go_at_call 29; exact Calls.quiet_of_same (HNd _)))
  have e2 := HC nq
  go_wp2_with fail
  clear e2
  generalize w.alloc (.cells #[.int .i64 rl, .slice qa 32 qc, .slice qb zl qd] 44) = Y at *
  go_loopw [31] (fun i wr => ∃ k x : Nat, wr = Y.drewN x ∧ k ≤ zl ∧ i = .int .i64 (k : Int) ∧ Hid (secOk rz k)) (fun i _ => zl - (Go.RowKit.intOf i).toNat)
  case atStart => exact ⟨0, nq, rfl, Nat.zero_le _, rfl, secOk_zero _⟩
  case round =>
    obtain ⟨k, x, rfl, hk, rfl, HA⟩ := hrel
    have d2 := HC x
    by_cases hlt : k < zl
    · have hlt' : (k : Int) < (zl : Int) := by omega
      have HZx := mkHid ((HZs.out x).take (Nat.le_of_lt hlt))
      obtain ⟨g, off, rfl, _, hcs⟩ := (HZs.out x).cells (by omega)
      have e0 := hcs k hlt
      obtain ⟨y, hy⟩ : ∃ y, y = rz.getD k 0 := ⟨_, rfl⟩
      rw [← hy] at e0
      have HYy := mkHid hy
      clear hy hcs
      by_cases hlo : y < 51
      · have HV := mkHid (right_no2 (r := ⟨rl, rs, rz⟩) (fun h => by
          have h1 := (h k (by show k < rz.length; rw [HZl.out]; exact hlt)).1
          change 51 ≤ rz.getD k 0 ∧ _ at h1
          rw [← HYy.out] at h1; omega))
        go_wp2_with fail
        go_ret
        exact ⟨ret_b HV.out, HB.out x⟩
      by_cases hhi : 4096 ≤ y
      · have HV := mkHid (right_no2 (r := ⟨rl, rs, rz⟩) (fun h => by
          have h1 := (h k (by show k < rz.length; rw [HZl.out]; exact hlt)).1
          change 51 ≤ rz.getD k 0 ∧ rz.getD k 0 < 4096 at h1
          rw [← HYy.out] at h1; omega))
        have dlo : decide (y < 51) = false := decide_eq_false hlo
        go_wp2_with fail
        go_ret
        exact ⟨ret_b HV.out, HB.out x⟩
      have dlo : decide (y < 51) = false := decide_eq_false hlo
      have dhi : decide (4096 ≤ y) = false := decide_eq_false hhi
      have HCt := codContainsZ (some ⟨g, off, none⟩) k qd (rz.take k) y (Y.drewN x) HZx.out (by omega)
      have hkq : (k : Int) ≤ (qd : Int) := by omega
      by_cases hm : y ∈ rz.take k
      · have HV := mkHid (right_no2 (r := ⟨rl, rs, rz⟩) (fun h => by
          obtain ⟨i, hi, e⟩ := mem_getD' hm
          have hik : i < k := by rw [List.length_take] at hi; omega
          have hzl : rz.length = zl := HZl.out
          have e3 : rz.getD i 0 = y := by rw [← e]; simp [hik, show i < rz.length by omega]
          exact (h k (by show k < rz.length; rw [hzl]; exact hlt)).2 i hik (by show rz.getD i 0 = rz.getD k 0; rw [← HYy.out]; exact e3)))
        rw [decide_eq_true hm] at HCt
        clear hm
        go_wp2_with fail
        refine HCt.mono ?_
        rintro e w' ⟨rfl, rfl⟩
        clear HCt
        go_wp2_with fail
        go_ret
        exact ⟨ret_b HV.out, HB.out x⟩
      · have HA1 : Hid (secOk rz (k + 1)) := secOk_succ HA.out (by rw [← HYy.out]; omega) (fun i hi e => hm (by
          have hzl : rz.length = zl := HZl.out
          rw [HYy.out, ← e]
          have e3 : (rz.take k).getD i 0 = rz.getD i 0 := by simp [hi, show i < rz.length by omega]
          rw [← e3]
          exact getD_mem' (by rw [List.length_take]; omega)))
        rw [decide_eq_false hm] at HCt
        clear hm
        go_wp2_with fail
        refine HCt.mono ?_
        rintro e w' ⟨rfl, rfl⟩
        clear HCt
        go_wp2_with fail
        go_roundw
        case rel => exact ⟨k + 1, x, by first | rfl | trivial, by omega, by go_num, HA1⟩
        case measure => simp [Go.RowKit.intOf]; omega
    · have hlt' : ¬ (k : Int) < (zl : Int) := by omega
      obtain rfl : k = zl := by omega
      have HV := mkHid (right_yes HHo.out (by rw [HZl.out]; exact HA.out))
      go_wp2_with fail
      go_ret
      exact ⟨ret_b HV.out, HB.out x⟩
end Go.Proofs.YthjdmfbengpepaaGreat
namespace Go.Proofs.YthjdmfbengpepaaGreat
open Go.RowKit

theorem results_cell1 {P : Program} {fn : Func} {p : Tmp} {ty : TypeId} (h : fn.results = #[.cell p ty]) (tmps : Array Value) (w : World) (g : Nat) (x : Value)
    (hp : tmps.getD p undef = .pointer (some ⟨g, 0, none⟩)) (hl : (loadVar ty ⟨g, 0, none⟩).run P w = .ok x w) : (results fn tmps).run P w = .ok x w := by
  have q1 : tmps[p]?.getD undef = .pointer (some ⟨g, 0, none⟩) := by simpa using hp
  simp only [results, h]
  simp [q1, asAddr, hl]

theorem results_cellrow {P : Program} {fn : Func} {p : Tmp} {ty : TypeId} (h : fn.results = #[.cell p ty]) (tmps : Array Value) (w : World) (g : Nat) (t : TypeId) (cs : Array Value) (fr : Nat × Nat) (d : TypeDesc)
    (hp : tmps.getD p undef = .pointer (some ⟨g, 0, none⟩)) (hg : w.heap[g]? = some (.cells cs t fr))
    (hu : P.underlying ty = some d) (hd : (match d with | .struct _ | .array _ _ => true | _ => false) = true) (hi : (P.info? ty).map (·.size) = some cs.size) :
    (results fn tmps).run P w = .ok (.agg cs) w := results_cell1 h tmps w g _ hp (run_loadVar_row w g t ty cs fr d hg hu hd hi)
theorem results_cellrow_tmp {P : Program} {fn : Func} {p u : Tmp} {ty : TypeId} (h : fn.results = #[.cell p ty, .tmp u]) (tmps : Array Value) (w : World) (g : Nat) (t : TypeId) (cs : Array Value) (fr : Nat × Nat) (d : TypeDesc)
    (hp : tmps.getD p undef = .pointer (some ⟨g, 0, none⟩)) (hg : w.heap[g]? = some (.cells cs t fr))
    (hu : P.underlying ty = some d) (hd : (match d with | .struct _ | .array _ _ => true | _ => false) = true) (hi : (P.info? ty).map (·.size) = some cs.size) :
    (results fn tmps).run P w = .ok (.tuple #[.agg cs, tmps.getD u undef]) w := by
  rw [results_cell_tmp h, hp]
  simp [asAddr, Result.andThen, run_loadVar_row w g t ty cs fr d hg hu hd hi]
end Go.Proofs.YthjdmfbengpepaaGreat
namespace Go.Proofs.YthjdmfbengpepaaGreat
open Go.RowKit

/-- sectors given back one behind the other -/
def dropGo (j : Jl) : List Int → Tl → Int × Tl
  | [], t => (0, t)
  | s :: l, t => if gvE t j s ≠ 0 then (gvE t j s, gvT t j s) else dropGo j l (gvT t j s)
theorem dropGo_no {j : Jl} {l : List Int} {k : Nat} {t : Tl} (hk : k < l.length) (h : gvE t j (l.getD k 0) ≠ 0) : dropGo j (l.drop k) t = (gvE t j (l.getD k 0), gvT t j (l.getD k 0)) := by
  have e : l.drop k = l.getD k 0 :: l.drop (k + 1) := by rw [List.drop_eq_getElem_cons hk]; simp [hk]
  rw [e, dropGo, if_pos h]
theorem dropGo_on {j : Jl} {l : List Int} {k : Nat} {t : Tl} (hk : k < l.length) (h : gvE t j (l.getD k 0) = 0) : dropGo j (l.drop k) t = dropGo j (l.drop (k + 1)) (gvT t j (l.getD k 0)) := by
  have e : l.drop k = l.getD k 0 :: l.drop (k + 1) := by rw [List.drop_eq_getElem_cons hk]; simp [hk]
  rw [e, dropGo, if_neg (fun h' => h' h)]
/-- Drop -/
def dropE (t : Tl) (j : Jl) (r : Rf) : Int := if rightL r = true then (dropGo j r.secs t).1 else 1
def dropT (t : Tl) (j : Jl) (r : Rf) : Tl := if rightL r = true then (dropGo j r.secs t).2 else t
theorem right_sec {r : Rf} (h : rightL r = true) {k : Nat} (hk : k < r.secs.length) : 51 ≤ r.secs.getD k 0 ∧ r.secs.getD k 0 < 4096 := ((of_decide_eq_true h).2 k hk).1
theorem right_len {r : Rf} (h : rightL r = true) : r.secs.length ≤ 12 := by
  obtain ⟨h0, h1, _, h2⟩ := (of_decide_eq_true h).1
  have : needL r.len ≤ 12 := by unfold needL; split <;> omega
  omega
set_option maxRecDepth 20000 in
set_option maxHeartbeats 2000000 in
theorem refDrop12 {w : World} {R U K D base m : Nat} {t : Tl} {j : Jl} (h : RefS w R U K D base m t j) (hm : m ≤ 100000) (ho : j.p.off = false) (r : Rf) (q : RfA) (hr : ∀ W, KC base w W → IsRf W r q) :
    Calls Tryz.prog 14 #[.pointer (some ⟨R, 0, none⟩), .agg (rfc r q).toArray] w fun e w' => e = .returned (.int .i64 (dropE t j r)) ∧ Hid (RefS w' R U K D base m (dropT t j r) j) ∧ Hid (KC base w w') := by
  have hY : Below w.heap.size w (w.alloc (.cells (rfc r q).toArray 46)) := (Below.refl _ w).alloc (Nat.le_refl _) _
  have kb := Blk.new w 46 (rfc r q)
  have HLo := mkHid h.lo
  have HKY := mkHid (KC.of_below hY HLo.out)
  have HSY := mkHid (h.on hY)
  have HRt := refRight12 r q _ (hr _ HKY.out)
  have HRr : Hid (∀ W, KC base w W → IsRf W r q) := hr
  have HOf := mkHid ho
  have HSec : Hid (rightL r = true → ∀ k, k < r.secs.length → 51 ≤ r.secs.getD k 0 ∧ r.secs.getD k 0 < 4096) := fun h k hk => right_sec h hk
  have HDE : Hid (rightL r = true → dropE t j r = (dropGo j r.secs t).1 ∧ dropT t j r = (dropGo j r.secs t).2) := fun h => by unfold dropE dropT; rw [if_pos h, if_pos h]; exact ⟨rfl, rfl⟩
  have HDN : Hid (rightL r = false → dropE t j r = 1 ∧ dropT t j r = t) := fun h => by unfold dropE dropT; rw [h]; exact ⟨rfl, rfl⟩
  clear h hY hr ho
  generalize dropE t j r = dE at *
  generalize dropT t j r = dT at *
  obtain ⟨rl, rs, rz⟩ := r
  obtain ⟨qa, qc, qb, qd⟩ := q
  simp only [rfc] at *
  have HKb := mkHid kb
  clear kb
  cases hrt : rightL ⟨rl, rs, rz⟩ with
  | false =>
    rw [hrt] at HRt
    have HN := mkHid (HDN.out hrt)
    clear hrt
    go_enter Tryz.func14, Tryz.ntmps14
    go_wp2_with fail
    refine HRt.mono ?_
    rintro e y1 ⟨rfl, hb1⟩
    have HK1 := mkHid (HKY.out.trans (KC.of_below hb1 HSY.out.lo))
    have HS1 := mkHid (HSY.out.on hb1)
    clear hb1 HRt
    go_wp2_with fail
    go_ret
    exact ⟨ret_i HN.out.1.symm, by rw [HN.out.2]; exact HS1, HK1⟩
  | true =>
    rw [hrt] at HRt
    have HG := mkHid (HDE.out hrt)
    have HSc := mkHid (HSec.out hrt)
    have hzl : rz.length ≤ 12 := right_len hrt
    change Hid (dE = (dropGo j rz t).1 ∧ dT = (dropGo j rz t).2) at HG
    change Hid (∀ k, k < rz.length → 51 ≤ rz.getD k 0 ∧ rz.getD k 0 < 4096) at HSc
    clear hrt HDE HDN HSec
    go_enter Tryz.func14, Tryz.ntmps14
    go_wp2_with fail
    generalize w.alloc (.cells #[.int .i64 rl, .slice qa rs.length qc, .slice qb rz.length qd] 46) = Y at *
    refine HRt.mono ?_
    rintro e y1 ⟨rfl, hb1⟩
    have HK1 := mkHid (KC.of_below hb1 HSY.out.lo)
    have HS1 := mkHid (HSY.out.on hb1)
    clear hb1 HRt HSY
    go_wp2_with fail
    go_loopw [5] (fun i wr => ∃ (k : Nat) (t' : Tl), k ≤ rz.length ∧ i = .int .i64 (k : Int) ∧ Hid (dropGo j (rz.drop k) t' = dropGo j rz t) ∧ Hid (RefS wr R U K D base m t' j) ∧ Hid (KC base Y wr)) (fun i _ => rz.length - (Go.RowKit.intOf i).toNat)
    case atStart => exact ⟨0, t, Nat.zero_le _, rfl, rfl, HS1, HK1⟩
    case round =>
      clear HS1 HK1
      obtain ⟨k, t', hk, rfl, HD, HS, HK⟩ := hrel
      have c2 : wr.cell? ⟨w.heap.size, 2, none⟩ = some (.slice qb rz.length qd) := Blk.cell (HK.out.t.blk HKb.out (by decide)) 2
      by_cases hlt : k < rz.length
      · have hlt' : (k : Int) < (rz.length : Int) := by omega
        obtain ⟨g, off, hge, _, hcs⟩ := (HRr.out wr (HKY.out.trans HK.out)).secs.cells (show 0 < rz.length by omega)
        change qb = _ at hge
        subst hge
        have f0 : wr.cell? ⟨g, off + k, none⟩ = some (.int .i64 (rz.getD k 0)) := hcs k hlt
        have hsr := HSc.out k hlt
        have HNo : Hid (gvE t' j (rz.getD k 0) ≠ 0 → dropGo j (rz.drop k) t' = (gvE t' j (rz.getD k 0), gvT t' j (rz.getD k 0))) := dropGo_no hlt
        have HOn : Hid (gvE t' j (rz.getD k 0) = 0 → dropGo j (rz.drop k) t' = dropGo j (rz.drop (k + 1)) (gvT t' j (rz.getD k 0))) := dropGo_on hlt
        clear hcs
        generalize rz.getD k 0 = s at *
        have HGv := refGive11 HS.out hm HOf.out s (by omega) (by omega)
        generalize gvT t' j s = t2 at *
        generalize gvE t' j s = E at *
        by_cases hz : E = 0
        · subst hz
          have HD2 : Hid (dropGo j (rz.drop (k + 1)) t2 = dropGo j rz t) := (HOn.out rfl).symm.trans HD.out
          clear HNo HOn HD
          go_wp2_with fail
          refine HGv.mono ?_
          rintro e y2 ⟨rfl, hs2, hk2⟩
          have HK2 := mkHid (HK.out.trans hk2.out)
          clear HGv hk2 HK HS
          go_wp2_with fail
          go_roundw
          case rel => exact ⟨k + 1, t2, by omega, by go_num, HD2, hs2, HK2⟩
          case measure => simp [Go.RowKit.intOf]; omega
        · have HF : Hid (dE = E ∧ dT = t2) := by
            unfold Hid
            rw [HG.out.1, HG.out.2, ← HD.out, HNo.out hz]
            exact ⟨rfl, rfl⟩
          clear HNo HOn HD HG
          go_wp2_with fail
          refine HGv.mono ?_
          rintro e y2 ⟨rfl, hs2, hk2⟩
          have HK2 := mkHid (HKY.out.trans (HK.out.trans hk2.out))
          clear HGv hk2 HK HS
          go_wp2_with fail
          go_ret
          exact ⟨ret_i HF.out.1.symm, by rw [HF.out.2]; exact hs2, HK2⟩
      · have hlt' : ¬ (k : Int) < (rz.length : Int) := by omega
        have HF : Hid (dE = 0 ∧ dT = t') := by
          unfold Hid
          rw [HG.out.1, HG.out.2, ← HD.out, List.drop_eq_nil_iff.2 (show rz.length ≤ k by omega), dropGo]
          exact ⟨rfl, rfl⟩
        go_wp2_with fail
        go_ret
        exact ⟨ret_i HF.out.1.symm, by rw [HF.out.2]; exact HS, mkHid (HKY.out.trans HK.out)⟩
end Go.Proofs.YthjdmfbengpepaaGreat
namespace Go.Proofs.YthjdmfbengpepaaGreat
open Go.RowKit

/-- bytes cut or filled to a sector -/
def pad512 (k : List UInt8) : List UInt8 := k.take 512 ++ List.replicate (512 - k.length) 0
theorem pad512_len (k : List UInt8) : (pad512 k).length = 512 := by unfold pad512; rw [List.length_append, List.length_take, List.length_replicate]; omega
def chunkL (b : List UInt8) (i : Nat) : List UInt8 := pad512 (b.drop (i * 512))
/-- sectors taken and written one behind the other -/
def putGo (j : Jl) (b : List UInt8) : Nat → Nat → Tl → List Int → Int × Tl × List Int
  | 0, _, t, acc => (0, t, acc)
  | f + 1, i, t, acc =>
    if tkE t j ≠ 0 then (tkE t j, tkT t j, acc)
    else if spWrE (tkT t j) j (tkV t j : Int) (chunkL b i) ≠ 0 then (spWrE (tkT t j) j (tkV t j : Int) (chunkL b i), spWr (tkT t j) j (tkV t j : Int) (chunkL b i), acc)
    else putGo j b f (i + 1) (spWr (tkT t j) j (tkV t j : Int) (chunkL b i)) (acc ++ [(tkV t j : Int)])
def putN (b : List UInt8) : Nat := (needL (b.length : Int)).toNat
/-- is there room? -/
def roomOk (t : Tl) (j : Jl) (n : Nat) : Prop := n = 0 ∨ (n ≤ freeL (mapL t j) (j.p.n - 51) ∧ (n : Int) ≤ 48 - (t.l.length : Int) - 1)
instance (t : Tl) (j : Jl) (n : Nat) : Decidable (roomOk t j n) := by unfold roomOk; exact inferInstance
/-- Put: its error, what it leaves, the ref -/
def putAll (t : Tl) (j : Jl) (b : List UInt8) : Int × Tl × List Int := putGo j b (putN b) 0 t []
def putE (t : Tl) (j : Jl) (b : List UInt8) : Int := if 6144 < b.length then 3 else if ¬ roomOk t j (putN b) then 44 else (putAll t j b).1
def putT (t : Tl) (j : Jl) (b : List UInt8) : Tl := if 6144 < b.length ∨ ¬ roomOk t j (putN b) then t else (putAll t j b).2.1
def putR (t : Tl) (j : Jl) (b : List UInt8) : Rf := if putE t j b = 0 then ⟨(b.length : Int), sha256L b, (putAll t j b).2.2⟩ else rf0
theorem put_no {t : Tl} {j : Jl} {b : List UInt8} {E : Int} {w' : World} (he : putE t j b = E) (h0 : E ≠ 0) : ∃ q, Ending.returned (.tuple #[.agg #[.int .i64 0, .slice none 0 0, .slice none 0 0], .int .i64 E]) = .returned (.tuple #[.agg (rfc (putR t j b) q).toArray, .int .i64 (putE t j b)]) ∧ RfK w' (putR t j b) q := by
  have e1 : putR t j b = rf0 := by unfold putR; rw [he, if_neg h0]
  refine ⟨⟨none, 0, none, 0⟩, ?_, ?_⟩
  · rw [e1, he]; rfl
  · rw [e1]; exact RfK.zero _
theorem put_yes {t : Tl} {j : Jl} {b : List UInt8} {l : List Int} {q0 : RfA} {w' : World} (he : putE t j b = 0) (hl : (putAll t j b).2.2 = l) (hI : RfK w' ⟨(b.length : Int), sha256L b, l⟩ q0) : ∃ q, Ending.returned (.tuple #[.agg (rfc ⟨(b.length : Int), sha256L b, l⟩ q0).toArray, .int .i64 0]) = .returned (.tuple #[.agg (rfc (putR t j b) q).toArray, .int .i64 (putE t j b)]) ∧ RfK w' (putR t j b) q := by
  have e1 : putR t j b = ⟨(b.length : Int), sha256L b, l⟩ := by unfold putR; rw [if_pos he, hl]
  exact ⟨q0, by rw [e1, he], by rw [e1]; exact hI⟩
/-- what the document's transaction of space hangs on -/
abbrev UR : List TypeId := [81, 88, 92, 85, 5, 94]
theorem RefS.keepR {w w' : World} {R U K D base m : Nat} {t : Tl} {j : Jl} (h : RefS w R U K D base m t j) (hk : KeepO UR w w') : RefS w' R U K D base m t j := by
  obtain ⟨vL, ls, hr⟩ := h.rt
  exact ⟨hk.blk h.blk (by decide), h.low, ⟨vL, ls, { hr with rt := ⟨hk.blk hr.rt.blk (by decide), hr.rt.gs.keepO hk (by decide) (by decide)⟩, rj := hk.blk hr.rj (by decide), rk := hr.rk.keepO hk (by decide) (by decide) (by decide) }⟩, h.lens⟩
theorem KC.new {base : Nat} {w0 w w' : World} (h : KC base w0 w) (hb : Below w0.heap.size w w') (hl : base ≤ w0.heap.size) : KC base w0 w' :=
  ⟨⟨Nat.le_trans h.t.size hb.size, fun k o hk ho => (hb.5 k (Array.getElem?_eq_some_iff.1 hk).1).trans (h.t.same k o hk ho)⟩, h.b.trans (hb.mono hl)⟩
/-- how it stands on its way -/
structure PtAt (w0 w : World) (R U K D base m : Nat) (t : Tl) (j : Jl) (q : Nat) (n : Int) (vs vz : Value) (S : List UInt8) (acc : List Int) : Prop where
  res : Blk w w0.heap.size 46 [.int .i64 0, .slice none 0 0, .slice none 0 0]
  r : Blk w q 46 [.int .i64 n, vs, vz]
  lt : w0.heap.size < q
  sum : OwnB w w0.heap.size vs S
  zs : OwnZ w w0.heap.size vz acc
  rs : RefS w R U K D base m t j
  kc : KC base w0 w
  lo : base ≤ w0.heap.size
theorem PtAt.call {w0 w w' : World} {R U K D base m : Nat} {t t' : Tl} {j : Jl} {q : Nat} {n : Int} {vs vz : Value} {S : List UInt8} {acc : List Int} (h : PtAt w0 w R U K D base m t j q n vs vz S acc) (hr : RefS w' R U K D base m t' j) (hk : KC base w w') : PtAt w0 w' R U K D base m t' j q n vs vz S acc :=
  ⟨hk.t.blk h.res (by decide), hk.t.blk h.r (by decide), h.lt, own_keep hk.t h.sum (by decide), own_keep hk.t h.zs (by decide), hr, h.kc.trans hk, h.lo⟩
theorem PtAt.on {w0 w w' : World} {R U K D base m : Nat} {t : Tl} {j : Jl} {q : Nat} {n : Int} {vs vz : Value} {S : List UInt8} {acc : List Int} (h : PtAt w0 w R U K D base m t j q n vs vz S acc) (hb : Below w.heap.size w w') : PtAt w0 w' R U K D base m t j q n vs vz S acc :=
  h.call (h.rs.on hb) (KC.of_below hb h.rs.lo)
theorem PtAt.grown {w0 w w' : World} {R U K D base m : Nat} {t : Tl} {j : Jl} {q : Nat} {n : Int} {vs vz vz' : Value} {S : List UInt8} {acc acc' : List Int} (h : PtAt w0 w R U K D base m t j q n vs vz S acc) (ho : OwnZ w' w0.heap.size vz' acc') (hg : w.grownBy w' vz.ownBlock) : PtAt w0 (w'.setCell ⟨q, 2, none⟩ vz') R U K D base m t j q n vs vz' S acc' := by
  have hk : KeepT [3] w w' := KeepT.grownZ h.zs hg
  have hsz : w0.heap.size ≤ w.heap.size := h.kc.t.size
  have hb1 : Below w0.heap.size w w' := (Below.refl _ w).grown hg hsz (fun k e => (World.ownsRow.lt h.zs k e).1)
  have hR := hk.blk h.r (by decide)
  have hk2 : KeepT [46] w' (w'.setCell ⟨q, 2, none⟩ vz') := (KeepT.refl _ _).set hR (by decide) 2 _
  have hb2 : Below w0.heap.size w (w'.setCell ⟨q, 2, none⟩ vz') := hb1.setCell (p := ⟨q, 2, none⟩) (Nat.le_of_lt h.lt) _
  exact ⟨Blk.other (hk.blk h.res (by decide)) _ _ (Nat.ne_of_lt h.lt), hR.set 2 _, h.lt, own_keep hk2 (own_keep hk h.sum (by decide)) (by decide), own_keep hk2 ho (by decide), (h.rs.keepR (KeepO.ofT hk (by decide))).keepR (KeepO.ofT hk2 (by decide)), h.kc.new hb2 h.lo, h.lo⟩
theorem own_full {w : World} {base B : Nat} {l : List UInt8} (h : OwnB w base (.slice (some ⟨B, 0, none⟩) 512 512) l) (hl : l.length = 512) : Blk w B 5 (bv l) := by
  obtain ⟨_, h2⟩ := h
  rcases h2 with ⟨e, _⟩ | ⟨g, cap, cur, e, _, hg, _, _, hsz, htk⟩
  · cases e
  · injection e with e1 _ e3
    have e4 : B = g := (Addr.mk.inj (Option.some.inj e1)).1
    subst e4 e3
    have hc : cur = (bv l).toArray := by
      apply Array.toList_inj.1
      rw [List.toList_toArray, ← htk, List.take_of_length_le]
      rw [Array.length_toList, hsz, hl]
      omega
    rw [hc] at hg
    exact hg
theorem full_own {w : World} {base B : Nat} {l : List UInt8} (h : Blk w B 5 (bv l)) (hl : l.length = 512) (hb : base ≤ B) : OwnB w base (.slice (some ⟨B, 0, none⟩) 512 512) l := by
  unfold OwnB
  rw [hl]
  exact ⟨by rw [bv_length, hl], .inr ⟨B, 512, (bv l).toArray, rfl, hb, h, Nat.le_refl _, by decide, by rw [List.size_toArray, bv_length, hl], by rw [List.toList_toArray, List.take_of_length_le (by rw [bv_length, hl]; omega)]⟩⟩
/-- copy into a new sector -/
theorem copyP (W : World) (B : Nat) (a : Option Addr) (n c : Nat) (k : List UInt8) (hB : Blk W B 5 (bv (List.replicate 512 0))) (hk : IsB W a n c k) (hn : 0 < n) :
    ∃ W', (Builtin.copy_ #[41, 41] 3 #[.slice (some ⟨B, 0, none⟩) 512 512, .slice a n c]).run Tryz.prog W = .ok (.int .i64 ((min 512 n : Nat) : Int)) W' ∧ Blk W' B 5 (bv (pad512 k)) ∧ W.grownBy W' (some B) := by
  obtain ⟨b, off, rfl, hc⟩ := hk.cells hn
  have hlen := hk.len_eq
  have hcs : ∀ j v, (bv (k.take 512))[j]? = some v → W.cell? ((⟨b, off, none⟩ : Addr).add j) = some v := by
    intro j v hj
    have hjl : j < (k.take 512).length := by have := (List.getElem?_eq_some_iff.1 hj).1; rwa [bv_length] at this
    have hj2 : j < k.length := Nat.lt_of_lt_of_le hjl (by rw [List.length_take]; omega)
    have hj3 : j < 512 := Nat.lt_of_lt_of_le hjl (by rw [List.length_take]; omega)
    have e : (bv (k.take 512))[j]? = (bv k)[j]? := by
      unfold bv
      rw [List.getElem?_map, List.getElem?_map, List.getElem?_take_of_lt hj3]
    rw [e, bv_at k j hj2] at hj
    rw [Addr.add_lit, hc j (by omega), ← hj]
  have hz : (bv (List.replicate 512 (0 : UInt8))).length = 512 := by rw [bv_length, List.length_replicate]
  have h := run_copy_row (P := Tryz.prog) W 41 41 3 5 B 0 512 512 ⟨b, off, none⟩ n c _ 5 (bv (k.take 512)) Tryz.underlying41 infoU8 hB (by rw [bv_length, List.length_take, hlen]; exact Nat.min_comm _ _) hcs (by rw [bv_length, List.size_toArray, hz, List.length_take]; omega) (bv_one _)
  have e2 : (bv (List.replicate 512 (0 : UInt8))).take 0 ++ bv (k.take 512) ++ (bv (List.replicate 512 (0 : UInt8))).drop (0 + (bv (k.take 512)).length) = bv (pad512 k) := by
    have e3 : (bv (List.replicate 512 (0 : UInt8))).drop (min 512 k.length) = bv (List.replicate (512 - k.length) 0) := by
      unfold bv
      rw [← List.map_drop, List.drop_replicate, show 512 - min 512 k.length = 512 - k.length by omega]
    rw [List.take_zero, List.nil_append, bv_length, List.length_take, Nat.zero_add, e3]
    unfold pad512
    rw [bv_append]
  refine ⟨_, ?_, hB.row (bv (pad512 k)), ⟨rfl, rfl, rfl, by simp [World.setRow], fun i _ hi => setRow_other W B i _ (fun e => hi (by rw [e]))⟩⟩
  rw [h, bv_length, List.length_take, hlen]
  rw [bv_length, List.length_take, hlen] at e2
  rw [← e2]
  rfl
end Go.Proofs.YthjdmfbengpepaaGreat
