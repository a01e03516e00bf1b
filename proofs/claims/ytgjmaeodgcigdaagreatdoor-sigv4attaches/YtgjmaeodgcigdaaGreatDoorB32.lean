/- What sigv4.claimOf answers. · What a kind's hmac answers. -/
import Derived.Test.YtgjmaeodgcigdaaGreatDoorC6l
import Derived.Test.YtgjmaeodgcigdaaGreatDoorB25
import Derived.Test.YtgjmaeodgcigdaaGreatDoorB27
import Derived.Test.YtgjmaeodgcigdaaGreatDoorB8
import Derived.Test.YtgjmaeodgcigdaaGreatDoorB12
import Derived.Laws.IdiomCopy
import Derived.Deep.RegionHeld3
namespace Go.Proofs.YtgjmaeodgcigdaaGreatDoor
open Go.RowKit

theorem results_cellrow_tmp2 {P : Program} {fn : Func} {p u v : Tmp} {ty : TypeId} (h : fn.results = #[.cell p ty, .tmp u, .tmp v]) (tmps : Array Value) (w : World) (g : Nat) (t : TypeId) (cs : Array Value) (fr : Nat × Nat) (d : TypeDesc)
    (hp : tmps.getD p undef = .pointer (some ⟨g, 0, none⟩)) (hg : w.heap[g]? = some (.cells cs t fr))
    (hu : P.underlying ty = some d) (hd : (match d with | .struct _ | .array _ _ => true | _ => false) = true) (hi : (P.info? ty).map (·.size) = some cs.size) :
    (results fn tmps).run P w = .ok (.tuple #[.agg cs, tmps.getD u undef, tmps.getD v undef]) w := by
  have q1 : tmps[p]?.getD undef = .pointer (some ⟨g, 0, none⟩) := by simpa using hp
  simp only [results, h]
  simp [q1, asAddr, Result.andThen, run_loadVar_row w g t ty cs fr d hg hu hd hi]

theorem codReadAuthU (l : List UInt8) (w : World) (hl : l.length ≤ 100000) (hm : MxS w) :
    Calls Tryz.prog 19 #[.string (str l)] w fun e w' =>
      (if auOk l = true then ∃ ta tc, e = .returned (.tuple #[.agg #[.string (str (auAc l)), .string (str (auDt l)), .slice ta (auTs l).length tc, .string (str (auSg l))], .int .i64 0]) ∧ IsT w' ta (auTs l).length tc (auTs l) ∧ ∀ b off, ta = some ⟨b, off, none⟩ → w.heap.size ≤ b
       else e = .returned (.tuple #[authNone, .int .i64 20])) ∧ Below w.heap.size w w' := by
  have h := codReadAuth l w hl hm
  obtain ⟨h1, h2⟩ := ca_au l
  rw [h1] at h
  cases hok : auOk l with
  | false => rw [hok] at h; exact h
  | true =>
    obtain ⟨e1, e2, e3, e4⟩ := h2 hok
    rw [hok, e1, e2, e3, e4] at h
    exact h

theorem has_any (ts : List (List UInt8)) : Lib.containsS (ts.map str) (str sDateN) = ts.any isDat := by
  rw [Bool.eq_iff_iff, Lib.containsS_iff, List.any_eq_true, List.mem_map]
  constructor
  · rintro ⟨t, ht, e⟩; exact ⟨t, ht, by unfold isDat; rw [beq_iff_eq]; exact str_inj e⟩
  · rintro ⟨t, ht, e⟩; refine ⟨t, ht, ?_⟩; unfold isDat at e; rw [beq_iff_eq] at e; rw [e]
theorem codHas (ta : Option Addr) (n tc : Nat) (ts : List (List UInt8)) (w : World) (h : IsT w ta n tc ts) :
    Calls Tryz.prog 116 #[.slice ta n tc, .string ⟨#[120, 45, 97, 109, 122, 45, 100, 97, 116, 101]⟩] w fun e w' => e = .returned (.bool (ts.any isDat)) ∧ w' = w := by
  have hl := h.len_eq
  by_cases h0 : n = 0
  · subst h0
    have : ts = [] := List.eq_nil_of_length_eq_zero hl
    subst this
    exact Tryz.slices_Contains_string_empty ta tc _ w
  · obtain ⟨b, off, rfl, hc⟩ := h.cells (by omega)
    have hm : n ≤ 9223372036854775807 := by have := h.le; have := h.max; unfold maxLen at this; omega
    have := Tryz.slices_Contains_string b off n tc (ts.map str) (str sDateN) w (by rw [List.length_map]; omega) hm (fun j hj => by
      rw [List.length_map] at hj
      rw [hc j (by omega), nthT_eq ts j hj, List.getD_eq_getElem?_getD, List.getElem?_map, List.getElem?_eq_getElem hj]; rfl)
    rw [List.take_of_length_le (by rw [List.length_map]; omega), has_any] at this
    exact this

def claimB (hs : List Pr) (F : Int) : Bool := auOk (vAu hs) && (decide (F = 0) && (((vDa hs).take 8 == auDt (vAu hs)) && (auTs (vAu hs)).any isDat))

set_option maxRecDepth 20000 in
set_option maxHeartbeats 4000000 in
theorem codClaim (m p q bd : Value) (ha : Option Addr) (hn hc : Nat) (hs : List Pr) (T : Nat) (F : Int) (w : World) (hP : IsP w ha hn hc hs) (hm : MxS w) (zh : ∀ i, i < hs.length → (nthP hs i).2.length ≤ 30000)
    (hF : F = 0 → (vDa hs).length = 16)
    (HRd : ∀ w, Calls Tryz.prog 115 #[.string (str (vDa hs))] w fun e w' => e = .returned (.tuple #[.int .u64 (T : Int), .int .i64 F]) ∧ Below w.heap.size w w') :
    Calls Tryz.prog 68 #[.agg #[m, p, q, .slice ha hn hc, bd]] w fun e w' =>
      (if claimB hs F = true then ∃ ta tc, e = .returned (.tuple #[.agg #[.string (str (auAc (vAu hs))), .string (str (auDt (vAu hs))), .slice ta (auTs (vAu hs)).length tc, .string (str (auSg (vAu hs)))], .int .u64 (T : Int), .int .i64 0]) ∧ IsT w' ta (auTs (vAu hs)).length tc (auTs (vAu hs))
       else e = .returned (.tuple #[authNone, .int .u64 0, .int .i64 20])) ∧ Below w.heap.size w w' := by
  have T0 : Below w.heap.size w ((w.alloc (.cells #[m, p, q, .slice ha hn hc, bd] 34)).alloc (.cells #[.string ⟨#[]⟩, .string ⟨#[]⟩, .slice none 0 0, .string ⟨#[]⟩] 46)) := ((Below.refl _ w).alloc (Nat.le_refl _) _).alloc (by simp) _
  have K0 : Blk ((w.alloc (.cells #[m, p, q, .slice ha hn hc, bd] 34)).alloc (.cells #[.string ⟨#[]⟩, .string ⟨#[]⟩, .slice none 0 0, .string ⟨#[]⟩] 46)) w.heap.size 34 [m, p, q, .slice ha hn hc, bd] := (Blk.newAt w _ _ _ _ rfl rfl).alloc _
  have R0 : Blk ((w.alloc (.cells #[m, p, q, .slice ha hn hc, bd] 34)).alloc (.cells #[.string ⟨#[]⟩, .string ⟨#[]⟩, .slice none 0 0, .string ⟨#[]⟩] 46)) (w.heap.size + 1) 46 [.string ⟨#[]⟩, .string ⟨#[]⟩, .slice none 0 0, .string ⟨#[]⟩] := Blk.newAt _ _ _ _ _ (by simp) rfl
  have zv : (vAu hs).length ≤ 30000 := find_small zh
  have G1 : ∀ W, Below w.heap.size w W → Calls Tryz.prog 75 #[.agg #[m, p, q, .slice ha hn hc, bd], .string ⟨#[97, 117, 116, 104, 111, 114, 105, 122, 97, 116, 105, 111, 110]⟩] W fun e w' => e = .returned (.tuple #[.string (str (vAu hs)), .bool (findL hs sAuthN).isSome]) ∧ Below W.heap.size W w' := fun W hW => codGet _ _ _ _ ha hn hc hs sAuthN W (hP.below hW rfl)
  have G2 : ∀ W, Below w.heap.size w W → Calls Tryz.prog 75 #[.agg #[m, p, q, .slice ha hn hc, bd], .string ⟨#[120, 45, 97, 109, 122, 45, 100, 97, 116, 101]⟩] W fun e w' => e = .returned (.tuple #[.string (str (vDa hs)), .bool (findL hs sDateN).isSome]) ∧ Below W.heap.size W w' := fun W hW => codGet _ _ _ _ ha hn hc hs sDateN W (hP.below hW rfl)
  have HA : ∀ W, Below w.heap.size w W → Calls Tryz.prog 19 #[.string (str (vAu hs))] W fun e w' => (if auOk (vAu hs) = true then ∃ ta tc, e = .returned (.tuple #[.agg #[.string (str (auAc (vAu hs))), .string (str (auDt (vAu hs))), .slice ta (auTs (vAu hs)).length tc, .string (str (auSg (vAu hs)))], .int .i64 0]) ∧ IsT w' ta (auTs (vAu hs)).length tc (auTs (vAu hs)) ∧ ∀ b off, ta = some ⟨b, off, none⟩ → W.heap.size ≤ b else e = .returned (.tuple #[authNone, .int .i64 20])) ∧ Below W.heap.size W w' := fun W hW => codReadAuthU (vAu hs) W (by omega) (hm.below hW hm.lt)
  have HX : F = 0 → (str (vDa hs)).size = 16 := fun h => by rw [str_size]; exact hF h
  have HQ1 : (((str (vDa hs)).extract 0 8).toList == (str (auDt (vAu hs))).toList) = ((vDa hs).take 8 == auDt (vAu hs)) := by rw [ext_take, str_list, str_toList, str_toList]
  have HCB : Hid (claimB hs F = (auOk (vAu hs) && (decide (F = 0) && (((vDa hs).take 8 == auDt (vAu hs)) && (auTs (vAu hs)).any isDat)))) := rfl
  generalize claimB hs F = cb at *
  generalize ((vDa hs).take 8 == auDt (vAu hs)) = bD at *
  generalize (findL hs sAuthN).isSome = q1 at *
  generalize (findL hs sDateN).isSome = q2 at *
  generalize auOk (vAu hs) = ok at *
  clear hP hm zh zv hF
  generalize str (auAc (vAu hs)) = xa at *
  generalize str (auDt (vAu hs)) = xt at *
  generalize str (auSg (vAu hs)) = xg at *
  generalize auTs (vAu hs) = ts at *
  generalize str (vAu hs) = xv at *
  generalize str (vDa hs) = xd at *
  cases ok with
  | false =>
    have hcb : ¬ cb = true := by rw [HCB.out]; simp
    simp only [Bool.false_eq_true, if_false] at HA
    unfold authNone at HA
    go_enter Tryz.func68, Tryz.ntmps68
    have c0 := K0.cell 0
    have c1 := K0.cell 1
    have c2 := K0.cell 2
    have c3 := K0.cell 3
    have c4 := K0.cell 4
    go_wp2_with (first
      | (go_at_call 75; refine (G1 _ T0).mono ?_; rintro e w1 ⟨rfl, hb1⟩; have R1 := R0.on hb1; have T1 := T0.trans (hb1.mono T0.size))
      | (go_at_call 19; refine (HA _ T1).mono ?_; rintro e w2 ⟨rfl, hb2⟩; have T2 := T1.trans (hb2.mono T1.size); have A3 : Below w2.heap.size w2 (w2.alloc (.cells #[.string ⟨#[]⟩, .string ⟨#[]⟩, .slice none 0 0, .string ⟨#[]⟩] 46)) := (Below.refl _ w2).alloc (Nat.le_refl _) _; have R3 := (R1.on hb2).on A3; have T3 := T2.trans (A3.mono T2.size); have k0 := R3.cell 0; have f0 := R3.frozen 0; have k1 := R3.cell 1; have f1 := R3.frozen 1; have k2 := R3.cell 2; have f2 := R3.frozen 2; have k3 := R3.cell 3; have f3 := R3.frozen 3))
    (try simp only [Exit.inBlock, Exit.then])
    refine bodyPost_ret (results_cellrow_tmp2 (P := Tryz.prog) rfl _ _ (w.heap.size + 1) 46 #[.string ⟨#[]⟩, .string ⟨#[]⟩, .slice none 0 0, .string ⟨#[]⟩] (0, 0) _ rfl ((((R3.set 0 (.string ⟨#[]⟩)).set 1 (.string ⟨#[]⟩)).set 2 (.slice none 0 0)).set 3 (.string ⟨#[]⟩)) Tryz.underlying46 rfl (by kernel_rfl)) rfl ⟨?_, ((((T3.setCell (p := ⟨w.heap.size + 1, 0, none⟩) (Nat.le_succ _) (.string ⟨#[]⟩)).setCell (p := ⟨w.heap.size + 1, 1, none⟩) (Nat.le_succ _) (.string ⟨#[]⟩)).setCell (p := ⟨w.heap.size + 1, 2, none⟩) (Nat.le_succ _) (.slice none 0 0)).setCell (p := ⟨w.heap.size + 1, 3, none⟩) (Nat.le_succ _) (.string ⟨#[]⟩))⟩
    first | rfl | (rw [if_neg hcb]; rfl)
  | true =>
    simp only [if_true] at HA
    go_enter Tryz.func68, Tryz.ntmps68
    have c0 := K0.cell 0
    have c1 := K0.cell 1
    have c2 := K0.cell 2
    have c3 := K0.cell 3
    have c4 := K0.cell 4
    go_upto_region 7 with (first
      | (go_at_call 75; first
        | (have hmk := K3; refine (G2 _ T3).mono ?_; rintro e w4 ⟨rfl, hb4⟩; have R4 := R3.on hb4; have T4 := T3.trans (hb4.mono T3.size); have X4 := X3.on hb4; have hi4 := hi3.below hb4 rfl)
        | (refine (G1 _ T0).mono ?_; rintro e w1 ⟨rfl, hb1⟩; have R1 := R0.on hb1; have K1 := K0.on hb1; have T1 := T0.trans (hb1.mono T0.size)))
      | (go_at_call 19; refine (HA _ T1).mono ?_; rintro e w2 ⟨⟨ta, tc, rfl, hi2, hg2⟩, hb2⟩; have hne : ∀ b off, ta = some ⟨b, off, none⟩ → w.heap.size + 1 < b := fun b off h => Nat.lt_of_lt_of_le R1.lt (hg2 b off h); clear hg2; have K2 := K1.on hb2; have T2 := T1.trans (hb2.mono T1.size); have A3 : Below w2.heap.size w2 (w2.alloc (.cells #[.string xa, .string xt, .slice ta ts.length tc, .string xg] 46)) := (Below.refl _ w2).alloc (Nat.le_refl _) _; have X3 := Blk.newAt w2 w2.heap.size 46 _ [.string xa, .string xt, .slice ta ts.length tc, .string xg] rfl rfl; have hi3 := hi2.below A3 rfl; have K3 := K2.on A3; have R3 := (R1.on hb2).on A3; have T3 := T2.trans (A3.mono T2.size); have d0 := K3.cell 0; have d1 := K3.cell 1; have d2 := K3.cell 2; have d3 := K3.cell 3; have d4 := K3.cell 4)
      | (go_at_call 115; refine (HRd _).mono ?_; rintro e w5 ⟨rfl, hb5⟩; have R5 := R4.on hb5; have T5 := T4.trans (hb5.mono T4.size); have X5 := X4.on hb5; have hi5 := hi4.below hb5 rfl))
    clear G1 G2 HA HRd K0 K1 K2 K3 T0 T1 T2 T3 T4 A3 X3 X4 R0 R1 R3 R4 hi2 hi3 hi4 hb1 hb2 hb4 hb5 c0 c1 c2 c3 c4 d0 d1 d2 d3 d4
    generalize w2.heap.size = B at *
    by_cases hF0 : F = 0
    · subst hF0
      have h16 := HX rfl
      clear HX
      have e0 := X5.cell 0
      have e1 := X5.cell 1
      have e2 := X5.cell 2
      have e3 := X5.cell 3
      have HCt : ∀ nn, Calls Tryz.prog 116 #[.slice ta ts.length tc, .string ⟨#[120, 45, 97, 109, 122, 45, 100, 97, 116, 101]⟩] (w5.drewN nn) fun e w' => e = .returned (.bool (ts.any isDat)) ∧ w' = w5.drewN nn := fun nn => codHas ta ts.length tc ts _ (hi5.below (bel_drewN (Below.refl _ w5) nn) rfl)
      have hnl : ts.length ≤ 9223372036854775807 := by have := hi5.le; have := hi5.max; unfold maxLen at this; omega
      cases bD with
      | false =>
        have hcb : ¬ cb = true := by rw [HCB.out]; simp
        go_upto_region 9 with fail
        go_quiet (fail)
        have R6 := R5.drewN nq
        have T6 := bel_drewN T5 nq
        generalize w5.drewN nq = W at *
        have k0 := R6.cell 0
        have k1 := R6.cell 1
        have k2 := R6.cell 2
        have k3 := R6.cell 3
        have f0 := R6.frozen 0
        have f1 := R6.frozen 1
        have f2 := R6.frozen 2
        have f3 := R6.frozen 3
        go_wp2
        (try simp only [Exit.inBlock, Exit.then])
        refine bodyPost_ret (results_cellrow_tmp2 (P := Tryz.prog) rfl _ _ (w.heap.size + 1) 46 #[.string ⟨#[]⟩, .string ⟨#[]⟩, .slice none 0 0, .string ⟨#[]⟩] (0, 0) _ rfl ((((R6.set 0 (.string ⟨#[]⟩)).set 1 (.string ⟨#[]⟩)).set 2 (.slice none 0 0)).set 3 (.string ⟨#[]⟩)) Tryz.underlying46 rfl (by kernel_rfl)) rfl ⟨?_, ((((T6.setCell (p := ⟨w.heap.size + 1, 0, none⟩) (Nat.le_succ _) (.string ⟨#[]⟩)).setCell (p := ⟨w.heap.size + 1, 1, none⟩) (Nat.le_succ _) (.string ⟨#[]⟩)).setCell (p := ⟨w.heap.size + 1, 2, none⟩) (Nat.le_succ _) (.slice none 0 0)).setCell (p := ⟨w.heap.size + 1, 3, none⟩) (Nat.le_succ _) (.string ⟨#[]⟩))⟩
        first | rfl | (rw [if_neg hcb]; rfl)
      | true =>
        generalize hin : ts.any isDat = bI at *
        cases bI with
        | false =>
          have hcb : ¬ cb = true := by rw [HCB.out]; simp
          go_upto_region 9 with fail
          go_quiet (first | (go_at_call 116; exact Calls.quiet_of_same (HCt _)))
          have R6 := R5.drewN nq
          have T6 := bel_drewN T5 nq
          generalize w5.drewN nq = W at *
          have k0 := R6.cell 0
          have k1 := R6.cell 1
          have k2 := R6.cell 2
          have k3 := R6.cell 3
          have f0 := R6.frozen 0
          have f1 := R6.frozen 1
          have f2 := R6.frozen 2
          have f3 := R6.frozen 3
          go_wp2
          (try simp only [Exit.inBlock, Exit.then])
          refine bodyPost_ret (results_cellrow_tmp2 (P := Tryz.prog) rfl _ _ (w.heap.size + 1) 46 #[.string ⟨#[]⟩, .string ⟨#[]⟩, .slice none 0 0, .string ⟨#[]⟩] (0, 0) _ rfl ((((R6.set 0 (.string ⟨#[]⟩)).set 1 (.string ⟨#[]⟩)).set 2 (.slice none 0 0)).set 3 (.string ⟨#[]⟩)) Tryz.underlying46 rfl (by kernel_rfl)) rfl ⟨?_, ((((T6.setCell (p := ⟨w.heap.size + 1, 0, none⟩) (Nat.le_succ _) (.string ⟨#[]⟩)).setCell (p := ⟨w.heap.size + 1, 1, none⟩) (Nat.le_succ _) (.string ⟨#[]⟩)).setCell (p := ⟨w.heap.size + 1, 2, none⟩) (Nat.le_succ _) (.slice none 0 0)).setCell (p := ⟨w.heap.size + 1, 3, none⟩) (Nat.le_succ _) (.string ⟨#[]⟩))⟩
          first | rfl | (rw [if_neg hcb]; rfl)
        | true =>
          have hcb : cb = true := by rw [HCB.out]; rfl
          go_upto_region 9 with fail
          go_quiet (first | (go_at_call 116; exact Calls.quiet_of_same (HCt _)))
          have R6 := R5.drewN nq
          have T6 := bel_drewN T5 nq
          have X6 := X5.drewN nq
          have hi6 := hi5.below (bel_drewN (Below.refl _ w5) nq) rfl
          clear HCt e0 e1 e2 e3 X5 R5 T5 hi5
          generalize w5.drewN nq = W at *
          have k0 := R6.cell 0
          have k1 := R6.cell 1
          have k2 := R6.cell 2
          have k3 := R6.cell 3
          have f0 := R6.frozen 0
          have f1 := R6.frozen 1
          have f2 := R6.frozen 2
          have f3 := R6.frozen 3
          have m0 := X6.cell 0
          have m1 := X6.cell 1
          have m2 := X6.cell 2
          have m3 := X6.cell 3
          go_wp2
          (try simp only [Exit.inBlock, Exit.then])
          refine bodyPost_ret (results_cellrow_tmp2 (P := Tryz.prog) rfl _ _ (w.heap.size + 1) 46 #[.string xa, .string xt, .slice ta ts.length tc, .string xg] (0, 0) _ rfl ((((R6.set 0 (.string xa)).set 1 (.string xt)).set 2 (.slice ta ts.length tc)).set 3 (.string xg)) Tryz.underlying46 rfl (by kernel_rfl)) rfl ⟨?_, ((((T6.setCell (p := ⟨w.heap.size + 1, 0, none⟩) (Nat.le_succ _) (.string xa)).setCell (p := ⟨w.heap.size + 1, 1, none⟩) (Nat.le_succ _) (.string xt)).setCell (p := ⟨w.heap.size + 1, 2, none⟩) (Nat.le_succ _) (.slice ta ts.length tc)).setCell (p := ⟨w.heap.size + 1, 3, none⟩) (Nat.le_succ _) (.string xg))⟩
          first | exact ⟨ta, tc, rfl, (((hi6.other hne 0 _).other hne 1 _).other hne 2 _).other hne 3 _⟩ | (rw [if_pos hcb]; exact ⟨ta, tc, rfl, (((hi6.other hne 0 _).other hne 1 _).other hne 2 _).other hne 3 _⟩)
    · have hcb : ¬ cb = true := by rw [HCB.out]; simp [hF0]
      have hz : (F == 0) = false := by simpa using hF0
      have k0 := R5.cell 0
      have k1 := R5.cell 1
      have k2 := R5.cell 2
      have k3 := R5.cell 3
      have f0 := R5.frozen 0
      have f1 := R5.frozen 1
      have f2 := R5.frozen 2
      have f3 := R5.frozen 3
      go_wp2
      (try simp only [Exit.inBlock, Exit.then])
      refine bodyPost_ret (results_cellrow_tmp2 (P := Tryz.prog) rfl _ _ (w.heap.size + 1) 46 #[.string ⟨#[]⟩, .string ⟨#[]⟩, .slice none 0 0, .string ⟨#[]⟩] (0, 0) _ rfl ((((R5.set 0 (.string ⟨#[]⟩)).set 1 (.string ⟨#[]⟩)).set 2 (.slice none 0 0)).set 3 (.string ⟨#[]⟩)) Tryz.underlying46 rfl (by kernel_rfl)) rfl ⟨?_, ((((T5.setCell (p := ⟨w.heap.size + 1, 0, none⟩) (Nat.le_succ _) (.string ⟨#[]⟩)).setCell (p := ⟨w.heap.size + 1, 1, none⟩) (Nat.le_succ _) (.string ⟨#[]⟩)).setCell (p := ⟨w.heap.size + 1, 2, none⟩) (Nat.le_succ _) (.slice none 0 0)).setCell (p := ⟨w.heap.size + 1, 3, none⟩) (Nat.le_succ _) (.string ⟨#[]⟩))⟩
      first | rfl | (rw [if_neg hcb]; rfl)
end Go.Proofs.YtgjmaeodgcigdaaGreatDoor
namespace Go.Proofs.YtgjmaeodgcigdaaGreatDoor
open Go.RowKit

/-- a key in an array, its first j bytes each with another one -/
def xorTo (k : List UInt8) (x : UInt8) (j : Nat) : List UInt8 := (List.range 64).map fun i => if i < j then xor8 (nth k i) x else nth k i
theorem xorTo_length (k : List UInt8) (x : UInt8) (j : Nat) : (xorTo k x j).length = 64 := by simp [xorTo]
theorem xorTo_at (k : List UInt8) (x : UInt8) (j i : Nat) (h : i < 64) : nth (xorTo k x j) i = if i < j then xor8 (nth k i) x else nth k i := by
  rw [nth_eq _ _ (by rw [xorTo_length]; exact h)]; simp [xorTo]
theorem nth_appl (l m : List UInt8) (k : Nat) : nth (l ++ m) k = if k < l.length then nth l k else nth m (k - l.length) := by
  unfold nth
  rw [List.getD_eq_getElem?_getD, List.getD_eq_getElem?_getD, List.getD_eq_getElem?_getD]
  split
  · rename_i h; rw [List.getElem?_append_left h]
  · rename_i h; rw [List.getElem?_append_right (by omega)]
theorem nth_repl (n i : Nat) : nth (List.replicate n 0) i = 0 := by
  unfold nth; rw [List.getD_eq_getElem?_getD]
  by_cases h : i < n
  · rw [List.getElem?_replicate, if_pos h]; rfl
  · rw [List.getElem?_replicate, if_neg h]; rfl
theorem xorTo_zero (k : List UInt8) (x : UInt8) (h : k.length ≤ 64) : xorTo k x 0 = k ++ (List.replicate 64 0).drop k.length := by
  refine ext_nth8 _ _ (by rw [xorTo_length, List.length_append, List.length_drop, List.length_replicate]; omega) fun i hi => ?_
  rw [xorTo_length] at hi
  rw [xorTo_at _ _ _ _ hi, if_neg (by omega), nth_appl]
  split
  · rfl
  · rename_i h2
    rw [nth_over k i (by omega), nth_drop, nth_repl]
theorem xorTo_succ (k : List UInt8) (x : UInt8) (j : Nat) : (xorTo k x j).set j (xor8 (nth k j) x) = xorTo k x (j + 1) := by
  refine ext_nth8 _ _ (by rw [List.length_set, xorTo_length, xorTo_length]) fun i hi => ?_
  rw [List.length_set, xorTo_length] at hi
  rw [nth_set8 _ _ _ _ (by rw [xorTo_length]; exact hi), xorTo_at _ _ _ _ hi, xorTo_at _ _ _ _ hi]
  by_cases e : j = i
  · subst e; rw [if_pos rfl, if_pos (by omega)]
  · rw [if_neg e]
    by_cases h : i < j
    · rw [if_pos h, if_pos (by omega)]
    · rw [if_neg h, if_neg (by omega)]
theorem xorTo_all (k : List UInt8) (x : UInt8) : xorTo k x 64 = blkL k x := by
  refine ext_nth8 _ _ (by rw [xorTo_length, blkL_length]) fun i hi => ?_
  rw [xorTo_length] at hi
  unfold blkL
  rw [xorTo_at _ _ _ _ hi, blkTo_at _ _ _ _ hi, if_pos hi, if_pos hi]

theorem infoR8' : (Tryz.prog.info? 5).map (·.size) = some 1 := by kernel_rfl

/-- copy(arr[:], k) -/
theorem copy64 (W : World) (I T : Nat) (cs : List UInt8) (hB : Blk W I T (bv cs)) (hl : cs.length = 64) (a : Option Addr) (n c : Nat) (k : List UInt8) (hk : IsB W a n c k) (hn : n ≤ 64) :
    ∃ W', (Builtin.copy_ #[23, 23] 3 #[.slice (some ⟨I, 0, none⟩) 64 64, .slice a n c]).run Tryz.prog W = .ok (.int .i64 (n : Int)) W' ∧ Blk W' I T (bv (k ++ cs.drop n)) ∧ W.grownBy W' (some I) := by
  by_cases h0 : n = 0
  · subst h0
    have e : k = [] := List.eq_nil_of_length_eq_zero hk.len_eq
    subst e
    refine ⟨W, ?_, by simpa using hB, ⟨rfl, rfl, rfl, Nat.le_refl _, fun _ _ _ => rfl⟩⟩
    exact run_copy_none W 23 23 3 5 (some ⟨I, 0, none⟩) a 64 64 0 c Tryz.underlying23 infoR8' rfl
  · obtain ⟨b, off, rfl, hc⟩ := hk.cells (by omega)
    have hlen := hk.len_eq
    have hcs : ∀ j v, (bv k)[j]? = some v → W.cell? ((⟨b, off, none⟩ : Addr).add j) = some v := by
      intro j v hj
      have hjl : j < k.length := by
        rcases Nat.lt_or_ge j k.length with h | h
        · exact h
        · rw [List.getElem?_eq_none (by rw [bv_length]; exact h)] at hj; cases hj
      rw [bv_at k j hjl] at hj
      rw [Addr.add_lit, hc j (by omega), ← hj]
    have h := run_copy_row (P := Tryz.prog) W 23 23 3 5 I 0 64 64 ⟨b, off, none⟩ n c _ T (bv k) Tryz.underlying23 infoR8' hB (by rw [bv_length, hlen]; show n = min n 64; omega) hcs (by rw [bv_length, List.size_toArray, bv_length]; omega) (bv_one k)
    have e2 : (bv cs).take 0 ++ bv k ++ (bv cs).drop (0 + (bv k).length) = bv (k ++ cs.drop n) := by
      rw [bv_append, bv_length, hlen]; simp [bv]
    have h2 : (Builtin.copy_ #[23, 23] 3 #[.slice (some ⟨I, 0, none⟩) 64 64, .slice (some ⟨b, off, none⟩) n c]).run Tryz.prog W = .ok (.int .i64 (n : Int)) (W.setRow I (bv (k ++ cs.drop n)).toArray) := by
      rw [h, ← e2, bv_length, hlen]
      rfl
    exact ⟨_, h2, hB.row _, ⟨rfl, rfl, rfl, by simp [World.setRow], fun i _ hi => setRow_other W I i _ (fun e => hi (by rw [e]))⟩⟩
end Go.Proofs.YtgjmaeodgcigdaaGreatDoor
