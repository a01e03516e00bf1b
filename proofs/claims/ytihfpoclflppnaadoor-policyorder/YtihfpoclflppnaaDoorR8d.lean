/- What the document's Parse answers. -/
import Derived.Test.YtihfpoclflppnaaDoorOwnR
import Derived.Test.YtihfpoclflppnaaDoorR8a
import Derived.Test.YtihfpoclflppnaaDoorB16
import Derived.Test.YtihfpoclflppnaaDoorOwnP
import Derived.Deep.RegionHeld3
namespace Go.Proofs.YtihfpoclflppnaaDoor
open Go.RowKit
attribute [local go_sem ↓] Go.wp_at_zero Go.wp_at_succ

/-- a slice of texts in a world -/
structure IsTx (w : World) (a : Option Addr) (n cap : Nat) (l : List (List UInt8)) : Prop where
  len_eq : l.length = n
  cells : 0 < n → ∃ b off, a = some ⟨b, off, none⟩ ∧ ∀ i, i < n → w.cell? ⟨b, off + i, none⟩ = some (.string (str (nthT l i)))
theorem OwnT.isTx {w : World} {base : Nat} {v : Value} {l : List (List UInt8)} (h : OwnT w base v l) : ∃ a cap, v = .slice a l.length cap ∧ IsTx w a l.length cap l := by
  by_cases hl : 0 < l.length
  · obtain ⟨g, cap, rfl, _⟩ := h.form hl
    exact ⟨_, cap, rfl, rfl, fun _ => ⟨g, 0, rfl, fun i hi => by rw [Nat.zero_add]; exact h.cellAt rfl i hi⟩⟩
  · have : l = [] := List.eq_nil_of_length_eq_zero (by omega)
    subst this
    rcases h.2 with ⟨rfl, _⟩ | ⟨g, cap, cur, rfl, _, _, h1, h2, _⟩
    · exact ⟨none, 0, rfl, rfl, fun hp => absurd hp (Nat.lt_irrefl 0)⟩
    · exact ⟨_, cap, rfl, rfl, fun hp => absurd hp (Nat.lt_irrefl 0)⟩
theorem OwnT.four {w : World} {base : Nat} {v : Value} {l : List (List UInt8)} (h : OwnT w base v l) (h4 : l.length = 4) : ∃ g cap, v = .slice (some ⟨g, 0, none⟩) 4 cap ∧ base ≤ g ∧ g < w.heap.size ∧ w.cell? ⟨g, 0, none⟩ = some (.string (str (nthT l 0))) ∧ w.cell? ⟨g, 1, none⟩ = some (.string (str (nthT l 1))) ∧ w.cell? ⟨g, 2, none⟩ = some (.string (str (nthT l 2))) ∧ w.cell? ⟨g, 3, none⟩ = some (.string (str (nthT l 3))) := by
  obtain ⟨g, cap, rfl, h1, h2⟩ := h.form (by omega)
  rw [h4] at h ⊢
  exact ⟨g, cap, rfl, h1, h2, h.cellAt h4 0 (by omega), h.cellAt h4 1 (by omega), h.cellAt h4 2 (by omega), h.cellAt h4 3 (by omega)⟩

theorem ret_pe {v : Value} {e e' : Int} (h : e = e') : Ending.returned (.tuple #[v, .int .i64 e]) = .returned (.tuple #[v, .int .i64 e']) := by rw [h]
/-- the rules of the first k parts -/
def parTo (ts : List (List UInt8)) (k : Nat) : List Ru := (ts.take k).map fun t => ruleOf (cutL 32 t)
theorem parTo_succ (ts : List (List UInt8)) (k : Nat) (h : k < ts.length) : parTo ts (k + 1) = parTo ts k ++ [ruleOf (cutL 32 (nthT ts k))] := by
  unfold parTo
  rw [nthT_eq ts k h, ← List.take_append_getElem h, List.map_append]; rfl
theorem parTo_length (ts : List (List UInt8)) (k : Nat) (h : k ≤ ts.length) : (parTo ts k).length = k := by
  unfold parTo; rw [List.length_map, List.length_take]; omega
def okTo (ts : List (List UInt8)) (k : Nat) : Prop := ∀ j, j < k → ruleOk (cutL 32 (nthT ts j)) = true
theorem par_yes (l : List UInt8) (h160 : l.length ≤ 160) (hne : l.isEmpty = false) (h : okTo (cutL 59 l) (cutL 59 l).length) : parE l = 0 ∧ parR l = parTo (cutL 59 l) (cutL 59 l).length := by
  have hok : parOk l = true := by
    unfold parOk
    rw [decide_eq_true h160, hne, Bool.true_and, Bool.false_or, List.all_eq_true]
    intro p hp
    obtain ⟨t, ht, rfl⟩ := List.mem_map.1 hp
    obtain ⟨j, hj, rfl⟩ := List.getElem_of_mem ht
    have := h j hj
    rw [nthT_eq _ _ hj] at this
    exact this
  refine ⟨by unfold parE; rw [if_pos hok], ?_⟩
  unfold parR parTo partsOf
  rw [if_pos hok, hne, List.take_length, List.map_map]; rfl
theorem par_no (l : List UInt8) (hne : l.isEmpty = false) (k : Nat) (hk : k < (cutL 59 l).length) (h : ruleOk (cutL 32 (nthT (cutL 59 l) k)) = false) : parE l = 45 ∧ parR l = [] := by
  have hok : parOk l = false := by
    unfold parOk
    have : (partsOf l).all ruleOk = false := by
      rw [List.all_eq_false]
      refine ⟨_, List.mem_map_of_mem (List.getElem_mem hk), ?_⟩
      rw [nthT_eq _ _ hk] at h
      rw [h]; simp
    rw [this, hne]; simp
  refine ⟨by unfold parE; rw [hok]; rfl, by unfold parR; rw [hok]; rfl⟩
theorem par_long (l : List UInt8) (h : ¬ l.length ≤ 160) : parE l = 45 ∧ parR l = [] := by
  have hok : parOk l = false := by unfold parOk; rw [decide_eq_false h]; rfl
  refine ⟨by unfold parE; rw [hok]; rfl, by unfold parR; rw [hok]; rfl⟩
theorem par_none : parE [] = 0 ∧ parR [] = [] := ⟨rfl, rfl⟩
theorem rule_no4 {ps : List (List UInt8)} (h : ¬ ps.length = 4) : ruleOk ps = false := by unfold ruleOk; rw [decide_eq_false h]; rfl
theorem rule_no0 {ps : List (List UInt8)} (h1 : ¬ nthT ps 0 = sAllow) (h2 : ¬ nthT ps 0 = sDeny) : ruleOk ps = false := by
  unfold ruleOk
  have e1 : (nthT ps 0 == sAllow) = false := by rw [beq_eq_false_iff_ne]; exact h1
  have e2 : (nthT ps 0 == sDeny) = false := by rw [beq_eq_false_iff_ne]; exact h2
  rw [e1, e2]; simp
theorem rule_noW {ps : List (List UInt8)} (h : wordL (nthT ps 1) = false ∨ wordL (nthT ps 2) = false ∨ wordL (nthT ps 3) = false) : ruleOk ps = false := by
  unfold ruleOk
  rcases h with h | h | h <;> rw [h] <;> simp
theorem rule_yes {ps : List (List UInt8)} (h4 : ps.length = 4) (h0 : nthT ps 0 = sAllow ∨ nthT ps 0 = sDeny) (h1 : wordL (nthT ps 1) = true) (h2 : wordL (nthT ps 2) = true) (h3 : wordL (nthT ps 3) = true) : ruleOk ps = true := by
  unfold ruleOk
  rw [decide_eq_true h4, h1, h2, h3]
  rcases h0 with e | e <;> rw [e] <;> rfl
theorem beqT {q : List UInt8} {m : List UInt8} (h : q = m) : ((str q).toList == m) = true := by rw [str_toList, beq_iff_eq]; exact h
theorem rule_deny {ps : List (List UInt8)} (d : Bool) (h : nthT ps 0 = kindL d) : (ruleOf ps) = ⟨d, nthT ps 1, nthT ps 2, nthT ps 3⟩ := by
  unfold ruleOf
  have e : (nthT ps 0 == sDeny) = d := by rw [h]; unfold kindL; cases d <;> rfl
  rw [e]

set_option maxRecDepth 20000 in
set_option maxHeartbeats 8000000 in
theorem refParse8 (l : List UInt8) (w : World) (hl : l.length ≤ 10000000) :
    Calls Tryd.prog 12 #[.string (str l)] w fun e w' => ∃ v, e = .returned (.tuple #[v, .int .i64 (parE l)]) ∧ OwnR 38 w' w.heap.size v (parR l) ∧ Below w.heap.size w w' := by
  have HZ : Hid ((str l).size = l.length) := str_size l
  by_cases hlen : l.length ≤ 160
  · by_cases hne : l.isEmpty = true
    · have hsz : ¬ (160 : Int) < ((str l).size : Int) := by rw [HZ.out]; omega
      have hem : (str l).toList.isEmpty = true := by rw [str_empty]; exact hne
      have HL : Hid (l = []) := List.isEmpty_iff.1 hne
      generalize str l = s at *
      clear hne hl hlen
      go_enter Tryd.func12, Tryd.ntmps12
      go_wp2_with fail
      go_ret2
      exact ⟨.slice none 0 0, ret_pe (by rw [HL.out]; rfl), by rw [HL.out]; exact OwnR.nil _ _ _, Below.refl _ _⟩
    · have hne' : l.isEmpty = false := by simpa using hne
      have hsz : ¬ (160 : Int) < ((str l).size : Int) := by rw [HZ.out]; omega
      have hem : (str l).toList.isEmpty = false := by rw [str_empty]; exact hne'
      have HC := refCut (str l) 59 w (by rw [HZ.out]; omega)
      rw [str_list] at HC
      have HP : Hid (∀ p ∈ cutL 59 l, p.length ≤ l.length) := cutL_part 59 l
      have HY : Hid (okTo (cutL 59 l) (cutL 59 l).length → parE l = 0 ∧ parR l = parTo (cutL 59 l) (cutL 59 l).length) := par_yes l hlen hne'
      have HNo : Hid (∀ k, k < (cutL 59 l).length → ruleOk (cutL 32 (nthT (cutL 59 l) k)) = false → parE l = 45 ∧ parR l = []) := fun k hk h => par_no l hne' k hk h
      have hcl := cutL_len 59 l
      obtain ⟨ts, hts⟩ : ∃ ts, ts = cutL 59 l := ⟨_, rfl⟩
      rw [← hts] at HC HP HY HNo hcl
      have HPk : Hid (∀ k, k < ts.length → (nthT ts k).length ≤ 160) := fun k hk => Nat.le_trans (HP.out _ (by rw [nthT_eq ts k hk]; exact List.getElem_mem hk)) hlen
      have hn160 : ts.length ≤ 161 := by omega
      generalize str l = s at *
      clear hts hcl hne hne' hlen hl HP
      obtain ⟨n, hn⟩ : ∃ n, n = ts.length := ⟨_, rfl⟩
      have HN : Hid (n = ts.length) := hn
      have hn161 : n ≤ 161 := by omega
      clear hn hn160
      go_enter Tryd.func12, Tryd.ntmps12
      go_wp2_with (go_at_call 26; refine HC.mono ?_; rintro e x1 ⟨v1, rfl, o1, t1⟩; obtain ⟨a1, c1, rfl, i1⟩ := o1.isTx; rw [← HN.out] at i1 ⊢)
      clear HC hsz hem
      have I1 : Hid (IsTx x1 a1 n c1 ts) := i1
      clear i1 o1
      go_loopw [5, 6, 7] (fun v i u wr => ∃ k : Nat, k ≤ n ∧ i = .int .i64 (k : Int) ∧ Hid (okTo ts k) ∧ OwnR 38 wr x1.heap.size v (parTo ts k) ∧ Below x1.heap.size x1 wr) (fun _ i _ _ => n - (intOf i).toNat)
      case atStart => exact ⟨0, Nat.zero_le _, rfl, fun j hj => absurd hj (Nat.not_lt_zero _), OwnR.nil _ _ _, Below.refl _ _⟩
      case round =>
        obtain ⟨k, hk, rfl, hok, hown, hbel⟩ := hrel
        by_cases hlt : k < n
        · have hlt' : (k : Int) < (n : Int) := by omega
          obtain ⟨b, off, rfl, hc⟩ := I1.out.cells (by omega)
          have gb : b < x1.heap.size := cell_lt (hc k hlt)
          have c0 := (hbel.cell (p := ⟨b, off + k, none⟩) gb).trans (hc k hlt)
          have HKT : Hid (k < ts.length) := by unfold Hid; rw [← HN.out]; exact hlt
          have hp160 := HPk.out k HKT.out
          obtain ⟨t, ht⟩ : ∃ t, t = nthT ts k := ⟨_, rfl⟩
          have HTk : Hid (t = nthT ts k) := ht
          rw [← ht] at c0 hp160
          clear ht hc
          have HC2 := refCut (str t) 32 wr (by rw [str_size]; omega)
          rw [str_list] at HC2
          have hpos := cutL_pos 32 t
          have hcl2 := cutL_len 32 t
          have HPL : Hid (∀ j, j < (cutL 32 t).length → (nthT (cutL 32 t) j).length ≤ 160) := fun j hj => Nat.le_trans (cutL_part 32 t _ (by rw [nthT_eq _ j hj]; exact List.getElem_mem hj)) hp160
          have HNk : Hid (ruleOk (cutL 32 t) = false → parE l = 45 ∧ parR l = []) := fun h => HNo.out k HKT.out (by rw [← HTk.out]; exact h)
          have HYk : Hid (ruleOk (cutL 32 t) = true → okTo ts (k + 1)) := fun h j hj => by
            by_cases e : j = k
            · rw [e, ← HTk.out]; exact h
            · exact hok.out j (by omega)
          have HSk : Hid (parTo ts (k + 1) = parTo ts k ++ [ruleOf (cutL 32 t)]) := by unfold Hid; rw [parTo_succ ts k HKT.out, HTk.out]
          have HLk : Hid ((parTo ts k).length = k) := parTo_length ts k (by rw [← HN.out]; exact hk)
          obtain ⟨ps, hps⟩ : ∃ ps, ps = cutL 32 t := ⟨_, rfl⟩
          rw [← hps] at HC2 hpos hcl2 HPL HNk HYk HSk
          obtain ⟨m, hm⟩ : ∃ m, m = ps.length := ⟨_, rfl⟩
          have HM : Hid (m = ps.length) := hm
          have hm161 : m ≤ 161 := by omega
          have hm1 : 0 < m := by omega
          clear hps hok hpos hcl2 hp160 hm
          generalize str t = st at *
          by_cases h4 : m = 4
          · obtain rfl := h4
            have z0 := HPL.out 0 (by rw [← HM.out]; omega)
            have z1 := HPL.out 1 (by rw [← HM.out]; omega)
            have z2 := HPL.out 2 (by rw [← HM.out]; omega)
            have z3 := HPL.out 3 (by rw [← HM.out]; omega)
            have W1 := fun w => refWord8 (nthT ps 1) w (by omega)
            have W2 := fun w => refWord8 (nthT ps 2) w (by omega)
            have W3 := fun w => refWord8 (nthT ps 3) w (by omega)
            by_cases hsAllow : nthT ps 0 = sAllow
            · have E0 : ((str (nthT ps 0)).toList == [97, 108, 108, 111, 119]) = true := beqT hsAllow
              have E1 : ((str (nthT ps 0)).toList == [100, 101, 110, 121]) = false := beq_no (by rw [hsAllow]; decide)
              by_cases w1 : wordL (nthT ps 1) = true
              · rw [w1] at W1
                by_cases w2 : wordL (nthT ps 2) = true
                · rw [w2] at W2
                  by_cases w3 : wordL (nthT ps 3) = true
                  · rw [w3] at W3
                    have HY2 := HYk.out (rule_yes HM.out.symm (.inl hsAllow) w1 w2 w3)
                    have HYo : Hid (okTo ts (k + 1)) := HY2
                    rw [rule_deny false hsAllow] at HSk
                    clear HNk HYk HY2 w1 w2 w3 hsAllow
                    go_wp2_with fail
                    refine HC2.mono ?_
                    rintro e x2 ⟨v2, rfl, o2, t2⟩
                    obtain ⟨g2, c2, rfl, hg1, hg2, d0, d1, d2, d3⟩ := o2.four HM.out.symm
                    go_wp2_with fail
                    refine (W1 _).mono ?_
                    rintro e y1 ⟨rfl, hy1⟩
                    obtain rfl := hy1.symm
                    clear hy1
                    go_wp2_with fail
                    refine (W2 _).mono ?_
                    rintro e y2 ⟨rfl, hy2⟩
                    obtain rfl := hy2.symm
                    clear hy2
                    go_wp2_with fail
                    refine (W3 _).mono ?_
                    rintro e y3 ⟨rfl, hy3⟩
                    obtain rfl := hy3.symm
                    clear hy3
                    go_wp2_with fail
                    obtain ⟨R, hRR⟩ : ∃ R : Ru, R = ⟨false, nthT ps 1, nthT ps 2, nthT ps 3⟩ := ⟨_, rfl⟩
                    have HRR : Hid (R = ⟨false, nthT ps 1, nthT ps 2, nthT ps 3⟩) := hRR
                    rw [← hRR] at HSk
                    have hcells : (ruc R).toArray = #[.bool false, .string (str (nthT ps 1)), .string (str (nthT ps 2)), .string (str (nthT ps 3))] := by rw [hRR]; rfl
                    have o4 : OwnR 38 x2 x1.heap.size _ (parTo ts k) := hown.on t2
                    have T2 : Below x1.heap.size x1 x2 := hbel.trans (t2.mono hbel.size)
                    have HB := hown.blk
                    have hbs := hbel.size
                    have hx2 := T2.size
                    have hbb : ∀ o : Obj, o = .cells #[.bool false, .string (str (nthT ps 1)), .string (str (nthT ps 2)), .string (str (nthT ps 3))] 38 → (x2.alloc o).heap[x2.heap.size]? = some (.cells (ruc R).toArray 38 (0, 0)) := fun o ho => by rw [hcells, ho]; exact heap_alloc_new x2 _
                    clear hRR hcells hown t2
                    generalize str (nthT ps 0) = S0 at *
                    generalize str (nthT ps 1) = S1 at *
                    generalize str (nthT ps 2) = S2 at *
                    generalize str (nthT ps 3) = S3 at *
                    go_region_held3 (fun w' => w'.cell? ⟨g2, 0, none⟩ = some (.string S0) ∧ w'.cell? ⟨g2, 1, none⟩ = some (.string S1) ∧ w'.cell? ⟨g2, 2, none⟩ = some (.string S2) ∧ w'.cell? ⟨g2, 3, none⟩ = some (.string S3))
                      ((go_split_ands; refine ⟨?_, ?_, ?_, ?_⟩ <;> (first | go_keep | (rw [hgrow.cell_far _ (by simp; omega) (fun e => by have := (HB _ e.symm).2; simp at this; omega)]; assumption))))
                      ((refine step_appR 22 38 Tryd.underlying22 infoRef8 _ (by rfl) _ _ (by rfl) x1.heap.size _ (parTo ts k) (by rfl) ((o4.alloc _).heap rfl) x2.heap.size R (by rfl) (hbb _ (by first | rfl | (simp; done))) (by rw [HLk.out]; omega) (by simp; omega) (x2.heap.size + 1) (by simp) ?_; intro gg cap w1 hown1 hgrow hat hlt1))
                    all_goals
                      go_wp2
                      go_roundw
                      case rel => exact ⟨k + 1, by omega, by go_num, HYo.out, by rw [HSk.out]; exact hown1, ((T2.alloc T2.size _).drew).grown hgrow (by simp; omega) (fun j hj => (HB j hj).1)⟩
                      case measure => simp [intOf]; omega
                  · have w3' : wordL (nthT ps 3) = false := by simpa using w3
                    rw [w3'] at W3
                    have HX := HNk.out (rule_noW (.inr (.inr w3')))
                    have HX1 : Hid (parE l = 45) := HX.1
                    have HX2 : Hid (parR l = []) := HX.2
                    clear HX HNk HYk HSk hsAllow
                    go_wp2_with fail
                    refine HC2.mono ?_
                    rintro e x2 ⟨v2, rfl, o2, t2⟩
                    obtain ⟨g2, c2, rfl, hg1, hg2, d0, d1, d2, d3⟩ := o2.four HM.out.symm
                    go_wp2_with fail
                    refine (W1 _).mono ?_
                    rintro e y1 ⟨rfl, hy1⟩
                    obtain rfl := hy1.symm
                    clear hy1
                    go_wp2_with fail
                    refine (W2 _).mono ?_
                    rintro e y2 ⟨rfl, hy2⟩
                    obtain rfl := hy2.symm
                    clear hy2
                    go_wp2_with fail
                    refine (W3 _).mono ?_
                    rintro e y3 ⟨rfl, hy3⟩
                    obtain rfl := hy3.symm
                    clear hy3
                    go_wp2_with fail
                    go_ret2
                    have T5 : Below w.heap.size w x2 := (t1.trans (hbel.mono t1.size)).trans (t2.mono (Nat.le_trans t1.size hbel.size))
                    exact ⟨.slice none 0 0, ret_pe HX1.out.symm, by rw [HX2.out]; exact OwnR.nil _ _ _, T5⟩
                · have w2' : wordL (nthT ps 2) = false := by simpa using w2
                  rw [w2'] at W2
                  have HX := HNk.out (rule_noW (.inr (.inl w2')))
                  have HX1 : Hid (parE l = 45) := HX.1
                  have HX2 : Hid (parR l = []) := HX.2
                  clear HX HNk HYk HSk hsAllow
                  go_wp2_with fail
                  refine HC2.mono ?_
                  rintro e x2 ⟨v2, rfl, o2, t2⟩
                  obtain ⟨g2, c2, rfl, hg1, hg2, d0, d1, d2, d3⟩ := o2.four HM.out.symm
                  go_wp2_with fail
                  refine (W1 _).mono ?_
                  rintro e y1 ⟨rfl, hy1⟩
                  obtain rfl := hy1.symm
                  clear hy1
                  go_wp2_with fail
                  refine (W2 _).mono ?_
                  rintro e y2 ⟨rfl, hy2⟩
                  obtain rfl := hy2.symm
                  clear hy2
                  go_wp2_with fail
                  go_ret2
                  have T5 : Below w.heap.size w x2 := (t1.trans (hbel.mono t1.size)).trans (t2.mono (Nat.le_trans t1.size hbel.size))
                  exact ⟨.slice none 0 0, ret_pe HX1.out.symm, by rw [HX2.out]; exact OwnR.nil _ _ _, T5⟩
              · have w1' : wordL (nthT ps 1) = false := by simpa using w1
                rw [w1'] at W1
                have HX := HNk.out (rule_noW (.inl w1'))
                have HX1 : Hid (parE l = 45) := HX.1
                have HX2 : Hid (parR l = []) := HX.2
                clear HX HNk HYk HSk hsAllow
                go_wp2_with fail
                refine HC2.mono ?_
                rintro e x2 ⟨v2, rfl, o2, t2⟩
                obtain ⟨g2, c2, rfl, hg1, hg2, d0, d1, d2, d3⟩ := o2.four HM.out.symm
                go_wp2_with fail
                refine (W1 _).mono ?_
                rintro e y1 ⟨rfl, hy1⟩
                obtain rfl := hy1.symm
                clear hy1
                go_wp2_with fail
                go_ret2
                have T5 : Below w.heap.size w x2 := (t1.trans (hbel.mono t1.size)).trans (t2.mono (Nat.le_trans t1.size hbel.size))
                exact ⟨.slice none 0 0, ret_pe HX1.out.symm, by rw [HX2.out]; exact OwnR.nil _ _ _, T5⟩
            by_cases hsDeny : nthT ps 0 = sDeny
            · have E0 : ((str (nthT ps 0)).toList == [100, 101, 110, 121]) = true := beqT hsDeny
              have E1 : ((str (nthT ps 0)).toList == [97, 108, 108, 111, 119]) = false := beq_no (by rw [hsDeny]; decide)
              by_cases w1 : wordL (nthT ps 1) = true
              · rw [w1] at W1
                by_cases w2 : wordL (nthT ps 2) = true
                · rw [w2] at W2
                  by_cases w3 : wordL (nthT ps 3) = true
                  · rw [w3] at W3
                    have HY2 := HYk.out (rule_yes HM.out.symm (.inr hsDeny) w1 w2 w3)
                    have HYo : Hid (okTo ts (k + 1)) := HY2
                    rw [rule_deny true hsDeny] at HSk
                    clear HNk HYk HY2 w1 w2 w3 hsDeny
                    go_wp2_with fail
                    refine HC2.mono ?_
                    rintro e x2 ⟨v2, rfl, o2, t2⟩
                    obtain ⟨g2, c2, rfl, hg1, hg2, d0, d1, d2, d3⟩ := o2.four HM.out.symm
                    go_wp2_with fail
                    refine (W1 _).mono ?_
                    rintro e y1 ⟨rfl, hy1⟩
                    obtain rfl := hy1.symm
                    clear hy1
                    go_wp2_with fail
                    refine (W2 _).mono ?_
                    rintro e y2 ⟨rfl, hy2⟩
                    obtain rfl := hy2.symm
                    clear hy2
                    go_wp2_with fail
                    refine (W3 _).mono ?_
                    rintro e y3 ⟨rfl, hy3⟩
                    obtain rfl := hy3.symm
                    clear hy3
                    go_wp2_with fail
                    obtain ⟨R, hRR⟩ : ∃ R : Ru, R = ⟨true, nthT ps 1, nthT ps 2, nthT ps 3⟩ := ⟨_, rfl⟩
                    have HRR : Hid (R = ⟨true, nthT ps 1, nthT ps 2, nthT ps 3⟩) := hRR
                    rw [← hRR] at HSk
                    have hcells : (ruc R).toArray = #[.bool true, .string (str (nthT ps 1)), .string (str (nthT ps 2)), .string (str (nthT ps 3))] := by rw [hRR]; rfl
                    have o4 : OwnR 38 x2 x1.heap.size _ (parTo ts k) := hown.on t2
                    have T2 : Below x1.heap.size x1 x2 := hbel.trans (t2.mono hbel.size)
                    have HB := hown.blk
                    have hbs := hbel.size
                    have hx2 := T2.size
                    have hbb : ∀ o : Obj, o = .cells #[.bool true, .string (str (nthT ps 1)), .string (str (nthT ps 2)), .string (str (nthT ps 3))] 38 → (x2.alloc o).heap[x2.heap.size]? = some (.cells (ruc R).toArray 38 (0, 0)) := fun o ho => by rw [hcells, ho]; exact heap_alloc_new x2 _
                    clear hRR hcells hown t2
                    generalize str (nthT ps 0) = S0 at *
                    generalize str (nthT ps 1) = S1 at *
                    generalize str (nthT ps 2) = S2 at *
                    generalize str (nthT ps 3) = S3 at *
                    go_region_held3 (fun w' => w'.cell? ⟨g2, 0, none⟩ = some (.string S0) ∧ w'.cell? ⟨g2, 1, none⟩ = some (.string S1) ∧ w'.cell? ⟨g2, 2, none⟩ = some (.string S2) ∧ w'.cell? ⟨g2, 3, none⟩ = some (.string S3))
                      ((go_split_ands; refine ⟨?_, ?_, ?_, ?_⟩ <;> (first | go_keep | (rw [hgrow.cell_far _ (by simp; omega) (fun e => by have := (HB _ e.symm).2; simp at this; omega)]; assumption))))
                      ((refine step_appR 22 38 Tryd.underlying22 infoRef8 _ (by rfl) _ _ (by rfl) x1.heap.size _ (parTo ts k) (by rfl) ((o4.alloc _).heap rfl) x2.heap.size R (by rfl) (hbb _ (by first | rfl | (simp; done))) (by rw [HLk.out]; omega) (by simp; omega) (x2.heap.size + 1) (by simp) ?_; intro gg cap w1 hown1 hgrow hat hlt1))
                    all_goals
                      go_wp2
                      go_roundw
                      case rel => exact ⟨k + 1, by omega, by go_num, HYo.out, by rw [HSk.out]; exact hown1, ((T2.alloc T2.size _).drew).grown hgrow (by simp; omega) (fun j hj => (HB j hj).1)⟩
                      case measure => simp [intOf]; omega
                  · have w3' : wordL (nthT ps 3) = false := by simpa using w3
                    rw [w3'] at W3
                    have HX := HNk.out (rule_noW (.inr (.inr w3')))
                    have HX1 : Hid (parE l = 45) := HX.1
                    have HX2 : Hid (parR l = []) := HX.2
                    clear HX HNk HYk HSk hsDeny
                    go_wp2_with fail
                    refine HC2.mono ?_
                    rintro e x2 ⟨v2, rfl, o2, t2⟩
                    obtain ⟨g2, c2, rfl, hg1, hg2, d0, d1, d2, d3⟩ := o2.four HM.out.symm
                    go_wp2_with fail
                    refine (W1 _).mono ?_
                    rintro e y1 ⟨rfl, hy1⟩
                    obtain rfl := hy1.symm
                    clear hy1
                    go_wp2_with fail
                    refine (W2 _).mono ?_
                    rintro e y2 ⟨rfl, hy2⟩
                    obtain rfl := hy2.symm
                    clear hy2
                    go_wp2_with fail
                    refine (W3 _).mono ?_
                    rintro e y3 ⟨rfl, hy3⟩
                    obtain rfl := hy3.symm
                    clear hy3
                    go_wp2_with fail
                    go_ret2
                    have T5 : Below w.heap.size w x2 := (t1.trans (hbel.mono t1.size)).trans (t2.mono (Nat.le_trans t1.size hbel.size))
                    exact ⟨.slice none 0 0, ret_pe HX1.out.symm, by rw [HX2.out]; exact OwnR.nil _ _ _, T5⟩
                · have w2' : wordL (nthT ps 2) = false := by simpa using w2
                  rw [w2'] at W2
                  have HX := HNk.out (rule_noW (.inr (.inl w2')))
                  have HX1 : Hid (parE l = 45) := HX.1
                  have HX2 : Hid (parR l = []) := HX.2
                  clear HX HNk HYk HSk hsDeny
                  go_wp2_with fail
                  refine HC2.mono ?_
                  rintro e x2 ⟨v2, rfl, o2, t2⟩
                  obtain ⟨g2, c2, rfl, hg1, hg2, d0, d1, d2, d3⟩ := o2.four HM.out.symm
                  go_wp2_with fail
                  refine (W1 _).mono ?_
                  rintro e y1 ⟨rfl, hy1⟩
                  obtain rfl := hy1.symm
                  clear hy1
                  go_wp2_with fail
                  refine (W2 _).mono ?_
                  rintro e y2 ⟨rfl, hy2⟩
                  obtain rfl := hy2.symm
                  clear hy2
                  go_wp2_with fail
                  go_ret2
                  have T5 : Below w.heap.size w x2 := (t1.trans (hbel.mono t1.size)).trans (t2.mono (Nat.le_trans t1.size hbel.size))
                  exact ⟨.slice none 0 0, ret_pe HX1.out.symm, by rw [HX2.out]; exact OwnR.nil _ _ _, T5⟩
              · have w1' : wordL (nthT ps 1) = false := by simpa using w1
                rw [w1'] at W1
                have HX := HNk.out (rule_noW (.inl w1'))
                have HX1 : Hid (parE l = 45) := HX.1
                have HX2 : Hid (parR l = []) := HX.2
                clear HX HNk HYk HSk hsDeny
                go_wp2_with fail
                refine HC2.mono ?_
                rintro e x2 ⟨v2, rfl, o2, t2⟩
                obtain ⟨g2, c2, rfl, hg1, hg2, d0, d1, d2, d3⟩ := o2.four HM.out.symm
                go_wp2_with fail
                refine (W1 _).mono ?_
                rintro e y1 ⟨rfl, hy1⟩
                obtain rfl := hy1.symm
                clear hy1
                go_wp2_with fail
                go_ret2
                have T5 : Below w.heap.size w x2 := (t1.trans (hbel.mono t1.size)).trans (t2.mono (Nat.le_trans t1.size hbel.size))
                exact ⟨.slice none 0 0, ret_pe HX1.out.symm, by rw [HX2.out]; exact OwnR.nil _ _ _, T5⟩
            have E0 : ((str (nthT ps 0)).toList == [97, 108, 108, 111, 119]) = false := beq_no hsAllow
            have E1 : ((str (nthT ps 0)).toList == [100, 101, 110, 121]) = false := beq_no hsDeny
            have HX := HNk.out (rule_no0 hsAllow hsDeny)
            have HX1 : Hid (parE l = 45) := HX.1
            have HX2 : Hid (parR l = []) := HX.2
            clear HX HNk HYk HSk hsAllow hsDeny
            go_wp2_with fail
            refine HC2.mono ?_
            rintro e x2 ⟨v2, rfl, o2, t2⟩
            obtain ⟨g2, c2, rfl, hg1, hg2, d0, d1, d2, d3⟩ := o2.four HM.out.symm
            go_wp2_with fail
            go_ret2
            have T5 : Below w.heap.size w x2 := (t1.trans (hbel.mono t1.size)).trans (t2.mono (Nat.le_trans t1.size hbel.size))
            exact ⟨.slice none 0 0, ret_pe HX1.out.symm, by rw [HX2.out]; exact OwnR.nil _ _ _, T5⟩
          · have hm4 : ((m : Int) != 4) = true := by simp; omega
            have hm4' : ¬ (m : Int) = 4 := by omega
            have HX := HNk.out (rule_no4 (by rw [← HM.out]; exact h4))
            have HX1 : Hid (parE l = 45) := HX.1
            have HX2 : Hid (parR l = []) := HX.2
            clear HX HNk HYk HSk h4
            go_wp2_with (go_at_call 26; refine HC2.mono ?_; rintro e x2 ⟨v2, rfl, o2, t2⟩; obtain ⟨a2, c2, rfl, i2⟩ := o2.isTx; rw [← HM.out] at i2 ⊢)
            go_ret2
            have T5 : Below w.heap.size w x2 := (t1.trans (hbel.mono t1.size)).trans (t2.mono (Nat.le_trans t1.size hbel.size))
            exact ⟨.slice none 0 0, ret_pe HX1.out.symm, by rw [HX2.out]; exact OwnR.nil _ _ _, T5⟩
        · have hge : ¬ (k : Int) < (n : Int) := by omega
          have hkn : k = n := by omega
          have HX := HY.out (by rw [← HN.out, ← hkn]; exact hok.out)
          have HX1 : Hid (parE l = 0) := HX.1
          have HX2 : Hid (parR l = parTo ts k) := by unfold Hid; rw [HX.2, ← HN.out, hkn]
          clear HX hkn hok
          go_wp2_with fail
          go_ret2
          exact ⟨_, ret_pe HX1.out.symm, by rw [HX2.out]; exact hown.base t1.size, t1.trans (hbel.mono t1.size)⟩
  · have hsz : (160 : Int) < ((str l).size : Int) := by rw [HZ.out]; omega
    have HX := par_long l hlen
    have HX1 : Hid (parE l = 45) := HX.1
    have HX2 : Hid (parR l = []) := HX.2
    generalize str l = s at *
    clear HX hlen hl
    go_enter Tryd.func12, Tryd.ntmps12
    go_wp2_with fail
    go_ret2
    exact ⟨.slice none 0 0, ret_pe HX1.out.symm, by rw [HX2.out]; exact OwnR.nil _ _ _, Below.refl _ _⟩
end Go.Proofs.YtihfpoclflppnaaDoor
