/- The program's upload keeps the document: Put, Join; all of it. -/
import Derived.Test.YtgcmojldegplaaaUpZa
import Derived.Test.YtgcmojldegplaaaUpZf
namespace Go.Proofs.Ytgcmojldegplaaa
open Go.RowKit

attribute [local go_sem] undef
set_option maxRecDepth 20000 in
set_option maxHeartbeats 8000000 in
theorem codPut16 (u : UpH) (a : Option Addr) (n cap : Nat) (l : List Pq) (nn : Int) (db : Option Addr) (dm dc : Nat) (data : List UInt8) (w : World) (h : IsPs16 w a n cap l) (hr : rightPs (l.map Prod.fst) = true) (hd : IsB w db dm dc data)
    (h0 : -9223372036854775808 ≤ nn) (h1 : nn ≤ 9223372036854775807) :
    Calls Try.prog 10 #[.agg (upc u (.slice a n cap)).toArray, .int .i64 nn, .slice db dm dc] w fun e w' => PwPost u (l.map Prod.fst) nn data w' e ∧ Below w.heap.size w w' := by
  have HDm := mkHid hd.len_eq
  have HWi : Hid (∀ W, Below w.heap.size w W → dm ≤ 1536 → Calls Try.prog 18 #[.slice a n cap, .agg #[.int .i64 nn, .slice db dm dc]] W fun e w' => (∃ a' m cap', e = .returned (.slice a' m cap') ∧ RnP w W w' (.slice a' m cap') (putPs (l.map Prod.fst) nn data)) ∧ Below W.heap.size W w') := fun W hW h5 => by
    have := codWith16 a n cap l (⟨nn, data⟩, ⟨db, dc⟩) w W hW h hr ⟨h0, h1, by show IsB w db data.length dc data; rw [HDm.out]; exact hd⟩ (by show data.length ≤ _; rw [HDm.out]; exact h5)
    unfold pac at this
    simp only [HDm.out] at this
    exact this
  clear h hd hr
  obtain ⟨bkt, key, id, time⟩ := u
  simp only [upc] at *
  have HT := mkHid (TwoU.new w [.string bkt, .string key, .int .u64 (id : Int), .int .u64 (time : Int), .slice a n cap] upZ)
  go_enter Try.func10, Try.ntmps10
  go_upto_region 1 with fail
  generalize hy : World.alloc (World.alloc _ _) _ = y
  replace HT : Hid (TwoU w y [.string bkt, .string key, .int .u64 (id : Int), .int .u64 (time : Int), .slice a n cap] upZ) := by rw [← hy]; exact HT
  clear hy
  have q0 : y.cell? ⟨w.heap.size + 1, 0, none⟩ = some (.string ⟨#[]⟩) := HT.out.k1.cell 0
  have q1 : y.cell? ⟨w.heap.size + 1, 1, none⟩ = some (.string ⟨#[]⟩) := HT.out.k1.cell 1
  have q2 : y.cell? ⟨w.heap.size + 1, 2, none⟩ = some (.int .u64 0) := HT.out.k1.cell 2
  have q3 : y.cell? ⟨w.heap.size + 1, 3, none⟩ = some (.int .u64 0) := HT.out.k1.cell 3
  have q4 : y.cell? ⟨w.heap.size + 1, 4, none⟩ = some (.slice none 0 0) := HT.out.k1.cell 4
  have p0 := HT.out.k1.frozen 0
  have p1 := HT.out.k1.frozen 1
  have p2 := HT.out.k1.frozen 2
  have p3 := HT.out.k1.frozen 3
  have p4 := HT.out.k1.frozen 4
  have HNo : Hid (Blk (((((y.setCell ⟨w.heap.size + 1, 0, none⟩ (.string ⟨#[]⟩)).setCell ⟨w.heap.size + 1, 1, none⟩ (.string ⟨#[]⟩)).setCell ⟨w.heap.size + 1, 2, none⟩ (.int .u64 0)).setCell ⟨w.heap.size + 1, 3, none⟩ (.int .u64 0)).setCell ⟨w.heap.size + 1, 4, none⟩ (.slice none 0 0)) (w.heap.size + 1) 25 upZ ∧ Below w.heap.size w (((((y.setCell ⟨w.heap.size + 1, 0, none⟩ (.string ⟨#[]⟩)).setCell ⟨w.heap.size + 1, 1, none⟩ (.string ⟨#[]⟩)).setCell ⟨w.heap.size + 1, 2, none⟩ (.int .u64 0)).setCell ⟨w.heap.size + 1, 3, none⟩ (.int .u64 0)).setCell ⟨w.heap.size + 1, 4, none⟩ (.slice none 0 0))) :=
    ⟨(((((HT.out.k1.set 0 (.string ⟨#[]⟩)).set 1 (.string ⟨#[]⟩)).set 2 (.int .u64 0)).set 3 (.int .u64 0)).set 4 (.slice none 0 0)), (((((HT.out.bel.setCell (p := ⟨w.heap.size + 1, 0, none⟩) (Nat.le_succ _) _).setCell (p := ⟨w.heap.size + 1, 1, none⟩) (Nat.le_succ _) _).setCell (p := ⟨w.heap.size + 1, 2, none⟩) (Nat.le_succ _) _).setCell (p := ⟨w.heap.size + 1, 3, none⟩) (Nat.le_succ _) _).setCell (p := ⟨w.heap.size + 1, 4, none⟩) (Nat.le_succ _) _)⟩
  by_cases hnn : nn < 1 ∨ 4 < nn
  · have HE := mkHid (putE_n (d := data) hnn)
    by_cases h1 : nn < 1
    · have h1d : decide (nn < 1) = true := decide_eq_true h1
      go_wp2_with fail
      (try simp only [Exit.inBlock, Exit.then])
      refine bodyPost_ret (results_cellrow_tmp (P := Try.prog) rfl _ _ (w.heap.size + 1) 25 upZ.toArray (0, 0) _ rfl HNo.out.1 Try.underlying25 rfl (by kernel_rfl)) rfl ⟨?_, HNo.out.2⟩
      exact ⟨fun _ => by rw [HE.out]; rfl, fun h0 => absurd (HE.out.symm.trans h0) (by decide)⟩
    · have h2 : 4 < nn := hnn.resolve_left h1
      have h1d : decide (nn < 1) = false := decide_eq_false h1
      have h2d : decide (4 < nn) = true := decide_eq_true h2
      go_wp2_with fail
      (try simp only [Exit.inBlock, Exit.then])
      refine bodyPost_ret (results_cellrow_tmp (P := Try.prog) rfl _ _ (w.heap.size + 1) 25 upZ.toArray (0, 0) _ rfl HNo.out.1 Try.underlying25 rfl (by kernel_rfl)) rfl ⟨?_, HNo.out.2⟩
      exact ⟨fun _ => by rw [HE.out]; rfl, fun h0 => absurd (HE.out.symm.trans h0) (by decide)⟩
  have h1 : ¬ nn < 1 := fun h => hnn (.inl h)
  have h2 : ¬ 4 < nn := fun h => hnn (.inr h)
  have h1d : decide (nn < 1) = false := decide_eq_false h1
  have h2d : decide (4 < nn) = false := decide_eq_false h2
  by_cases hbig : 1536 < dm
  · have hbig' : (1536 : Int) < (dm : Int) := by omega
    have HE := mkHid (putE_d (d := data) hnn (by rw [HDm.out]; exact hbig))
    clear hnn
    go_wp2_with fail
    (try simp only [Exit.inBlock, Exit.then])
    refine bodyPost_ret (results_cellrow_tmp (P := Try.prog) rfl _ _ (w.heap.size + 1) 25 upZ.toArray (0, 0) _ rfl HNo.out.1 Try.underlying25 rfl (by kernel_rfl)) rfl ⟨?_, HNo.out.2⟩
    exact ⟨fun _ => by rw [HE.out]; rfl, fun h0 => absurd (HE.out.symm.trans h0) (by decide)⟩
  have hbig' : ¬ (1536 : Int) < (dm : Int) := by omega
  have HE := mkHid (putE_0 (d := data) hnn (by rw [HDm.out]; exact hbig))
  have HCw := HWi.out y HT.out.bel (by omega)
  have c4 := HT.out.k0.cell 4
  simp only [List.getElem?_cons_zero, List.getElem?_cons_succ] at c4
  clear hnn hbig q0 q1 q2 q3 q4 p0 p1 p2 p3 p4 HNo HWi
  go_wp2_with (go_at_call 18; refine HCw.mono ?_; rintro e V ⟨⟨a', m', cap', rfl, hi⟩, hb⟩; have HI := mkHid hi; have HB := mkHid hb; have HT4 := mkHid (HT.out.on hb); clear hi hb c4 HT HCw; have c0 := HT4.out.k0.cell 0; have c1 := HT4.out.k0.cell 1; have c2 := HT4.out.k0.cell 2; have c3 := HT4.out.k0.cell 3; have f4 := HT4.out.k0.frozen 4; have q0 : V.cell? ⟨w.heap.size + 1, 0, none⟩ = some (.string ⟨#[]⟩) := HT4.out.k1.cell 0; have q1 : V.cell? ⟨w.heap.size + 1, 1, none⟩ = some (.string ⟨#[]⟩) := HT4.out.k1.cell 1; have q2 : V.cell? ⟨w.heap.size + 1, 2, none⟩ = some (.int .u64 0) := HT4.out.k1.cell 2; have q3 : V.cell? ⟨w.heap.size + 1, 3, none⟩ = some (.int .u64 0) := HT4.out.k1.cell 3; have q4 : V.cell? ⟨w.heap.size + 1, 4, none⟩ = some (.slice none 0 0) := HT4.out.k1.cell 4; have p0 := HT4.out.k1.frozen 0; have p1 := HT4.out.k1.frozen 1; have p2 := HT4.out.k1.frozen 2; have p3 := HT4.out.k1.frozen 3; have p4 := HT4.out.k1.frozen 4; have c4 := HT4.out.k0.cell 4; simp only [List.getElem?_cons_zero, List.getElem?_cons_succ] at c0 c1 c2 c3 c4; obtain ⟨hb2, hbel2, hkp2⟩ := HT4.out.put (.slice a' m' cap'); have HB2 := mkHid hb2; have HBe2 := mkHid hbel2; have HKp2 := mkHid hkp2; clear hb2 hbel2 hkp2)
  (try simp only [Exit.inBlock, Exit.then])
  refine bodyPost_ret (results_cellrow_tmp (P := Try.prog) rfl _ _ (w.heap.size + 1) 25 _ (0, 0) _ rfl HB2.out Try.underlying25 rfl (by kernel_rfl)) rfl ⟨?_, HBe2.out⟩
  obtain ⟨a2, m2, c2, l2, e2, h2, h3⟩ := HI.out.fin HKp2.out HBe2.out
  exact ⟨fun h0 => absurd HE.out h0, fun _ => ⟨a2, m2, c2, l2, by rw [← e2]; rfl, h2, h3⟩⟩
theorem OwnB.onB {w w' : World} {base : Nat} {v : Value} {l : List UInt8} (h : OwnB w base v l) (hb : Below w.heap.size w w') : OwnB w' base v l := own_keepO (KeepO.of_below hb) h (List.mem_singleton.2 rfl)
set_option maxRecDepth 20000 in
set_option maxHeartbeats 8000000 in
theorem codJoin16 (u : UpH) (a : Option Addr) (n cap : Nat) (l : List Pq) (za : Option Addr) (zn zc : Nat) (zs : List Int) (w : World) (h : IsPs16 w a n cap l) (hr : rightPs (l.map Prod.fst) = true) (hz : IsN16 w za zn zc zs) (hzn : zn ≤ 1000) :
    Calls Try.prog 13 #[.agg (upc u (.slice a n cap)).toArray, .slice za zn zc] w fun e w' => JnPost (l.map Prod.fst) zs w.heap.size w' e ∧ Below w.heap.size w w' := by
  have HO := mkHid (OneB.new w 25 (upc u (.slice a n cap)))
  have HX := mkHid h
  have HZ := mkHid hz
  have HLn := mkHid h.row.len
  have HZn := mkHid hz.row.len
  have HLl : Hid (∀ p ∈ l, p.1.d.length ≤ 1536) := h.small hr
  have HR := mkHid (right_rise l 0 hr).2
  have hn4 := h.len4 hr
  have HFi : Hid (∀ W z, Below w.heap.size w W → Calls Try.prog 19 #[.slice a n cap, .int .i64 z] W fun e w' => (∃ i b, e = .returned (.tuple #[.int .i64 ((i : Nat) : Int), .bool b]) ∧ AtP l z i b) ∧ Below W.heap.size W w') := fun W z hW => codFind16 a n cap l z W (h.row.below hW (Nat.le_refl _)) (by omega)
  clear h hz hr
  obtain ⟨bkt, key, id, time⟩ := u
  simp only [upc] at *
  go_enter Try.func13, Try.ntmps13
  go_upto_region 1 with fail
  generalize World.alloc _ _ = y at *
  by_cases hz0 : zn = 0
  · subst hz0
    have hzs : zs = [] := List.eq_nil_of_length_eq_zero HZn.out
    have HE : Hid (joinPs (l.map Prod.fst) zs = none) := by rw [hzs]; exact jn_nil _
    clear hzs
    go_wp2_with fail
    go_ret2
    exact ⟨⟨fun _ => rfl, fun o ho => absurd (HE.out.symm.trans ho) (by simp)⟩, HO.out.bel⟩
  have hz1 : ¬ (zn : Int) = 0 := by omega
  have hz2 : ((zn : Int) == 0) = false := by simp only [beq_eq_false_iff_ne, ne_eq]; exact hz1
  have HZne : Hid (zs ≠ []) := fun h => hz0 (by rw [← HZn.out, h]; rfl)
  clear hz0
  go_wp2_with fail
  go_loopw [6, 16] (fun o i wr => ∃ (k : Nat) (O : List UInt8), k ≤ zn ∧ i = .int .i64 (k : Int) ∧ Hid ((zs.take k).foldl (stJ (l.map Prod.fst)) (some (none, [])) = some (prevZ zs k, O)) ∧ Hid (O.length ≤ k * 1536) ∧ Hid (OwnB wr (w.heap.size + 1) o O) ∧ Hid (OneB w wr 25 [.string bkt, .string key, .int .u64 (id : Int), .int .u64 (time : Int), .slice a n cap])) (fun _ i _ => zn - (Go.RowKit.intOf i).toNat)
  case atStart => exact ⟨0, [], Nat.zero_le _, rfl, rfl, Nat.zero_le _, OwnB.nil _ _, HO⟩
  case round =>
    clear HO
    obtain ⟨k, O, hk, rfl, HF, HOl, HB, HO⟩ := hrel
    by_cases hlt : k < zn
    rotate_left
    · have hkn : k = zn := by omega
      subst hkn
      have hge : ¬ (k : Int) < (k : Int) := by omega
      have HFl : Hid (joinPs (l.map Prod.fst) zs = some O) := by
        have := HF.out
        rw [List.take_of_length_le (by rw [HZn.out]; exact Nat.le_refl _)] at this
        exact jn_yes HZne.out this
      obtain ⟨oa, oc, ho, hoB⟩ := HB.out.isB
      subst ho
      clear HF hoB
      go_wp2_with fail
      go_ret2
      exact ⟨⟨fun h => absurd (HFl.out.symm.trans h) (by simp), fun o ho => ⟨_, rfl, by obtain rfl := Option.some.inj (HFl.out.symm.trans ho); exact HB.out.base (by omega)⟩⟩, HO.out.bel⟩
    have hlt' : (k : Int) < (zn : Int) := by omega
    obtain ⟨B, off, z, rfl, hBl, hzk, hc⟩ := HZ.out.row.at k hlt
    have ez : wr.cell? ⟨B, off + k, none⟩ = some (.int .i64 z) := by
      have h0 := hc 0 _ rfl
      rw [Nat.mul_one, Nat.add_zero] at h0
      exact (HO.out.bel.cell (p := ⟨B, off + k, none⟩) hBl).trans h0
    have HFn := mkHid (foldJ_take (l.map Prod.fst) zs k z hzk (some (none, [])))
    rw [HF.out] at HFn
    have Hzk := mkHid hzk
    have Hlt := mkHid hlt
    have hk0 : (0 : Int) ≤ (k : Int) := by omega
    clear hc hlt hBl hzk
    have c4 := HO.out.k.cell 4
    simp only [List.getElem?_cons_zero, List.getElem?_cons_succ] at c4
    have HFc := HFi.out wr z HO.out.bel
    go_upto_region 8 with (go_at_call 19; refine HFc.mono ?_; rintro e y1 ⟨⟨i, b, rfl, hA⟩, hb1⟩)
    have HA := mkHid hA
    have HO1 := mkHid (HO.out.on hb1)
    have HB1 := mkHid (HB.out.onB hb1)
    clear hA hb1 c4 ez HFc HO HB
    cases b with
    | false =>
      have HE : Hid (joinPs (l.map Prod.fst) zs = none) := by
        refine jn_no (k := k + 1) ?_
        rw [HFn.out]
        unfold stJ
        rw [Option.bind_some, (HA.out.fnd HR.out).1 rfl]; rfl
      clear HA
      go_wp2_with fail
      go_ret2
      exact ⟨⟨fun _ => rfl, fun o ho => absurd (HE.out.symm.trans ho) (by simp)⟩, HO1.out.bel⟩
    | true =>
      obtain ⟨p, hpi, hi, hfi⟩ := (HA.out.fnd HR.out).2 rfl
      rw [HLn.out] at hi
      obtain ⟨Bp, offp, q, hap, hBp, hq, hcq⟩ := HX.out.row.at i hi
      obtain rfl : q = p := Option.some.inj (hq.symm.trans hpi)
      obtain ⟨⟨pn, pd⟩, ⟨pa, pc⟩⟩ := q
      subst hap
      have e1 : y1.cell? ⟨Bp, offp + i * 2 + 1, none⟩ = some (.slice pa pd.length pc) := (HO1.out.bel.cell (p := ⟨Bp, offp + i * 2 + 1, none⟩) hBp).trans (hcq 1 _ rfl)
      have HBq : Hid (IsB y1 pa pd.length pc pd) := ((HX.out.ok _ (List.mem_of_getElem? hq)).below HO1.out.bel).d
      have hdl := HLl.out _ (List.mem_of_getElem? hq)
      simp only at hdl
      obtain ⟨dl, hdl2⟩ : ∃ dl, dl = pd.length := ⟨_, rfl⟩
      rw [← hdl2] at hdl e1 HBq
      have Hdl := mkHid hdl2
      have hip : (i : Int) < (n : Int) := by omega
      have hi0 : (0 : Int) ≤ (i : Int) := by omega
      have hst : Hid (stJ (l.map Prod.fst) (some (prevZ zs k, O)) z = if noLess (prevZ zs k) z then none else some (some z, O ++ pd)) := by
        unfold Hid stJ; simp only [Option.bind_some, hfi]
      obtain ⟨ov, oc, hov, hovB⟩ := HB1.out.isB
      subst hov
      have c4 := HO1.out.k.cell 4
      simp only [List.getElem?_cons_zero, List.getElem?_cons_succ] at c4
      have hdlx := mkHid hdl
      have HLl2 : Hid (dl ≤ 1536 ∧ zn ≤ 1000 ∧ k < zn) := ⟨hdlx.out, hzn, Hlt.out⟩
      clear hcq hBp hq hdl2 hdl hovB hpi hfi HA hi
      cases k with
      | zero =>
        have HF2 : Hid ((zs.take (0 + 1)).foldl (stJ (l.map Prod.fst)) (some (none, [])) = some (prevZ zs (0 + 1), O ++ pd)) := by
          unfold Hid; rw [HFn.out, hst.out]; show some (some z, O ++ pd) = some (zs[0]?, O ++ pd); rw [Hzk.out]
        clear hst
        go_wp2_with (at_builtin; refine list_appS _ rfl (.tmp 43) (.tmp 49) rfl (w.heap.size + 1) _ O rfl HB1.out pa dl pc pd rfl HBq.out (by have h1 := HOl.out; have h2 := HLl2.out; omega) (by have := HO1.out.k.lt; exact this) ?_; intro v2 V2 ho2 hg2; have HB2 := mkHid ho2; have HO2 : Hid (OneB w V2 25 [.string bkt, .string key, .int .u64 (id : Int), .int .u64 (time : Int), .slice (some ⟨Bp, offp, none⟩) n cap]) := mkHid (one_grown (x := 0) HO1.out HB1.out hg2); clear ho2 hg2)
        (try rw [show (Value.tuple #[] : Value) = undef from rfl])
        go_roundw
        case rel => exact ⟨0 + 1, O ++ pd, Hlt.out, by go_num, HF2, by unfold Hid; rw [List.length_append]; have h1 := HOl.out; have h2 := HLl2.out; have h3 := Hdl.out; omega, HB2, HO2⟩
        case measure => simp [Go.RowKit.intOf]; have := Hlt.out; omega
      | succ j =>
        have hj : j < zn := by have := Hlt.out; omega
        obtain ⟨B', off', hB', _, hc'⟩ := HZ.out.row.cells (by omega)
        obtain ⟨rfl, rfl⟩ : B = B' ∧ off = off' := by cases hB'; exact ⟨rfl, rfl⟩
        have hjz : j < zs.length := by rw [HZn.out]; exact hj
        obtain ⟨zj, hzj⟩ : ∃ zj, zs[j]? = some zj := ⟨zs[j], List.getElem?_eq_getElem hjz⟩
        have hcj := hc' j zj hzj 0 _ rfl
        rw [Nat.mul_one, Nat.add_zero] at hcj
        have ej : y1.cell? ⟨B, off + j, none⟩ = some (.int .i64 zj) := (HO1.out.bel.cell (p := ⟨B, off + j, none⟩) (cell_lt (a := ⟨B, off + j, none⟩) hcj)).trans hcj
        have hpz : prevZ zs (j + 1) = some zj := hzj
        rw [hpz] at hst
        have hj1 : ((j + 1 : Nat) : Int) - 1 = (j : Int) := by omega
        have hjp : (0 : Int) < ((j + 1 : Nat) : Int) := by omega
        have hjd : decide ((0 : Int) < ((j + 1 : Nat) : Int)) = true := decide_eq_true hjp
        have hj2 : (0 : Int) ≤ (j : Int) := by omega
        have hj3 : (j : Int) < (zn : Int) := by omega
        have hjw : IntKind.i64.wrap (j : Int) = (j : Int) := by rw [IntKind.wrap_i64]; omega
        have Hpz := mkHid hpz
        clear hc' hcj hzj hpz hjz hj
        by_cases h4 : z ≤ zj
        · have h4d : decide (z ≤ zj) = true := decide_eq_true h4
          have HE : Hid (joinPs (l.map Prod.fst) zs = none) := by
            refine jn_no (k := j + 1 + 1) ?_
            rw [HFn.out, Hpz.out, hst.out]; show (if decide (z ≤ zj) = true then none else _) = none; rw [h4d]; rfl
          clear hst
          go_wp2_with fail
          go_ret2
          exact ⟨⟨fun _ => rfl, fun o ho => absurd (HE.out.symm.trans ho) (by simp)⟩, HO1.out.bel⟩
        · have h4d : decide (z ≤ zj) = false := decide_eq_false h4
          have HF2 : Hid ((zs.take (j + 1 + 1)).foldl (stJ (l.map Prod.fst)) (some (none, [])) = some (prevZ zs (j + 1 + 1), O ++ pd)) := by
            unfold Hid; rw [HFn.out, Hpz.out, hst.out]; show (if decide (z ≤ zj) = true then none else _) = _; rw [h4d]; show some (some z, O ++ pd) = some (zs[j + 1]?, O ++ pd); rw [Hzk.out]
          clear hst
          go_wp2_with (at_builtin; refine list_appS _ rfl (.tmp 43) (.tmp 49) rfl (w.heap.size + 1) _ O rfl HB1.out pa dl pc pd rfl HBq.out (by have h1 := HOl.out; have h2 := HLl2.out; omega) (by have := HO1.out.k.lt; exact this) ?_; intro v2 V2 ho2 hg2; have HB2 := mkHid ho2; have HO2 : Hid (OneB w V2 25 [.string bkt, .string key, .int .u64 (id : Int), .int .u64 (time : Int), .slice (some ⟨Bp, offp, none⟩) n cap]) := mkHid (one_grown (x := 0) HO1.out HB1.out hg2); clear ho2 hg2)
          (try rw [show (Value.tuple #[] : Value) = undef from rfl])
          go_roundw
          case rel => exact ⟨_, _, _, _, _, _, _, .int .i64 ((j + 1 + 1 : Nat) : Int), ⟨j + 1 + 1, Hlt.out, rfl, O ++ pd, HF2, by unfold Hid; rw [List.length_append]; have h1 := HOl.out; have h2 := HLl2.out; have h3 := Hdl.out; omega, HB2⟩, rfl, rfl, rfl, rfl, rfl, rfl, rfl, by simp⟩
          case measure => simp [Go.RowKit.intOf]; have := Hlt.out; omega
/-- the program's upload keeps the document -/
theorem upOK : UpOK where
  right := fun u a n cap l w h hn => codRight16 u a n cap l w h (by omega)
  put := fun u a n cap l nn db dm dc data w h hr hd h0 h1 => codPut16 u a n cap l nn db dm dc data w h hr hd h0 h1
  join := fun u a n cap l za zn zc zs w h hr hz hzn => codJoin16 u a n cap l za zn zc zs w h hr hz hzn
  total := fun u a n cap l w h hr => codTotal16 u a n cap l w h (by have := h.len4 hr; omega) (fun p hp => Nat.le_trans (h.small hr p hp) (by omega))
end Go.Proofs.Ytgcmojldegplaaa
