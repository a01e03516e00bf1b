/- What the document's Join of an upload answers. -/
import Derived.Test.YtgcmojldegplaaaUp2
import Derived.Test.YtgcmojldegplaaaOwnS
namespace Go.Proofs.Ytgcmojldegplaaa
open Go.RowKit

attribute [local go_sem] undef
/-- numbers in a world -/
structure IsN16 (w : World) (a : Option Addr) (n cap : Nat) (l : List Int) : Prop where
  row : RowC 1 (fun z : Int => [Value.int .i64 z]) w a n l
  ok : ∀ z ∈ l, -9223372036854775808 ≤ z ∧ z ≤ 9223372036854775807
  le : n ≤ cap
  nil : a = none → n = 0 ∧ cap = 0
theorem IsN16.below {w w' : World} {a : Option Addr} {n cap : Nat} {l : List Int} (h : IsN16 w a n cap l) (hb : Below w.heap.size w w') : IsN16 w' a n cap l :=
  ⟨h.row.below hb (Nat.le_refl _), h.ok, h.le, h.nil⟩
/-- the first part of a number -/
def fnd16 (l : List Pa) (n : Int) : Option Pa := l.find? (fun p => decide (p.n = n))
def noLess (q : Option Int) (n : Int) : Bool := match q with | none => false | some m => decide (n ≤ m)
def stJ (l : List Pa) (s : Option (Option Int × List UInt8)) (n : Int) : Option (Option Int × List UInt8) :=
  s.bind fun x => (fnd16 l n).bind fun p => if noLess x.1 n then none else some (some n, x.2 ++ p.d)
/-- the bytes of some parts -/
def joinPs (l : List Pa) (ns : List Int) : Option (List UInt8) := if ns = [] then none else (ns.foldl (stJ l) (some (none, []))).map Prod.snd
theorem foldJ_none (l : List Pa) : ∀ ns : List Int, ns.foldl (stJ l) none = none
  | [] => rfl
  | n :: ns => by rw [List.foldl_cons]; exact foldJ_none l ns
theorem foldJ_take (l : List Pa) (ns : List Int) (k : Nat) (n : Int) (h : ns[k]? = some n) (s : Option (Option Int × List UInt8)) : (ns.take (k + 1)).foldl (stJ l) s = stJ l ((ns.take k).foldl (stJ l) s) n := by
  rw [List.take_add_one, h, Option.toList_some, List.foldl_append]; rfl
theorem foldJ_no (l : List Pa) (ns : List Int) (k : Nat) (s : Option (Option Int × List UInt8)) (h : (ns.take k).foldl (stJ l) s = none) : ns.foldl (stJ l) s = none := by
  have : ns = ns.take k ++ ns.drop k := (List.take_append_drop k ns).symm
  rw [this, List.foldl_append, h, foldJ_none]
def prevZ (ns : List Int) (k : Nat) : Option Int := match k with | 0 => none | k + 1 => ns[k]?
theorem fnd_next {l : List Pa} {n : Int} {j : Nat} {p : Pa} (hp : l[j]? = some p) (h0 : fnd16 (l.take j) n = none) (he : p.n = n) : fnd16 l n = some p := by
  have hj := (List.getElem?_eq_some_iff.1 hp)
  obtain ⟨hl, hg⟩ := hj
  have : l = l.take j ++ p :: l.drop (j + 1) := by rw [← hg, ← List.drop_eq_getElem_cons hl, List.take_append_drop]
  unfold fnd16 at *
  rw [this, List.find?_append, h0, Option.none_or, List.find?_cons, decide_eq_true he]
theorem fnd_none {l : List Pa} {n : Int} {j : Nat} {p : Pa} (hp : l[j]? = some p) (h0 : fnd16 (l.take j) n = none) (he : ¬ p.n = n) : fnd16 (l.take (j + 1)) n = none := by
  unfold fnd16 at *
  rw [List.take_add_one, hp, Option.toList_some, List.find?_append, h0, Option.none_or, List.find?_cons, decide_eq_false he]
  rfl
/-- what a Join gives back -/
structure JnPost (l : List Pa) (ns : List Int) (B : Nat) (w : World) (e : Ending) : Prop where
  no : joinPs l ns = none → e = .returned (.tuple #[.slice none 0 0, .int .i64 42])
  yes : ∀ o, joinPs l ns = some o → ∃ v, e = .returned (.tuple #[v, .int .i64 0]) ∧ OwnB w B v o
theorem jn_nil (l : List Pa) : joinPs l [] = none := by unfold joinPs; rw [if_pos rfl]
theorem jn_no {l : List Pa} {ns : List Int} {k : Nat} (h : (ns.take k).foldl (stJ l) (some (none, [])) = none) : joinPs l ns = none := by
  unfold joinPs
  by_cases h0 : ns = []
  · rw [if_pos h0]
  · rw [if_neg h0, foldJ_no l ns k _ h]; rfl
theorem jn_yes {l : List Pa} {ns : List Int} {q : Option Int} {o : List UInt8} (h0 : ns ≠ []) (h : ns.foldl (stJ l) (some (none, [])) = some (q, o)) : joinPs l ns = some o := by
  unfold joinPs
  rw [if_neg h0, h]; rfl
theorem one_grown {w W V : World} {T : Nat} {cs : List Value} {v : Value} {l : List UInt8} {x : Nat} (h : OneB w W T cs) (hv : OwnB W (w.heap.size + 1) v l) (hg : (W.drewN x).grownBy V v.ownBlock) : OneB w V T cs := by
  have hk := h.on (bel_drewN (Below.refl _ W) x)
  have hl : ∀ j, v.ownBlock = some j → w.heap.size + 1 ≤ j := fun j hj => (World.ownsRow.lt hv j hj).1
  exact ⟨hk.k.below (n := w.heap.size + 1) ((Below.refl _ _).grown hg (by have := hk.k.lt; omega) (fun j hj => hl j hj)) (by omega), hk.bel.grown hg hk.bel.size (fun j hj => by have := hl j hj; omega)⟩
set_option maxRecDepth 20000 in
set_option maxHeartbeats 8000000 in
theorem refJoin16 (u : UpH) (a : Option Addr) (n cap : Nat) (l : List Pq) (za : Option Addr) (zn zc : Nat) (zs : List Int) (w : World) (h : IsPs16 w a n cap l) (hz : IsN16 w za zn zc zs) (hn : n ≤ 1000) (hzn : zn ≤ 1000)
    (hl : ∀ p ∈ l, p.1.d.length ≤ 100000) :
    Calls Try.prog 14 #[.agg (upc u (.slice a n cap)).toArray, .slice za zn zc] w fun e w' => JnPost (l.map Prod.fst) zs w.heap.size w' e ∧ Below w.heap.size w w' := by
  have HO := mkHid (OneB.new w 25 (upc u (.slice a n cap)))
  have HX := mkHid h
  have HZ := mkHid hz
  have HLn := mkHid h.row.len
  have HZn := mkHid hz.row.len
  have HLl := mkHid hl
  clear h hz hl
  obtain ⟨bkt, key, id, time⟩ := u
  simp only [upc] at *
  go_enter Try.func14, Try.ntmps14
  go_upto_region 1 with fail
  generalize World.alloc _ _ = y at *
  by_cases hz0 : zn = 0
  · subst hz0
    have hzs : zs = [] := List.eq_nil_of_length_eq_zero HZn.out
    have HE : Hid (joinPs (l.map Prod.fst) zs = none) := by rw [hzs]; exact jn_nil _
    clear hzs
    go_wp2_with fail
    go_ret2
    exact ⟨⟨fun _ => rfl, fun o ho => absurd (HE.out.symm.trans ho) (by simp)⟩, HO.out.bel⟩
  have hz1 : ¬ (zn : Int) = 0 := by omega
  have hz2 : ((zn : Int) == 0) = false := by simp only [beq_eq_false_iff_ne, ne_eq]; exact hz1
  have HZne : Hid (zs ≠ []) := fun h => hz0 (by rw [← HZn.out, h]; rfl)
  clear hz0
  go_wp2_with fail
  go_loopw [6, 7, 8, 9] (fun o i _ _ wr => ∃ (k : Nat) (O : List UInt8), k ≤ zn ∧ i = .int .i64 (k : Int) ∧ Hid ((zs.take k).foldl (stJ (l.map Prod.fst)) (some (none, [])) = some (prevZ zs k, O)) ∧ Hid (O.length ≤ k * 100000) ∧ Hid (OwnB wr (w.heap.size + 1) o O) ∧ Hid (OneB w wr 25 [.string bkt, .string key, .int .u64 (id : Int), .int .u64 (time : Int), .slice a n cap])) (fun _ i _ _ _ => zn - (Go.RowKit.intOf i).toNat)
  case atStart => exact ⟨0, [], Nat.zero_le _, rfl, rfl, Nat.zero_le _, OwnB.nil _ _, HO⟩
  case round =>
    clear HO
    obtain ⟨k, O, hk, rfl, HF, HOl, HB, HO⟩ := hrel
    by_cases hlt : k < zn
    rotate_left
    · have hkn : k = zn := by omega
      subst hkn
      have hge : ¬ (k : Int) < (k : Int) := by omega
      have HFl : Hid (joinPs (l.map Prod.fst) zs = some O) := by
        have := HF.out
        rw [List.take_of_length_le (by rw [HZn.out]; exact Nat.le_refl _)] at this
        exact jn_yes HZne.out this
      obtain ⟨oa, oc, ho, hoB⟩ := HB.out.isB
      subst ho
      clear HF hoB
      go_wp2_with fail
      go_ret2
      exact ⟨⟨fun h => absurd (HFl.out.symm.trans h) (by simp), fun o ho => ⟨_, rfl, by obtain rfl := Option.some.inj (HFl.out.symm.trans ho); exact HB.out.base (by omega)⟩⟩, HO.out.bel⟩
    have hlt' : (k : Int) < (zn : Int) := by omega
    obtain ⟨B, off, z, rfl, hBl, hzk, hc⟩ := HZ.out.row.at k hlt
    have HCz : Hid (∀ W, Below w.heap.size w W → W.cell? ⟨B, off + k, none⟩ = some (.int .i64 z)) := fun W hW => by
      have h0 := hc 0 _ rfl
      rw [Nat.mul_one, Nat.add_zero] at h0
      exact (hW.cell (p := ⟨B, off + k, none⟩) hBl).trans h0
    have HFn := mkHid (foldJ_take (l.map Prod.fst) zs k z hzk (some (none, [])))
    rw [HF.out] at HFn
    have hzb := HZ.out.ok z (List.mem_of_getElem? hzk)
    have Hzb := mkHid hzb
    clear hzb
    have Hlt := mkHid hlt
    have hk0 : (0 : Int) ≤ (k : Int) := by omega
    clear hc hlt
    go_wp2_with fail
    rename World => W0
    go_loopw [8, 9] (fun at' j wr => ∃ (m : Nat), m ≤ n ∧ j = .int .i64 (m : Int) ∧ ((at' = .int .i64 (-1) ∧ Hid (fnd16 ((l.map Prod.fst).take m) z = none)) ∨ ∃ (i : Nat) (p : Pq), at' = .int .i64 (i : Int) ∧ i < n ∧ Hid (l[i]? = some p) ∧ Hid (fnd16 (l.map Prod.fst) z = some p.1)) ∧ Hid (OwnB wr (w.heap.size + 1) u6 O) ∧ Hid (OneB w wr 25 [.string bkt, .string key, .int .u64 (id : Int), .int .u64 (time : Int), .slice a n cap])) (fun _ j _ => n - (Go.RowKit.intOf j).toNat)
    case atStart => exact ⟨0, Nat.zero_le _, rfl, .inl ⟨rfl, rfl⟩, HB, HO⟩
    case round =>
      clear HB HO
      obtain ⟨m, hm, rfl, hat, HBm, HOm⟩ := hrel
      have Hzk := mkHid hzk
      clear hzk
      have c4 := HOm.out.k.cell 4
      simp only [List.getElem?_cons_zero, List.getElem?_cons_succ] at c4
      have hm0 : (0 : Int) ≤ (m : Int) := by omega
      rcases hat with ⟨rfl, hfn⟩ | ⟨i, p, rfl, hi, hpi, hfi⟩
      · have hid : decide ((-1 : Int) < 0) = true := by decide
        by_cases hml : m < n
        · have hml' : (m : Int) < (n : Int) := by omega
          have Hml := mkHid hml
          obtain ⟨Bp, offp, q, rfl, hBp, hq, hcq⟩ := HX.out.row.at m hml
          have e0 : wr.cell? ⟨Bp, offp + m * 2, none⟩ = some (.int .i64 q.1.n) := (HOm.out.bel.cell (p := ⟨Bp, offp + m * 2, none⟩) hBp).trans (hcq 0 _ rfl)
          have ez := HCz.out wr HOm.out.bel
          obtain ⟨⟨pn, pd⟩, ⟨pa, pc⟩⟩ := q
          simp only at e0
          have hqm : (l.map Prod.fst)[m]? = some ⟨pn, pd⟩ := by rw [List.getElem?_map, hq]; rfl
          by_cases he : pn = z
          · have HF3 := mkHid (fnd_next hqm hfn.out he)
            have hqH := mkHid hq
            rw [he] at e0
            clear hcq hBp hq hqm hfn hml hm he
            go_wp2_with fail
            go_quiet (fail)
            go_wp2_with fail
            go_roundw
            case rel => exact ⟨m + 1, Hml.out, by go_num, .inr ⟨m, _, rfl, Hml.out, hqH, HF3⟩, mkHid (HBm.out.heap rfl), mkHid (HOm.out.on (bel_drewN (Below.refl _ _) _))⟩
            case measure => simp [Go.RowKit.intOf]; have := Hml.out; omega
          · have HF3 := mkHid (fnd_none hqm hfn.out he)
            have hed : decide (pn = z) = false := decide_eq_false he
            clear hcq hBp hq hqm hfn hml hm
            go_wp2_with fail
            go_quiet (fail)
            go_wp2_with fail
            go_roundw
            case rel => exact ⟨m + 1, Hml.out, by go_num, .inl ⟨rfl, HF3⟩, mkHid (HBm.out.heap rfl), mkHid (HOm.out.on (bel_drewN (Below.refl _ _) _))⟩
            case measure => simp [Go.RowKit.intOf]; have := Hml.out; omega
        · have hmn : m = n := by omega
          subst hmn
          have hge : ¬ (m : Int) < (m : Int) := by omega
          have HE : Hid (joinPs (l.map Prod.fst) zs = none) := by
            have h0 := hfn.out
            rw [List.take_of_length_le (by rw [List.length_map, HLn.out]; exact Nat.le_refl _)] at h0
            refine jn_no (k := k + 1) ?_
            rw [HFn.out]
            unfold stJ
            rw [Option.bind_some, h0]; rfl
          clear hfn hm hml
          go_wp2_with fail
          go_quiet (fail)
          go_wp2_with fail
          go_ret2
          exact ⟨⟨fun _ => rfl, fun o ho => absurd (HE.out.symm.trans ho) (by simp)⟩, bel_drewN HOm.out.bel _⟩
      · have hid : decide ((i : Int) < 0) = false := decide_eq_false (by omega)
        obtain ⟨Bp, offp, q, hap, hBp, hq, hcq⟩ := HX.out.row.at i hi
        obtain rfl : q = p := Option.some.inj (hq.symm.trans hpi.out)
        obtain ⟨⟨pn, pd⟩, ⟨pa, pc⟩⟩ := q
        subst hap
        have HCp : Hid (∀ W, Below w.heap.size w W → W.cell? ⟨Bp, offp + i * 2 + 1, none⟩ = some (.slice pa pd.length pc)) := fun W hW => by
          have h1 := hcq 1 _ rfl
          exact (hW.cell (p := ⟨Bp, offp + i * 2 + 1, none⟩) hBp).trans h1
        have HBq : Hid (∀ W, Below w.heap.size w W → IsB W pa pd.length pc pd) := fun W hW => ((HX.out.ok _ (List.mem_of_getElem? hq)).below hW).d
        have hdl := HLl.out _ (List.mem_of_getElem? hq)
        simp only at hdl
        obtain ⟨dl, hdl2⟩ : ∃ dl, dl = pd.length := ⟨_, rfl⟩
        rw [← hdl2] at hdl HCp HBq
        have Hdl := mkHid hdl2
        have e1 := HCp.out wr HOm.out.bel
        have ez := HCz.out wr HOm.out.bel
        have hip : (i : Int) < (n : Int) := by omega
        have hi0 : (0 : Int) ≤ (i : Int) := by omega
        have hst : Hid (stJ (l.map Prod.fst) (some (prevZ zs k, O)) z = if noLess (prevZ zs k) z then none else some (some z, O ++ pd)) := by
          unfold Hid stJ; simp only [Option.bind_some, hfi.out]
        obtain ⟨ov, oc, hov, hovB⟩ := HBm.out.isB
        subst hov
        have hdlx := mkHid hdl
        clear hcq hBp hq hdl2 hdl hovB
        have HLl2 : Hid (dl ≤ 100000 ∧ zn ≤ 1000 ∧ k < zn) := ⟨hdlx.out, hzn, Hlt.out⟩
        have hmd : decide ((m : Int) < (n : Int)) = decide (m < n) := by simp
        by_cases hml : m < n
        · have hml' : (m : Int) < (n : Int) := by omega
          clear hmd
          cases k with
          | zero =>
            have HF2 : Hid ((zs.take (0 + 1)).foldl (stJ (l.map Prod.fst)) (some (none, [])) = some (prevZ zs (0 + 1), O ++ pd)) := by
              unfold Hid; rw [HFn.out, hst.out]; show some (some z, O ++ pd) = some (zs[0]?, O ++ pd); rw [Hzk.out]
            clear hst
            go_wp2_with fail
            go_quiet (fail)
            go_wp2_with (at_builtin; refine list_appS _ rfl (.tmp 60) (.tmp 66) rfl (w.heap.size + 1) _ O rfl (HBm.out.heap rfl) pa dl pc pd rfl (HBq.out _ (bel_drewN HOm.out.bel _)) (by have h1 := HOl.out; have h2 := HLl2.out; omega) (by have := HOm.out.k.lt; exact this) ?_; intro v2 V2 ho2 hg2; have HB2 := mkHid ho2; have HO2 : Hid (OneB w V2 25 [.string bkt, .string key, .int .u64 (id : Int), .int .u64 (time : Int), .slice (some ⟨Bp, offp, none⟩) n cap]) := mkHid (one_grown HOm.out HBm.out hg2); clear ho2 hg2)
            rw [show (Value.tuple #[] : Value) = undef from rfl]
            go_roundw
            case rel => exact ⟨0 + 1, O ++ pd, Hlt.out, by go_num, HF2, by unfold Hid; rw [List.length_append]; have h1 := HOl.out; have h2 := HLl2.out; have h3 := Hdl.out; omega, HB2, HO2⟩
            case measure => simp [Go.RowKit.intOf]; have := Hlt.out; omega
          | succ j =>
            have hj : j < zn := by have := Hlt.out; omega
            obtain ⟨B', off', hB', _, hc'⟩ := HZ.out.row.cells (by omega)
            obtain ⟨rfl, rfl⟩ : B = B' ∧ off = off' := by cases hB'; exact ⟨rfl, rfl⟩
            have hjz : j < zs.length := by rw [HZn.out]; exact hj
            obtain ⟨zj, hzj⟩ : ∃ zj, zs[j]? = some zj := ⟨zs[j], List.getElem?_eq_getElem hjz⟩
            have hcj := hc' j zj hzj 0 _ rfl
            rw [Nat.mul_one, Nat.add_zero] at hcj
            have ej : wr.cell? ⟨B, off + j, none⟩ = some (.int .i64 zj) := (HOm.out.bel.cell (p := ⟨B, off + j, none⟩) (cell_lt (a := ⟨B, off + j, none⟩) hcj)).trans hcj
            have hpz : prevZ zs (j + 1) = some zj := hzj
            rw [hpz] at hst
            have hj1 : ((j + 1 : Nat) : Int) - 1 = (j : Int) := by omega
            have hjp : (0 : Int) < ((j + 1 : Nat) : Int) := by omega
            have hjd : decide ((0 : Int) < ((j + 1 : Nat) : Int)) = true := decide_eq_true hjp
            have hj2 : (0 : Int) ≤ (j : Int) := by omega
            have hj3 : (j : Int) < (zn : Int) := by omega
            have hjw : IntKind.i64.wrap (j : Int) = (j : Int) := by rw [IntKind.wrap_i64]; omega
            have Hpz := mkHid hpz
            clear hc' hcj hzj hpz hjz hj
            by_cases h4 : z ≤ zj
            · have h4d : decide (z ≤ zj) = true := decide_eq_true h4
              have HE : Hid (joinPs (l.map Prod.fst) zs = none) := by
                refine jn_no (k := j + 1 + 1) ?_
                rw [HFn.out, Hpz.out, hst.out]; show (if decide (z ≤ zj) = true then none else _) = none; rw [h4d]; rfl
              clear hst
              go_wp2_with fail
              go_quiet (fail)
              go_wp2_with fail
              go_ret2
              exact ⟨⟨fun _ => rfl, fun o ho => absurd (HE.out.symm.trans ho) (by simp)⟩, bel_drewN HOm.out.bel _⟩
            · have h4d : decide (z ≤ zj) = false := decide_eq_false h4
              have HF2 : Hid ((zs.take (j + 1 + 1)).foldl (stJ (l.map Prod.fst)) (some (none, [])) = some (prevZ zs (j + 1 + 1), O ++ pd)) := by
                unfold Hid; rw [HFn.out, Hpz.out, hst.out]; show (if decide (z ≤ zj) = true then none else _) = _; rw [h4d]; show some (some z, O ++ pd) = some (zs[j + 1]?, O ++ pd); rw [Hzk.out]
              clear hst
              go_wp2_with fail
              go_quiet (fail)
              go_wp2_with (at_builtin; refine list_appS _ rfl (.tmp 60) (.tmp 66) rfl (w.heap.size + 1) _ O rfl (HBm.out.heap rfl) pa dl pc pd rfl (HBq.out _ (bel_drewN HOm.out.bel _)) (by have h1 := HOl.out; have h2 := HLl2.out; omega) (by have := HOm.out.k.lt; exact this) ?_; intro v2 V2 ho2 hg2; have HB2 := mkHid ho2; have HO2 : Hid (OneB w V2 25 [.string bkt, .string key, .int .u64 (id : Int), .int .u64 (time : Int), .slice (some ⟨Bp, offp, none⟩) n cap]) := mkHid (one_grown HOm.out HBm.out hg2); clear ho2 hg2)
              rw [show (Value.tuple #[] : Value) = undef from rfl]
              go_roundw
              case rel => exact ⟨j + 1 + 1, O ++ pd, Hlt.out, by go_num, HF2, by unfold Hid; rw [List.length_append]; have h1 := HOl.out; have h2 := HLl2.out; have h3 := Hdl.out; omega, HB2, HO2⟩
              case measure => simp [Go.RowKit.intOf]; have := Hlt.out; omega
        · have hmn : m = n := by omega
          have hge : ¬ (m : Int) < (n : Int) := by omega
          clear hmd
          clear hmn hm hml
          cases k with
          | zero =>
            have HF2 : Hid ((zs.take (0 + 1)).foldl (stJ (l.map Prod.fst)) (some (none, [])) = some (prevZ zs (0 + 1), O ++ pd)) := by
              unfold Hid; rw [HFn.out, hst.out]; show some (some z, O ++ pd) = some (zs[0]?, O ++ pd); rw [Hzk.out]
            clear hst
            go_wp2_with fail
            go_quiet (fail)
            go_wp2_with (at_builtin; refine list_appS _ rfl (.tmp 60) (.tmp 66) rfl (w.heap.size + 1) _ O rfl (HBm.out.heap rfl) pa dl pc pd rfl (HBq.out _ (bel_drewN HOm.out.bel _)) (by have h1 := HOl.out; have h2 := HLl2.out; omega) (by have := HOm.out.k.lt; exact this) ?_; intro v2 V2 ho2 hg2; have HB2 := mkHid ho2; have HO2 : Hid (OneB w V2 25 [.string bkt, .string key, .int .u64 (id : Int), .int .u64 (time : Int), .slice (some ⟨Bp, offp, none⟩) n cap]) := mkHid (one_grown HOm.out HBm.out hg2); clear ho2 hg2)
            rw [show (Value.tuple #[] : Value) = undef from rfl]
            go_roundw
            case rel => exact ⟨0 + 1, O ++ pd, Hlt.out, by go_num, HF2, by unfold Hid; rw [List.length_append]; have h1 := HOl.out; have h2 := HLl2.out; have h3 := Hdl.out; omega, HB2, HO2⟩
            case measure => simp [Go.RowKit.intOf]; have := Hlt.out; omega
          | succ j =>
            have hj : j < zn := by have := Hlt.out; omega
            obtain ⟨B', off', hB', _, hc'⟩ := HZ.out.row.cells (by omega)
            obtain ⟨rfl, rfl⟩ : B = B' ∧ off = off' := by cases hB'; exact ⟨rfl, rfl⟩
            have hjz : j < zs.length := by rw [HZn.out]; exact hj
            obtain ⟨zj, hzj⟩ : ∃ zj, zs[j]? = some zj := ⟨zs[j], List.getElem?_eq_getElem hjz⟩
            have hcj := hc' j zj hzj 0 _ rfl
            rw [Nat.mul_one, Nat.add_zero] at hcj
            have ej : wr.cell? ⟨B, off + j, none⟩ = some (.int .i64 zj) := (HOm.out.bel.cell (p := ⟨B, off + j, none⟩) (cell_lt (a := ⟨B, off + j, none⟩) hcj)).trans hcj
            have hpz : prevZ zs (j + 1) = some zj := hzj
            rw [hpz] at hst
            have hj1 : ((j + 1 : Nat) : Int) - 1 = (j : Int) := by omega
            have hjp : (0 : Int) < ((j + 1 : Nat) : Int) := by omega
            have hjd : decide ((0 : Int) < ((j + 1 : Nat) : Int)) = true := decide_eq_true hjp
            have hj2 : (0 : Int) ≤ (j : Int) := by omega
            have hj3 : (j : Int) < (zn : Int) := by omega
            have hjw : IntKind.i64.wrap (j : Int) = (j : Int) := by rw [IntKind.wrap_i64]; omega
            have Hpz := mkHid hpz
            clear hc' hcj hzj hpz hjz hj
            by_cases h4 : z ≤ zj
            · have h4d : decide (z ≤ zj) = true := decide_eq_true h4
              have HE : Hid (joinPs (l.map Prod.fst) zs = none) := by
                refine jn_no (k := j + 1 + 1) ?_
                rw [HFn.out, Hpz.out, hst.out]; show (if decide (z ≤ zj) = true then none else _) = none; rw [h4d]; rfl
              clear hst
              go_wp2_with fail
              go_quiet (fail)
              go_wp2_with fail
              go_ret2
              exact ⟨⟨fun _ => rfl, fun o ho => absurd (HE.out.symm.trans ho) (by simp)⟩, bel_drewN HOm.out.bel _⟩
            · have h4d : decide (z ≤ zj) = false := decide_eq_false h4
              have HF2 : Hid ((zs.take (j + 1 + 1)).foldl (stJ (l.map Prod.fst)) (some (none, [])) = some (prevZ zs (j + 1 + 1), O ++ pd)) := by
                unfold Hid; rw [HFn.out, Hpz.out, hst.out]; show (if decide (z ≤ zj) = true then none else _) = _; rw [h4d]; show some (some z, O ++ pd) = some (zs[j + 1]?, O ++ pd); rw [Hzk.out]
              clear hst
              go_wp2_with fail
              go_quiet (fail)
              go_wp2_with (at_builtin; refine list_appS _ rfl (.tmp 60) (.tmp 66) rfl (w.heap.size + 1) _ O rfl (HBm.out.heap rfl) pa dl pc pd rfl (HBq.out _ (bel_drewN HOm.out.bel _)) (by have h1 := HOl.out; have h2 := HLl2.out; omega) (by have := HOm.out.k.lt; exact this) ?_; intro v2 V2 ho2 hg2; have HB2 := mkHid ho2; have HO2 : Hid (OneB w V2 25 [.string bkt, .string key, .int .u64 (id : Int), .int .u64 (time : Int), .slice (some ⟨Bp, offp, none⟩) n cap]) := mkHid (one_grown HOm.out HBm.out hg2); clear ho2 hg2)
              rw [show (Value.tuple #[] : Value) = undef from rfl]
              go_roundw
              case rel => exact ⟨j + 1 + 1, O ++ pd, Hlt.out, by go_num, HF2, by unfold Hid; rw [List.length_append]; have h1 := HOl.out; have h2 := HLl2.out; have h3 := Hdl.out; omega, HB2, HO2⟩
              case measure => simp [Go.RowKit.intOf]; have := Hlt.out; omega
end Go.Proofs.Ytgcmojldegplaaa
