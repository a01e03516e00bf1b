/- What policy.Action answers: the table of actions. · What the listed package variables say of a world, at policy's statements. -/
import Derived.Test.YtihfpoclflppnaaDoorB38
import Derived.Lib.LaidTab
import Derived.Test.YtihfpoclflppnaaDoorRows
import Derived.Test.YtihfpoclflppnaaDoorB16
namespace Go.Proofs.YtihfpoclflppnaaDoor
open Go.RowKit

/-- the table of actions lies in its variable -/
def Tab8 (w : World) : Prop := ∀ i, i < 20 → w.cell? ⟨0, i, none⟩ = some (.string (str (nthT acts i)))

set_option maxRecDepth 20000 in
set_option maxHeartbeats 1000000 in
theorem codAction8 (z : Int) (w : World) (ht : Tab8 w) (hlo : -9223372036854775808 ≤ z) (hhi : z ≤ 9223372036854775807) :
    Calls Tryd.prog 16 #[.int .i64 z] w fun e w' => e = .returned (.string (str (actL z))) ∧ Below w.heap.size w w' := by
  by_cases hz : 0 ≤ z ∧ z < 20
  · obtain ⟨k, rfl⟩ : ∃ k : Nat, z = (k : Int) := ⟨z.toNat, by omega⟩
    have hk : k < 20 := by omega
    have h20 : (k : Int) < 20 := by omega
    have h0 : ¬ (k : Int) < 0 := by omega
    have d0 : decide ((k : Int) < 0) = false := decide_eq_false h0
    have d1 : decide ((20 : Int) ≤ (k : Int)) = false := decide_eq_false (by omega)
    have c0 := ht k hk
    have HA : Hid (actL (k : Int) = nthT acts k) := actL_at k hk
    clear hz hlo hhi ht
    generalize nthT acts k = q at *
    go_enter Tryd.func16, Tryd.ntmps16
    go_wp2
    go_ret
    exact ⟨ret_ac HA.out.symm, Below.refl _ _⟩
  · have HA : Hid (actL z = []) := actL_no z hz
    by_cases h0 : z < 0
    · have d0 : decide (z < 0) = true := decide_eq_true h0
      clear hz
      go_enter Tryd.func16, Tryd.ntmps16
      go_wp2
      go_ret
      exact ⟨ret_ac (a := []) HA.out.symm, Below.refl _ _⟩
    · have h20 : 20 ≤ z := by omega
      have d0 : decide (z < 0) = false := decide_eq_false h0
      have d1 : decide (20 ≤ z) = true := decide_eq_true h20
      clear hz
      go_enter Tryd.func16, Tryd.ntmps16
      go_wp2
      go_ret
      exact ⟨ret_ac (a := []) HA.out.symm, Below.refl _ _⟩

/-- an array of texts that reads as the list holds it -/
theorem cells_of_texts {H : Type} {enc : TypeId × Value → H} {P : Program} {w : World} {base : Nat} {sp : Nat → Bool} {held : Bool} {fuel : Nat} {t e : TypeId} {n : Nat} {cs : List Value} {zs : List (List UInt8)} {p : List MemPlace}
    (ht : P.underlying t = some (.array n e)) (he : P.underlying e = some .string) (hce : P.cellsOf e = 1) (hct : P.cellsOf t = n)
    (h : DataW.trod enc P w base sp held fuel t cs = some (.agg (zs.map fun z => .lit (.string z)), p)) : ∀ i, i < zs.length → cs[i]? = some (.string (str (nthT zs i))) := by
  cases fuel with
  | zero => simp [DataW.trod] at h
  | succ fuel =>
    simp only [DataW.trod, ht, hce, hct, Nat.mul_one] at h
    split at h
    · obtain ⟨xs, hm, hx⟩ := Option.map_eq_some_iff.1 h
      have hxs : xs.map (·.1) = zs.map fun z => (DataW.lit (.string z) : DataW H) := by
        have := congrArg Prod.fst hx
        simpa using this
      have hxl : xs.length = n := by simpa using Lib.mapM_length hm
      have hzl : zs.length = n := by
        have := congrArg List.length hxs
        simp at this
        omega
      intro i hi
      obtain ⟨b, hb, hf⟩ := Lib.mapM_at hm i i (List.getElem?_range (by omega))
      obtain ⟨s, hc, e2, _⟩ := DataW.trod_string he hf
      have h1 : cs[i]? = some (.string s) := by
        have := congrArg (·[0]?) hc
        simpa [List.getElem?_take, List.getElem?_drop] using this
      have h2 : (xs.map (·.1))[i]? = some b.1 := by simp [hb]
      rw [hxs, e2, List.getElem?_map, List.getElem?_eq_getElem hi] at h2
      simp only [Option.map_some, Option.some.injEq, DataW.lit.injEq, Lit.string.injEq] at h2
      rw [h1, nthT_eq zs i hi, h2, str_of]
    · cases h
end Go.Proofs.YtihfpoclflppnaaDoor
namespace Go.Proofs.YtihfpoclflppnaaDoor
open Go.RowKit

abbrev laidP8 : List (String × DataW Unit) := [("unicode/utf8.acceptRanges", Rows.laid_unicode_utf8_acceptRanges), ("stele/policy.actions", Rows.laid_stele_policy_actions), ("unicode/utf8.first", Rows.laid_unicode_utf8_first)]
abbrev laidQ8 : List (String × DataW Unit) := [("unicode/utf8.acceptRanges", Rows.laid_unicode_utf8_acceptRanges), ("unicode/utf8.first", Rows.laid_unicode_utf8_first)]
theorem mx_of8 {W : World} (hsh : W.ShapedOpen Tryd.prog) : MxS W := cell_of_shapedOpen_int hsh (zero := #[.int .i64 0]) (of_decide_eq_true (by kernel_rfl)) (by kernel_rfl) rfl (by kernel_rfl) (by kernel_rfl) Tryd.underlying3
theorem acts_data : (Rows.laid_stele_policy_actions : DataW Unit) = .agg (acts.map fun z => .lit (.string z)) := by kernel_rfl
theorem gActs : Tryd.prog.globalNamed "stele/policy.actions" = some 0 := by kernel_rfl
theorem tActs : (Tryd.prog.globals[0]?).map (·.type) = some 70 := by kernel_rfl
theorem tab_of8 {W : World} (h : laidMet Tryd.prog laidP8 W) : Tab8 W := by
  obtain ⟨ps, ⟨g0, t0, cs0, f0, p0, q0, hg0, ht0, hv0, hd0, ⟨g1, t1, cs1, f1, p1, q1, hg1, ht1, hv1, hd1, _, _⟩, _⟩, _⟩ := h
  obtain rfl := Option.some.inj (gActs.symm.trans hg1)
  obtain rfl := Option.some.inj (tActs.symm.trans ht1)
  rw [acts_data] at hd1
  have hc := cells_of_texts Tryd.underlying70 Tryd.underlying9 (by kernel_rfl) (by kernel_rfl) hd1
  intro i hi
  have h1 := hc i hi
  have h2 := World.var?_cell gActs hv1 i
  rw [h2]
  simpa using h1
end Go.Proofs.YtihfpoclflppnaaDoor
