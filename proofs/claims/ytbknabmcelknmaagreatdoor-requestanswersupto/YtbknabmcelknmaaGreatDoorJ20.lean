/- request: a target's parts. The library's contracts at this dump, as the guide's tool lays them. What request.Get answers. -/
import Derived.Test.YtbknabmcelknmaaGreatDoorR5d
import Derived.Test.YtbknabmcelknmaaGreatDoorCodQuery
import Derived.Shelf.SlGeneric
import Derived.Shelf.SlicesQ.IndexFunc
import Derived.Test.YtbknabmcelknmaaGreatDoorProg
import Derived.Test.YtbknabmcelknmaaGreatDoorR5b
import Derived.Test.YtbknabmcelknmaaGreatDoorJ18
namespace Go.Proofs.YtbknabmcelknmaaGreatDoor
open Go.RowKit

theorem pathC_or (l : List UInt8) : pathC l = 0 ∨ pathC l = 13 := by unfold pathC; split <;> simp
theorem queryC_or (l : List UInt8) : queryC l = 0 ∨ queryC l = 13 := by unfold queryC; split <;> simp

set_option maxRecDepth 20000 in
set_option maxHeartbeats 2000000 in
theorem codParted (t : List UInt8) (w : World) (ht : t.length ≤ 1000000) :
    Calls Tryz.prog 48 #[.string (str t)] w fun x w' => x = (if partC t = true then .returned (.tuple #[.string (str (headL 63 t)), .string (str (tailL 63 t))]) else refused 13) ∧ Below w.heap.size w w' := by
  have HC := fun w => codCut t 63 w (by omega)
  have l1 := headL_length 63 t
  have l2 := tailL_length 63 t
  have HP := fun w => codPath (headL 63 t) w (by omega)
  have HQ := fun w => codQuery (tailL 63 t) w (by omega)
  have HF : partC t = (decide (pathC (headL 63 t) = 0) && decide (queryC (tailL 63 t) = 0)) := rfl
  unfold PathR at HP
  unfold QOut at HQ
  have hp := pathC_or (headL 63 t)
  have hq := queryC_or (tailL 63 t)
  clear l1 l2 ht
  generalize queryP (tailL 63 t) = qp at *
  generalize pathC (headL 63 t) = pc at *
  generalize queryC (tailL 63 t) = qc at *
  generalize str (pathB (headL 63 t)) = pb at *
  generalize str (pathK (headL 63 t)) = pk at *
  generalize str (headL 63 t) = s1 at *
  generalize str (tailL 63 t) = s2 at *
  generalize hasL 63 t = b0 at *
  generalize partC t = pt at *
  generalize str t = s at *
  rcases hp with rfl | rfl
  · rcases hq with rfl | rfl
    · have : pt = true := HF
      subst this
      simp only [if_true]
      clear HF
      have HN := needYes 13
      go_enter Tryz.func48, Tryz.ntmps48
      go_wp2_with (first | (go_at_call 65; refine (HC _).mono ?_; rintro x w1 ⟨rfl, hb1⟩) | (go_at_call 69; refine (HP _).mono ?_; rintro x w2 ⟨rfl, hb2⟩) | (go_at_call 70; refine (HQ _).mono ?_; rintro x w3 ⟨⟨qa, qn, qc, rfl, hq⟩, hb3⟩) | (go_at_call 67; refine (codNeed _ 13 _).mono ?_; rintro x w9 ⟨hx, hww⟩; rw [hww]; clear hww w9; first | (obtain rfl : x = .returned (.tuple #[]) := hx) | (obtain rfl : x = .panicked [{ v := .iface 26 (.int .i64 13), recovered := false }] := hx)))
      go_ret2
      exact ⟨rfl, (hb1.trans (hb2.mono hb1.size)).trans (hb3.mono (Nat.le_trans hb1.size hb2.size))⟩
    · have : pt = false := HF
      subst this
      simp only [Bool.false_eq_true, if_false]
      unfold refused
      clear HF
      have HY := needYes 13
      have HN := needNo 13
      go_enter Tryz.func48, Tryz.ntmps48
      go_wp2_with (first | (go_at_call 65; refine (HC _).mono ?_; rintro x w1 ⟨rfl, hb1⟩) | (go_at_call 69; refine (HP _).mono ?_; rintro x w2 ⟨rfl, hb2⟩) | (go_at_call 70; refine (HQ _).mono ?_; rintro x w3 ⟨⟨qa, qn, qc, rfl, hq⟩, hb3⟩) | (go_at_call 67; refine (codNeed _ 13 _).mono ?_; rintro x w9 ⟨hx, hww⟩; rw [hww]; clear hww w9; first | (obtain rfl : x = .returned (.tuple #[]) := hx) | (obtain rfl : x = .panicked [{ v := .iface 26 (.int .i64 13), recovered := false }] := hx)))
      refine bp_panic ?_
      exact ⟨rfl, (hb1.trans (hb2.mono hb1.size)).trans (hb3.mono (Nat.le_trans hb1.size hb2.size))⟩
  · have : pt = false := HF
    subst this
    simp only [Bool.false_eq_true, if_false]
    unfold refused
    clear HF hq
    have HN := needNo 13
    go_enter Tryz.func48, Tryz.ntmps48
    go_wp2_with (first | (go_at_call 65; refine (HC _).mono ?_; rintro x w1 ⟨rfl, hb1⟩) | (go_at_call 69; refine (HP _).mono ?_; rintro x w2 ⟨rfl, hb2⟩) | (go_at_call 70; refine (HQ _).mono ?_; rintro x w3 ⟨⟨qa, qn, qc, rfl, hq⟩, hb3⟩) | (go_at_call 67; refine (codNeed _ 13 _).mono ?_; rintro x w9 ⟨hx, hww⟩; rw [hww]; clear hww w9; first | (obtain rfl : x = .returned (.tuple #[]) := hx) | (obtain rfl : x = .panicked [{ v := .iface 26 (.int .i64 13), recovered := false }] := hx)))
    refine bp_panic ?_
    exact ⟨rfl, hb1.trans (hb2.mono hb1.size)⟩
end Go.Proofs.YtbknabmcelknmaaGreatDoor
namespace Go.Proofs
open Go.Shelf
def Tryz.layIdxH_ren : Go.Shelf.Ren := ⟨fun | 6 => 38 | n => n, fun | 22 => 23 | 23 => 73 | 25 => 78 | 3 => 3 | 0 => 0 | 4 => 4 | n => n, fun | n => n⟩
theorem Tryz.layIdxH : Go.Proofs.SlLaysH0.n6 Tryz.prog Tryz.layIdxH_ren := {
  mixed := by kernel_rfl
  f6 := ⟨Tryz.f38.name, by decide, Tryz.func38.trans (congrArg some (by kernel_rfl))⟩
  t0 := Tryz.underlying0
  a0 := Tryz.isAgg0
  z0 := Tryz.sizeOf0
  v0 := Tryz.zeroValue0
  t3 := Tryz.underlying3
  a3 := Tryz.isAgg3
  z3 := Tryz.sizeOf3
  v3 := Tryz.zeroValue3
  t4 := Tryz.underlying4
  a4 := Tryz.isAgg4
  z4 := Tryz.sizeOf4
  v4 := Tryz.zeroValue4
  t22 := Tryz.underlying23
  a22 := Tryz.isAgg23
  z22 := Tryz.sizeOf23
  v22 := Tryz.zeroValue23
  t25 := Tryz.underlying78
  a25 := Tryz.isAgg78
  z25 := Tryz.sizeOf78
  v25 := Tryz.zeroValue78 }
end Go.Proofs
namespace Go.Proofs.YtbknabmcelknmaaGreatDoor
open Go.RowKit Go.Shelf Go.Lib

/-- the closure of Find -/
theorem codGet1 (nm : List UInt8) (B : Nat) (w : World) (hB : B < w.heap.size) (hcell : w.cell? ⟨B, 0, none⟩ = some (.string (str nm))) :
    PredBelow Tryz.prog 39 #[.pointer (some ⟨B, 0, none⟩)] (fun x : Pr => .agg (prV x).toArray) (isNm nm) w := fun W x hb => by
  have hc : W.cell? ⟨B, 0, none⟩ = some (.string (str nm)) := (hb.cell (p := ⟨B, 0, none⟩) hB).trans hcell
  have hBW : B < W.heap.size := Nat.lt_of_lt_of_le hB hb.size
  have hne : B ≠ W.heap.size := by omega
  have hq : ((str x.1).toList == (str nm).toList) = isNm nm x := by rw [str_beq]; rfl
  show Calls Tryz.prog 39 #[.agg #[.string (str x.1), .string (str x.2)], .pointer (some ⟨B, 0, none⟩)] W _
  generalize isNm nm x = r at *
  generalize str x.1 = s1 at *
  generalize str x.2 = s2 at *
  generalize str nm = s3 at *
  go_enter Tryz.func39, Tryz.ntmps39
  go_wp2
  go_ret
  exact ⟨rfl, hb.alloc hb.size _⟩

set_option maxHeartbeats 1000000 in
theorem idxH_empty (a : Option Addr) (cap : Nat) (fv : Value) (w : World) :
    Calls Tryz.prog 38 #[.slice a 0 cap, fv] w fun e w' => e = .returned (.int .i64 (-1)) ∧ w' = w := by
  go_enter Tryz.func38, Tryz.ntmps38
  go_wp2
  refine wp_loop_rounds 1 ?_
  rw [rounds_succ]
  go_wp2
  go_ret
  exact ⟨rfl, rfl⟩

set_option maxHeartbeats 1000000 in
theorem codGet (m p q bd : Value) (a : Option Addr) (n cap : Nat) (l : List Pr) (nm : List UInt8) (w : World) (h : IsP w a n cap l) :
    Calls Tryz.prog 18 #[.agg #[m, p, q, .slice a n cap, bd], .string (str nm)] w fun e w' => e = .returned (.tuple #[.string (str ((findL l nm).getD [])), .bool (findL l nm).isSome]) ∧ Below w.heap.size w w' := by
  have T1 : ∀ s : Value, Below w.heap.size w ((w.alloc (.cells #[m, p, q, s, bd] 25)).alloc (.cells #[.string (str nm)] 9)) := fun s => ((Below.refl _ w).alloc (Nat.le_refl _) _).alloc (by simp) _
  by_cases h0 : n = 0
  · subst h0
    have hl : l = [] := List.eq_nil_of_length_eq_zero h.len_eq
    subst hl
    clear h
    have e1 : str ((findL [] nm).getD []) = ⟨#[]⟩ := rfl
    have e2 : (findL [] nm).isSome = false := rfl
    rw [e1, e2]
    generalize str nm = s at *
    clear e1 e2
    have HI := idxH_empty a cap
    go_enter Tryz.func18, Tryz.ntmps18
    go_wp2_with (go_at_call 38; refine (HI _ _).mono ?_; rintro e w' ⟨rfl, hww⟩; rw [hww]; clear hww w')
    go_ret2
    exact ⟨rfl, T1 _⟩
  · obtain ⟨b, off, rfl, hc⟩ := h.cells (by omega)
    have hm : n ≤ 9223372036854775807 := by have := h.le; have := h.max; unfold maxLen at this; omega
    have hlen := h.len_eq
    have hb : b < w.heap.size := cell_lt (hc 0 (by omega)).1
    have eg : ∀ args w, (callFunc 39 args).run Tryz.prog w = .ok (.enter 39 args) w := enters_of Tryz.func39 (by kernel_rfl) rfl
    have hcon := AnyQ.slices_IndexFunc Tryz.layIdxH 2 Tryz.isAgg73 Tryz.sizeOf73 prV (fun _ => rfl) (isNm nm) 39 #[.pointer (some ⟨w.heap.size + 1, 0, none⟩)] eg b off n cap l ((w.alloc (.cells #[m, p, q, .slice (some ⟨b, off, none⟩) n cap, bd] 25)).alloc (.cells #[.string (str nm)] 9))
      (codGet1 nm (w.heap.size + 1) _ (by simp) (by simp)) (by omega) hm (by simp; omega) (fun j hj i v hi => by
        refine Lib.cell?_alloc_some _ (Lib.cell?_alloc_some _ ?_)
        have h1 := hc j (by omega)
        rw [bang_nthP] at hi
        match i, hi with
        | 0, hi => simp [prV] at hi; rw [← hi]; exact h1.1
        | 1, hi => simp [prV] at hi; rw [← hi]; exact h1.2
        | i + 2, hi => simp [prV] at hi)
    change Calls Tryz.prog 38 _ _ _ at hcon
    rw [List.take_of_length_le (by omega)] at hcon
    have HT : ∀ w', Below ((w.alloc (.cells #[m, p, q, .slice (some ⟨b, off, none⟩) n cap, bd] 25)).alloc (.cells #[.string (str nm)] 9)).heap.size ((w.alloc (.cells #[m, p, q, .slice (some ⟨b, off, none⟩) n cap, bd] 25)).alloc (.cells #[.string (str nm)] 9)) w' → Below w.heap.size w w' := fun w' hb' => (T1 _).trans (hb'.mono (by simp; omega))
    have HR : Hid (∀ w', Below ((w.alloc (.cells #[m, p, q, .slice (some ⟨b, off, none⟩) n cap, bd] 25)).alloc (.cells #[.string (str nm)] 9)).heap.size ((w.alloc (.cells #[m, p, q, .slice (some ⟨b, off, none⟩) n cap, bd] 25)).alloc (.cells #[.string (str nm)] 9)) w' → w'.cell? ⟨w.heap.size, 3, none⟩ = some (.slice (some ⟨b, off, none⟩) n cap)) := fun w' hb' => (hb'.cell (p := ⟨w.heap.size, 3, none⟩) (by simp; omega)).trans (by simp [go_sem])
    rcases find_cases l nm with ⟨h1, h2⟩ | ⟨k, hk, h1, h2⟩
    · rw [h1] at hcon
      rw [h2]
      clear hc h hlen h1 h2 eg T1
      change Calls _ _ _ _ fun e w' => e = .returned (.tuple #[.string ⟨#[]⟩, .bool false]) ∧ _
      generalize str nm = s at *
      go_enter Tryz.func18, Tryz.ntmps18
      go_wp2_with (go_at_call 38; refine hcon.mono ?_; rintro e w' ⟨rfl, hb'⟩)
      go_ret2
      exact ⟨rfl, HT _ hb'⟩
    · rw [h1] at hcon
      rw [h2]
      have hk' : k < n := by omega
      have hkz : (k : Int) < (n : Int) := by omega
      have hk0 : (0 : Int) ≤ (k : Int) := by omega
      have hcv : Hid (∀ w', Below w.heap.size w w' → w'.cell? ⟨b, off + k * 2 + 1, none⟩ = some (.string (str (nthP l k).2))) := fun w' hb' => (hb'.cell (p := ⟨b, off + k * 2 + 1, none⟩) hb).trans (hc k hk').2
      clear hc h hlen h1 h2 eg T1
      change Calls _ _ _ _ fun e w' => e = .returned (.tuple #[.string (str (nthP l k).2), .bool true]) ∧ _
      generalize str (nthP l k).2 = s2 at *
      generalize str nm = s at *
      go_enter Tryz.func18, Tryz.ntmps18
      go_wp2_with (go_at_call 38; refine hcon.mono ?_; rintro e w' ⟨rfl, hb'⟩; have hcell := hcv.out _ (HT _ hb'); have hrc := HR.out _ hb')
      go_ret2
      exact ⟨rfl, HT _ hb'⟩
end Go.Proofs.YtbknabmcelknmaaGreatDoor
