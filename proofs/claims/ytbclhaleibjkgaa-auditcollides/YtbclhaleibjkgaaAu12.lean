/- The statements' alive. -/
import Derived.Test.YtbclhaleibjkgaaAu11
namespace Go.Proofs.Ytbclhaleibjkgaa
open Go.RowKit

def alN : ByteArray := ⟨#[97, 110, 110]⟩
def alB : ByteArray := ⟨#[98, 111, 98]⟩
def al0 : ByteArray := ⟨#[]⟩
def alA : Rc := ⟨1, 0, alN, 7, al0, al0, 0, 0, [], []⟩
def alC : Rc := ⟨1, 0, alB, 7, al0, al0, 0, 0, [], []⟩
set_option maxRecDepth 100000 in
theorem al_ne : (digRc alC == digRc alA) = false := by decide +kernel
theorem al_yes : verN [alA] (digRc alA) = 0 := by
  unfold verN verL
  rw [if_pos]
  show (rightRc alA && decide (alA.seq = 0 + 1) && decide (digRc alA = digRc alA) && decide (alA.prev = [])) = true
  rw [decide_eq_true (p := digRc alA = digRc alA) rfl, Bool.and_true]
  decide
theorem al_no : verN [alC] (digRc alA) = 53 := by
  unfold verN verL
  rw [if_neg]
  show ¬ (rightRc alC && decide (alC.seq = 0 + 1) && decide (digRc alC = digRc alA) && decide (alC.prev = [])) = true
  rw [decide_eq_false (p := digRc alC = digRc alA) (fun e => by have := al_ne; rw [e] at this; simp at this)]
  simp
theorem alN14 {w : World} : Calls Try.prog 20 #[.slice none 0 0, .agg #[.int .u64 0, .int .u64 0, .string { data := #[97, 110, 110] }, .int .i64 7, .string { data := #[] }, .string { data := #[] }, .int .u64 0, .int .i64 0, .slice none 0 0, .slice none 0 0]] w fun e w' =>
    ∃ sa sc pa pc, e = .returned (.agg #[.int .u64 1, .int .u64 0, .string { data := #[97, 110, 110] }, .int .i64 7, .string { data := #[] }, .string { data := #[] }, .int .u64 0, .int .i64 0, .slice sa 0 sc, .slice pa 0 pc]) ∧ Hid (IsRec w' alA ⟨sa, sc, pa, pc⟩) ∧ Hid (Below w.heap.size w w') := by
  have h := codNext14 none 0 0 [] ⟨0, 0, alN, 7, al0, al0, 0, 0, [], []⟩ ⟨none, 0, none, 0⟩ w ⟨rfl, fun h => absurd h (Nat.lt_irrefl 0), fun x hx => by cases hx⟩ ⟨isB_none w, isB_none w, ⟨by decide, by decide, by decide, by decide, by decide, by decide, by decide⟩⟩ (fun x hx => by cases hx) (by decide) (Nat.zero_le _)
  refine Calls.mono h ?_
  rintro e w' ⟨⟨sa, sc, pa, pc⟩, he, hr, hb⟩
  exact ⟨sa, sc, pa, pc, he, hr, hb⟩
theorem one_rl14 {w : World} {X : Nat} {r : Rc} {q : RcA} (hk : Blk w X 26 (rcc r q)) (h : IsRec w r q) : IsRl w (some ⟨X, 0, none⟩) 1 [(r, q)] :=
  ⟨rfl, fun _ => ⟨X, 0, rfl, fun k x hx => by
    match k, hx with
    | 0, hx => obtain rfl := Option.some.inj hx; exact Blk.whole14 hk
    | k + 1, hx => cases hx⟩, fun x hx => by obtain rfl := List.mem_singleton.1 hx; exact h⟩
theorem alV14 {W : World} {X : Nat} {v : Value} {sa : Option Addr} {sc : Nat} {pa : Option Addr} {pc : Nat} (hk : Blk W X 26 [.int .u64 1, .int .u64 0, .string { data := #[97, 110, 110] }, .int .i64 7, .string { data := #[] }, .string { data := #[] }, .int .u64 0, .int .i64 0, .slice sa 0 sc, .slice pa 0 pc]) (h : IsRec W alA ⟨sa, sc, pa, pc⟩) (hv : IsV W v (digRc alA)) :
    Calls Try.prog 22 #[.slice (some ⟨X, 0, none⟩) 1 1, v] W fun e w' => e = .returned (.int .i64 0) ∧ Below W.heap.size W w' := by
  have := codVerify14 (some ⟨X, 0, none⟩) 1 1 [(alA, ⟨sa, sc, pa, pc⟩)] v (digRc alA) W (one_rl14 hk h) hv (fun x hx => by obtain rfl := List.mem_singleton.1 hx; show rcLen alA ≤ 20000; decide) (by omega)
  rw [show [(alA, (⟨sa, sc, pa, pc⟩ : RcA))].map Prod.fst = [alA] from rfl, al_yes] at this
  exact this
theorem alW14 {W : World} {X : Nat} {v : Value} {sa : Option Addr} {sc : Nat} {pa : Option Addr} {pc : Nat} (hk : Blk W X 26 [.int .u64 1, .int .u64 0, .string { data := #[98, 111, 98] }, .int .i64 7, .string { data := #[] }, .string { data := #[] }, .int .u64 0, .int .i64 0, .slice sa 0 sc, .slice pa 0 pc]) (h : IsRec W alA ⟨sa, sc, pa, pc⟩) (hv : IsV W v (digRc alA)) :
    Calls Try.prog 22 #[.slice (some ⟨X, 0, none⟩) 1 1, v] W fun e w' => e = .returned (.int .i64 53) ∧ Below W.heap.size W w' := by
  have := codVerify14 (some ⟨X, 0, none⟩) 1 1 [(alC, ⟨sa, sc, pa, pc⟩)] v (digRc alA) W (one_rl14 hk ⟨h.sum, h.prev, ⟨by decide, by decide, by decide, by decide, by decide, by decide, by decide⟩⟩) hv (fun x hx => by obtain rfl := List.mem_singleton.1 hx; show rcLen alC ≤ 20000; decide) (by omega)
  rw [show [(alC, (⟨sa, sc, pa, pc⟩ : RcA))].map Prod.fst = [alC] from rfl, al_no] at this
  exact this
theorem alD14 {W : World} {sa : Option Addr} {sc : Nat} {pa : Option Addr} {pc : Nat} (h : IsRec W alA ⟨sa, sc, pa, pc⟩) : Calls Try.prog 13 #[.agg #[.int .u64 1, .int .u64 0, .string { data := #[97, 110, 110] }, .int .i64 7, .string { data := #[] }, .string { data := #[] }, .int .u64 0, .int .i64 0, .slice sa 0 sc, .slice pa 0 pc]] W fun e w' => ∃ va vc, e = .returned (.slice va 32 vc) ∧ Hid (IsV w' (.slice va 32 vc) (digRc alA)) ∧ Hid (Below W.heap.size W w') := by
  refine Calls.mono (codDigest14 alA ⟨sa, sc, pa, pc⟩ W h (by decide)) ?_
  rintro e w' ⟨v, rfl, ho, hb⟩
  obtain ⟨va, vc, e, hi⟩ := ho.isB
  rw [digRc_len] at e hi
  subst e
  exact ⟨va, vc, rfl, hi.isV, hb⟩
attribute [local go_sem] undef
set_option maxRecDepth 20000 in
set_option maxHeartbeats 2000000 in
theorem lawAlive14 (w : World) : Calls Try.prog 17 #[] w fun e w' => e = .returned (.bool true) ∧ Below w.heap.size w w' := by
  go_enter Try.func17, Try.ntmps17
  go_wp2_with fail
  refine alN14.mono ?_
  rintro e y1 ⟨sa, sc, pa, pc, rfl, HR, HB⟩
  go_wp2_with fail
  have hb1 : Below y1.heap.size y1 ((y1.alloc (.cells #[.int .u64 1, .int .u64 0, .string { data := #[97, 110, 110] }, .int .i64 7, .string { data := #[] }, .string { data := #[] }, .int .u64 0, .int .i64 0, .slice sa 0 sc, .slice pa 0 pc] 26)).alloc (.cells #[.int .u64 1, .int .u64 0, .string { data := #[98, 111, 98] }, .int .i64 7, .string { data := #[] }, .string { data := #[] }, .int .u64 0, .int .i64 0, .slice sa 0 sc, .slice pa 0 pc] 26)) := ((Below.refl _ y1).alloc (Nat.le_refl _) _).alloc (by simp) _
  have HA1 := mkHid ((Blk.new y1 26 [.int .u64 1, .int .u64 0, .string { data := #[97, 110, 110] }, .int .i64 7, .string { data := #[] }, .string { data := #[] }, .int .u64 0, .int .i64 0, .slice sa 0 sc, .slice pa 0 pc]).alloc (.cells #[.int .u64 1, .int .u64 0, .string { data := #[98, 111, 98] }, .int .i64 7, .string { data := #[] }, .string { data := #[] }, .int .u64 0, .int .i64 0, .slice sa 0 sc, .slice pa 0 pc] 26))
  have HC1 := mkHid (Blk.newAt (y1.alloc (.cells #[.int .u64 1, .int .u64 0, .string { data := #[97, 110, 110] }, .int .i64 7, .string { data := #[] }, .string { data := #[] }, .int .u64 0, .int .i64 0, .slice sa 0 sc, .slice pa 0 pc] 26)) (y1.heap.size + 1) 26 _ [.int .u64 1, .int .u64 0, .string { data := #[98, 111, 98] }, .int .i64 7, .string { data := #[] }, .string { data := #[] }, .int .u64 0, .int .i64 0, .slice sa 0 sc, .slice pa 0 pc] (World.size_alloc _ _) rfl)
  have HR1 := mkHid (HR.out.below hb1)
  have HB1 := mkHid (HB.out.trans (hb1.mono HB.out.size))
  generalize y1.heap.size = P at *
  clear hb1 HR HB
  generalize World.alloc _ _ = Y at *
  refine (alD14 HR1.out).mono ?_
  rintro e y2 ⟨va, vc, rfl, HV2, HB2⟩
  have HA2 := mkHid (HA1.out.on HB2.out)
  have HC2 := mkHid (HC1.out.on HB2.out)
  have HR2 := mkHid (HR1.out.below HB2.out)
  have HB3 := mkHid (HB1.out.trans (HB2.out.mono HB1.out.size))
  clear HA1 HC1 HR1 HB1 HB2
  have c0 : y2.cell? ⟨P, 0, none⟩ = some (.int .u64 1) := HA2.out.cell 0
  have c1 : y2.cell? ⟨P, 1, none⟩ = some (.int .u64 0) := HA2.out.cell 1
  have c2 : y2.cell? ⟨P, 2, none⟩ = some (.string { data := #[97, 110, 110] }) := HA2.out.cell 2
  have c3 : y2.cell? ⟨P, 3, none⟩ = some (.int .i64 7) := HA2.out.cell 3
  have c4 : y2.cell? ⟨P, 4, none⟩ = some (.string { data := #[] }) := HA2.out.cell 4
  have c5 : y2.cell? ⟨P, 5, none⟩ = some (.string { data := #[] }) := HA2.out.cell 5
  have c6 : y2.cell? ⟨P, 6, none⟩ = some (.int .u64 0) := HA2.out.cell 6
  have c7 : y2.cell? ⟨P, 7, none⟩ = some (.int .i64 0) := HA2.out.cell 7
  have c8 : y2.cell? ⟨P, 8, none⟩ = some (.slice sa 0 sc) := HA2.out.cell 8
  have c9 : y2.cell? ⟨P, 9, none⟩ = some (.slice pa 0 pc) := HA2.out.cell 9
  go_wp2_with fail
  clear c0 c1 c2 c3 c4 c5 c6 c7 c8 c9
  have hb4 : Below y2.heap.size y2 (y2.alloc (.cells #[.int .u64 1, .int .u64 0, .string { data := #[97, 110, 110] }, .int .i64 7, .string { data := #[] }, .string { data := #[] }, .int .u64 0, .int .i64 0, .slice sa 0 sc, .slice pa 0 pc] 26)) := (Below.refl _ y2).alloc (Nat.le_refl _) _
  have HX4 := mkHid (Blk.new y2 26 [.int .u64 1, .int .u64 0, .string { data := #[97, 110, 110] }, .int .i64 7, .string { data := #[] }, .string { data := #[] }, .int .u64 0, .int .i64 0, .slice sa 0 sc, .slice pa 0 pc])
  have HC4 := mkHid (HC2.out.on hb4)
  have HR4 := mkHid (HR2.out.below hb4)
  have HV4 := mkHid (HV2.out.below hb4 rfl)
  have HB4 := mkHid (HB3.out.trans (hb4.mono HB3.out.size))
  clear hb4 HA2 HC2 HR2 HV2 HB3
  generalize y2.alloc (.cells #[.int .u64 1, .int .u64 0, .string { data := #[97, 110, 110] }, .int .i64 7, .string { data := #[] }, .string { data := #[] }, .int .u64 0, .int .i64 0, .slice sa 0 sc, .slice pa 0 pc] 26) = Y4 at *
  generalize y2.heap.size = X at *
  refine (alV14 HX4.out HR4.out HV4.out).mono ?_
  rintro e y5 ⟨rfl, hb5⟩
  have HC5 := mkHid (HC4.out.on hb5)
  have HR5 := mkHid (HR4.out.below hb5)
  have HV5 := mkHid (HV4.out.below hb5 rfl)
  have HB5 := mkHid (HB4.out.trans (hb5.mono HB4.out.size))
  clear hb5 HX4 HC4 HR4 HV4 HB4
  have c0 : y5.cell? ⟨P + 1, 0, none⟩ = some (.int .u64 1) := HC5.out.cell 0
  have c1 : y5.cell? ⟨P + 1, 1, none⟩ = some (.int .u64 0) := HC5.out.cell 1
  have c2 : y5.cell? ⟨P + 1, 2, none⟩ = some (.string { data := #[98, 111, 98] }) := HC5.out.cell 2
  have c3 : y5.cell? ⟨P + 1, 3, none⟩ = some (.int .i64 7) := HC5.out.cell 3
  have c4 : y5.cell? ⟨P + 1, 4, none⟩ = some (.string { data := #[] }) := HC5.out.cell 4
  have c5 : y5.cell? ⟨P + 1, 5, none⟩ = some (.string { data := #[] }) := HC5.out.cell 5
  have c6 : y5.cell? ⟨P + 1, 6, none⟩ = some (.int .u64 0) := HC5.out.cell 6
  have c7 : y5.cell? ⟨P + 1, 7, none⟩ = some (.int .i64 0) := HC5.out.cell 7
  have c8 : y5.cell? ⟨P + 1, 8, none⟩ = some (.slice sa 0 sc) := HC5.out.cell 8
  have c9 : y5.cell? ⟨P + 1, 9, none⟩ = some (.slice pa 0 pc) := HC5.out.cell 9
  go_wp2_with fail
  clear c0 c1 c2 c3 c4 c5 c6 c7 c8 c9
  have hb6 : Below y5.heap.size y5 (y5.alloc (.cells #[.int .u64 1, .int .u64 0, .string { data := #[98, 111, 98] }, .int .i64 7, .string { data := #[] }, .string { data := #[] }, .int .u64 0, .int .i64 0, .slice sa 0 sc, .slice pa 0 pc] 26)) := (Below.refl _ y5).alloc (Nat.le_refl _) _
  have HX6 := mkHid (Blk.new y5 26 [.int .u64 1, .int .u64 0, .string { data := #[98, 111, 98] }, .int .i64 7, .string { data := #[] }, .string { data := #[] }, .int .u64 0, .int .i64 0, .slice sa 0 sc, .slice pa 0 pc])
  have HR6 := mkHid (HR5.out.below hb6)
  have HV6 := mkHid (HV5.out.below hb6 rfl)
  have HB6 := mkHid (HB5.out.trans (hb6.mono HB5.out.size))
  clear hb6 HC5 HR5 HV5 HB5
  generalize y5.alloc (.cells #[.int .u64 1, .int .u64 0, .string { data := #[98, 111, 98] }, .int .i64 7, .string { data := #[] }, .string { data := #[] }, .int .u64 0, .int .i64 0, .slice sa 0 sc, .slice pa 0 pc] 26) = Y6 at *
  generalize y5.heap.size = X5 at *
  refine (alW14 HX6.out HR6.out HV6.out).mono ?_
  rintro e y7 ⟨rfl, hb7⟩
  have HB7 := mkHid (HB6.out.trans (hb7.mono HB6.out.size))
  clear hb7 HX6 HR6 HV6 HB6
  go_wp2_with fail
  go_ret
  exact ⟨rfl, HB7.out⟩
end Go.Proofs.Ytbclhaleibjkgaa
