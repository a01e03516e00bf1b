/- The library's contracts at this dump, as the guide's tool lays them. What uri.Find answers. The library's contracts at this dump, as the guide's tool lays them. What request.Get answers. The library's contracts at this dump, as the guide's tool lays them. -/
import Derived.Shelf.SlGeneric
import Derived.Shelf.SlicesQ.IndexFunc
import Derived.Test.YtgjmaeodgcigdaaGreatDoorProg
import Derived.Test.YtgjmaeodgcigdaaGreatDoorJ1
import Derived.Lib.SliceRun
import Derived.Test.YtgjmaeodgcigdaaGreatDoorJ6
import Derived.Shelf.SlSortCmp.NoneTotal
namespace Go.Proofs
open Go.Shelf
def Tryz.layIdx_ren : Go.Shelf.Ren := ⟨fun | 6 => 125 | n => n, fun | 22 => 71 | 23 => 122 | 25 => 170 | 3 => 3 | 0 => 0 | 4 => 4 | n => n, fun | n => n⟩
theorem Tryz.layIdx : Go.Proofs.SlLaysH0.n6 Tryz.prog Tryz.layIdx_ren := {
  mixed := by kernel_rfl
  f6 := ⟨Tryz.f125.name, by decide, Tryz.func125.trans (congrArg some (by kernel_rfl))⟩
  t0 := Tryz.underlying0
  a0 := Tryz.isAgg0
  z0 := Tryz.sizeOf0
  v0 := Tryz.zeroValue0
  t3 := Tryz.underlying3
  a3 := Tryz.isAgg3
  z3 := Tryz.sizeOf3
  v3 := Tryz.zeroValue3
  t4 := Tryz.underlying4
  a4 := Tryz.isAgg4
  z4 := Tryz.sizeOf4
  v4 := Tryz.zeroValue4
  t22 := Tryz.underlying71
  a22 := Tryz.isAgg71
  z22 := Tryz.sizeOf71
  v22 := Tryz.zeroValue71
  t25 := Tryz.underlying170
  a25 := Tryz.isAgg170
  z25 := Tryz.sizeOf170
  v25 := Tryz.zeroValue170 }
end Go.Proofs
namespace Go.Proofs.YtgjmaeodgcigdaaGreatDoor
open Go.RowKit Go.Shelf Go.Lib

/-- a pair's two cells -/
def prV (p : Pr) : List Value := [.string (str p.1), .string (str p.2)]
def isNm (nm : List UInt8) (p : Pr) : Bool := p.1 == nm

theorem find_cases (l : List Pr) (nm : List UInt8) :
    (Lib.idxBy (fun _ y => isNm nm y) l default = -1 ∧ findL l nm = none) ∨
    ∃ k : Nat, k < l.length ∧ Lib.idxBy (fun _ y => isNm nm y) l default = (k : Int) ∧ findL l nm = some (nthP l k).2 := by
  have gen : ∀ (l : List Pr) (i : Nat), (Lib.idxByFrom (fun _ y => isNm nm y) default l i = -1 ∧ findL l nm = none) ∨
    ∃ k : Nat, k < l.length ∧ Lib.idxByFrom (fun _ y => isNm nm y) default l i = ((i + k : Nat) : Int) ∧ findL l nm = some (nthP l k).2 := by
    intro l
    induction l with
    | nil => intro i; exact .inl ⟨rfl, rfl⟩
    | cons p l ih =>
      intro i
      by_cases h : p.1 = nm
      · refine .inr ⟨0, by simp, ?_, ?_⟩
        · simp [Lib.idxByFrom, isNm, h]
        · unfold findL; rw [List.find?_cons_of_pos (by simpa using h)]; rfl
      · have e1 : Lib.idxByFrom (fun _ y => isNm nm y) default (p :: l) i = Lib.idxByFrom (fun _ y => isNm nm y) default l (i + 1) := by
          rw [Lib.idxByFrom]; simp [isNm, h]
        have e2 : findL (p :: l) nm = findL l nm := by unfold findL; rw [List.find?_cons_of_neg (by simpa using h)]
        rw [e1, e2]
        rcases ih (i + 1) with ⟨h1, h2⟩ | ⟨k, hk, h1, h2⟩
        · exact .inl ⟨h1, h2⟩
        · exact .inr ⟨k + 1, by simp; omega, by rw [h1]; congr 1; omega, h2⟩
  have := gen l 0
  simpa [Lib.idxBy] using this

/-- the closure of Find -/
theorem codFind1 (nm : List UInt8) (B : Nat) (w : World) (hB : B < w.heap.size) (hcell : w.cell? ⟨B, 0, none⟩ = some (.string (str nm))) :
    PredBelow Tryz.prog 126 #[.pointer (some ⟨B, 0, none⟩)] (fun x : Pr => .agg (prV x).toArray) (isNm nm) w := fun W x hb => by
  have hc : W.cell? ⟨B, 0, none⟩ = some (.string (str nm)) := (hb.cell (p := ⟨B, 0, none⟩) hB).trans hcell
  have hBW : B < W.heap.size := Nat.lt_of_lt_of_le hB hb.size
  have hne : B ≠ W.heap.size := by omega
  have hq : ((str x.1).toList == (str nm).toList) = isNm nm x := by rw [str_beq]; rfl
  show Calls Tryz.prog 126 #[.agg #[.string (str x.1), .string (str x.2)], .pointer (some ⟨B, 0, none⟩)] W _
  generalize isNm nm x = r at *
  generalize str x.1 = s1 at *
  generalize str x.2 = s2 at *
  generalize str nm = s3 at *
  go_enter Tryz.func126, Tryz.ntmps126
  go_wp2
  go_ret
  exact ⟨rfl, hb.alloc hb.size _⟩

set_option maxHeartbeats 1000000 in
theorem idx_empty (a : Option Addr) (cap : Nat) (fv : Value) (w : World) :
    Calls Tryz.prog 125 #[.slice a 0 cap, fv] w fun e w' => e = .returned (.int .i64 (-1)) ∧ w' = w := by
  go_enter Tryz.func125, Tryz.ntmps125
  go_wp2
  refine wp_loop_rounds 1 ?_
  rw [rounds_succ]
  go_wp2
  go_ret
  exact ⟨rfl, rfl⟩

theorem bang_nthP (l : List Pr) (j : Nat) : l[j]! = nthP l j := by
  unfold nthP
  rw [List.getElem!_eq_getElem?_getD, List.getD_eq_getElem?_getD]; rfl

set_option maxHeartbeats 1000000 in
theorem codFind (a : Option Addr) (n cap : Nat) (l : List Pr) (nm : List UInt8) (w : World) (h : IsP w a n cap l) :
    Calls Tryz.prog 81 #[.slice a n cap, .string (str nm)] w fun e w' => e = .returned (.tuple #[.string (str ((findL l nm).getD [])), .bool (findL l nm).isSome]) ∧ Below w.heap.size w w' := by
  have T1 : Below w.heap.size w (w.alloc (.cells #[.string (str nm)] 9)) := (Below.refl _ w).alloc (Nat.le_refl _) _
  by_cases h0 : n = 0
  · subst h0
    have hl : l = [] := List.eq_nil_of_length_eq_zero h.len_eq
    subst hl
    clear h
    have e1 : str ((findL [] nm).getD []) = ⟨#[]⟩ := rfl
    have e2 : (findL [] nm).isSome = false := rfl
    rw [e1, e2]
    generalize str nm = s at *
    clear e1 e2
    have HI := idx_empty a cap
    go_enter Tryz.func81, Tryz.ntmps81
    go_wp2_with (go_at_call 125; refine (HI _ _).mono ?_; rintro e w' ⟨rfl, hww⟩; rw [hww]; clear hww w')
    go_ret2
    exact ⟨rfl, T1⟩
  · obtain ⟨b, off, rfl, hc⟩ := h.cells (by omega)
    have hm : n ≤ 9223372036854775807 := by have := h.le; have := h.max; unfold maxLen at this; omega
    have hlen := h.len_eq
    have hb : b < w.heap.size := cell_lt (hc 0 (by omega)).1
    have eg : ∀ args w, (callFunc 126 args).run Tryz.prog w = .ok (.enter 126 args) w := enters_of Tryz.func126 (by kernel_rfl) rfl
    have hcon := AnyQ.slices_IndexFunc Tryz.layIdx 2 Tryz.isAgg122 Tryz.sizeOf122 prV (fun _ => rfl) (isNm nm) 126 #[.pointer (some ⟨w.heap.size, 0, none⟩)] eg b off n cap l (w.alloc (.cells #[.string (str nm)] 9))
      (codFind1 nm w.heap.size _ (by simp) (by simp)) (by omega) hm (by simp; omega) (fun j hj i v hi => by
        refine Lib.cell?_alloc_some _ ?_
        have h1 := hc j (by omega)
        rw [bang_nthP] at hi
        match i, hi with
        | 0, hi => simp [prV] at hi; rw [← hi]; exact h1.1
        | 1, hi => simp [prV] at hi; rw [← hi]; exact h1.2
        | i + 2, hi => simp [prV] at hi)
    change Calls Tryz.prog 125 _ _ _ at hcon
    rw [List.take_of_length_le (by omega)] at hcon
    have HT : ∀ w', Below (w.alloc (.cells #[.string (str nm)] 9)).heap.size (w.alloc (.cells #[.string (str nm)] 9)) w' → Below w.heap.size w w' := fun w' hb' => T1.trans (hb'.mono (by simp))
    rcases find_cases l nm with ⟨h1, h2⟩ | ⟨k, hk, h1, h2⟩
    · rw [h1] at hcon
      rw [h2]
      clear hc h hlen h1 h2 eg T1
      change Calls _ _ _ _ fun e w' => e = .returned (.tuple #[.string ⟨#[]⟩, .bool false]) ∧ _
      generalize str nm = s at *
      go_enter Tryz.func81, Tryz.ntmps81
      go_wp2_with (go_at_call 125; refine hcon.mono ?_; rintro e w' ⟨rfl, hb'⟩)
      go_ret2
      exact ⟨rfl, HT _ hb'⟩
    · rw [h1] at hcon
      rw [h2]
      have hk' : k < n := by omega
      have hkz : (k : Int) < (n : Int) := by omega
      have hk0 : (0 : Int) ≤ (k : Int) := by omega
      have hcv : Hid (∀ w', Below w.heap.size w w' → w'.cell? ⟨b, off + k * 2 + 1, none⟩ = some (.string (str (nthP l k).2))) := fun w' hb' => (hb'.cell (p := ⟨b, off + k * 2 + 1, none⟩) hb).trans (hc k hk').2
      clear hc h hlen h1 h2 eg T1
      change Calls _ _ _ _ fun e w' => e = .returned (.tuple #[.string (str (nthP l k).2), .bool true]) ∧ _
      generalize str (nthP l k).2 = s2 at *
      generalize str nm = s at *
      go_enter Tryz.func81, Tryz.ntmps81
      go_wp2_with (go_at_call 125; refine hcon.mono ?_; rintro e w' ⟨rfl, hb'⟩; have hcell := hcv.out _ (HT _ hb'))
      go_ret2
      exact ⟨rfl, HT _ hb'⟩
end Go.Proofs.YtgjmaeodgcigdaaGreatDoor
namespace Go.Proofs
open Go.Shelf
def Tryz.layIdxH_ren : Go.Shelf.Ren := ⟨fun | 6 => 120 | n => n, fun | 22 => 32 | 23 => 68 | 25 => 165 | 3 => 3 | 0 => 0 | 4 => 4 | n => n, fun | n => n⟩
theorem Tryz.layIdxH : Go.Proofs.SlLaysH0.n6 Tryz.prog Tryz.layIdxH_ren := {
  mixed := by kernel_rfl
  f6 := ⟨Tryz.f120.name, by decide, Tryz.func120.trans (congrArg some (by kernel_rfl))⟩
  t0 := Tryz.underlying0
  a0 := Tryz.isAgg0
  z0 := Tryz.sizeOf0
  v0 := Tryz.zeroValue0
  t3 := Tryz.underlying3
  a3 := Tryz.isAgg3
  z3 := Tryz.sizeOf3
  v3 := Tryz.zeroValue3
  t4 := Tryz.underlying4
  a4 := Tryz.isAgg4
  z4 := Tryz.sizeOf4
  v4 := Tryz.zeroValue4
  t22 := Tryz.underlying32
  a22 := Tryz.isAgg32
  z22 := Tryz.sizeOf32
  v22 := Tryz.zeroValue32
  t25 := Tryz.underlying165
  a25 := Tryz.isAgg165
  z25 := Tryz.sizeOf165
  v25 := Tryz.zeroValue165 }
end Go.Proofs
namespace Go.Proofs.YtgjmaeodgcigdaaGreatDoor
open Go.RowKit Go.Shelf Go.Lib

/-- the closure of Find -/
theorem codGet1 (nm : List UInt8) (B : Nat) (w : World) (hB : B < w.heap.size) (hcell : w.cell? ⟨B, 0, none⟩ = some (.string (str nm))) :
    PredBelow Tryz.prog 121 #[.pointer (some ⟨B, 0, none⟩)] (fun x : Pr => .agg (prV x).toArray) (isNm nm) w := fun W x hb => by
  have hc : W.cell? ⟨B, 0, none⟩ = some (.string (str nm)) := (hb.cell (p := ⟨B, 0, none⟩) hB).trans hcell
  have hBW : B < W.heap.size := Nat.lt_of_lt_of_le hB hb.size
  have hne : B ≠ W.heap.size := by omega
  have hq : ((str x.1).toList == (str nm).toList) = isNm nm x := by rw [str_beq]; rfl
  show Calls Tryz.prog 121 #[.agg #[.string (str x.1), .string (str x.2)], .pointer (some ⟨B, 0, none⟩)] W _
  generalize isNm nm x = r at *
  generalize str x.1 = s1 at *
  generalize str x.2 = s2 at *
  generalize str nm = s3 at *
  go_enter Tryz.func121, Tryz.ntmps121
  go_wp2
  go_ret
  exact ⟨rfl, hb.alloc hb.size _⟩

set_option maxHeartbeats 1000000 in
theorem idxH_empty (a : Option Addr) (cap : Nat) (fv : Value) (w : World) :
    Calls Tryz.prog 120 #[.slice a 0 cap, fv] w fun e w' => e = .returned (.int .i64 (-1)) ∧ w' = w := by
  go_enter Tryz.func120, Tryz.ntmps120
  go_wp2
  refine wp_loop_rounds 1 ?_
  rw [rounds_succ]
  go_wp2
  go_ret
  exact ⟨rfl, rfl⟩

set_option maxHeartbeats 1000000 in
theorem codGet (m p q bd : Value) (a : Option Addr) (n cap : Nat) (l : List Pr) (nm : List UInt8) (w : World) (h : IsP w a n cap l) :
    Calls Tryz.prog 75 #[.agg #[m, p, q, .slice a n cap, bd], .string (str nm)] w fun e w' => e = .returned (.tuple #[.string (str ((findL l nm).getD [])), .bool (findL l nm).isSome]) ∧ Below w.heap.size w w' := by
  have T1 : ∀ s : Value, Below w.heap.size w ((w.alloc (.cells #[m, p, q, s, bd] 34)).alloc (.cells #[.string (str nm)] 9)) := fun s => ((Below.refl _ w).alloc (Nat.le_refl _) _).alloc (by simp) _
  by_cases h0 : n = 0
  · subst h0
    have hl : l = [] := List.eq_nil_of_length_eq_zero h.len_eq
    subst hl
    clear h
    have e1 : str ((findL [] nm).getD []) = ⟨#[]⟩ := rfl
    have e2 : (findL [] nm).isSome = false := rfl
    rw [e1, e2]
    generalize str nm = s at *
    clear e1 e2
    have HI := idxH_empty a cap
    go_enter Tryz.func75, Tryz.ntmps75
    go_wp2_with (go_at_call 120; refine (HI _ _).mono ?_; rintro e w' ⟨rfl, hww⟩; rw [hww]; clear hww w')
    go_ret2
    exact ⟨rfl, T1 _⟩
  · obtain ⟨b, off, rfl, hc⟩ := h.cells (by omega)
    have hm : n ≤ 9223372036854775807 := by have := h.le; have := h.max; unfold maxLen at this; omega
    have hlen := h.len_eq
    have hb : b < w.heap.size := cell_lt (hc 0 (by omega)).1
    have eg : ∀ args w, (callFunc 121 args).run Tryz.prog w = .ok (.enter 121 args) w := enters_of Tryz.func121 (by kernel_rfl) rfl
    have hcon := AnyQ.slices_IndexFunc Tryz.layIdxH 2 Tryz.isAgg68 Tryz.sizeOf68 prV (fun _ => rfl) (isNm nm) 121 #[.pointer (some ⟨w.heap.size + 1, 0, none⟩)] eg b off n cap l ((w.alloc (.cells #[m, p, q, .slice (some ⟨b, off, none⟩) n cap, bd] 34)).alloc (.cells #[.string (str nm)] 9))
      (codGet1 nm (w.heap.size + 1) _ (by simp) (by simp)) (by omega) hm (by simp; omega) (fun j hj i v hi => by
        refine Lib.cell?_alloc_some _ (Lib.cell?_alloc_some _ ?_)
        have h1 := hc j (by omega)
        rw [bang_nthP] at hi
        match i, hi with
        | 0, hi => simp [prV] at hi; rw [← hi]; exact h1.1
        | 1, hi => simp [prV] at hi; rw [← hi]; exact h1.2
        | i + 2, hi => simp [prV] at hi)
    change Calls Tryz.prog 120 _ _ _ at hcon
    rw [List.take_of_length_le (by omega)] at hcon
    have HT : ∀ w', Below ((w.alloc (.cells #[m, p, q, .slice (some ⟨b, off, none⟩) n cap, bd] 34)).alloc (.cells #[.string (str nm)] 9)).heap.size ((w.alloc (.cells #[m, p, q, .slice (some ⟨b, off, none⟩) n cap, bd] 34)).alloc (.cells #[.string (str nm)] 9)) w' → Below w.heap.size w w' := fun w' hb' => (T1 _).trans (hb'.mono (by simp; omega))
    have HR : Hid (∀ w', Below ((w.alloc (.cells #[m, p, q, .slice (some ⟨b, off, none⟩) n cap, bd] 34)).alloc (.cells #[.string (str nm)] 9)).heap.size ((w.alloc (.cells #[m, p, q, .slice (some ⟨b, off, none⟩) n cap, bd] 34)).alloc (.cells #[.string (str nm)] 9)) w' → w'.cell? ⟨w.heap.size, 3, none⟩ = some (.slice (some ⟨b, off, none⟩) n cap)) := fun w' hb' => (hb'.cell (p := ⟨w.heap.size, 3, none⟩) (by simp; omega)).trans (by simp [go_sem])
    rcases find_cases l nm with ⟨h1, h2⟩ | ⟨k, hk, h1, h2⟩
    · rw [h1] at hcon
      rw [h2]
      clear hc h hlen h1 h2 eg T1
      change Calls _ _ _ _ fun e w' => e = .returned (.tuple #[.string ⟨#[]⟩, .bool false]) ∧ _
      generalize str nm = s at *
      go_enter Tryz.func75, Tryz.ntmps75
      go_wp2_with (go_at_call 120; refine hcon.mono ?_; rintro e w' ⟨rfl, hb'⟩)
      go_ret2
      exact ⟨rfl, HT _ hb'⟩
    · rw [h1] at hcon
      rw [h2]
      have hk' : k < n := by omega
      have hkz : (k : Int) < (n : Int) := by omega
      have hk0 : (0 : Int) ≤ (k : Int) := by omega
      have hcv : Hid (∀ w', Below w.heap.size w w' → w'.cell? ⟨b, off + k * 2 + 1, none⟩ = some (.string (str (nthP l k).2))) := fun w' hb' => (hb'.cell (p := ⟨b, off + k * 2 + 1, none⟩) hb).trans (hc k hk').2
      clear hc h hlen h1 h2 eg T1
      change Calls _ _ _ _ fun e w' => e = .returned (.tuple #[.string (str (nthP l k).2), .bool true]) ∧ _
      generalize str (nthP l k).2 = s2 at *
      generalize str nm = s at *
      go_enter Tryz.func75, Tryz.ntmps75
      go_wp2_with (go_at_call 120; refine hcon.mono ?_; rintro e w' ⟨rfl, hb'⟩; have hcell := hcv.out _ (HT _ hb'); have hrc := HR.out _ hb')
      go_ret2
      exact ⟨rfl, HT _ hb'⟩
end Go.Proofs.YtgjmaeodgcigdaaGreatDoor
namespace Go.Proofs
open Go.Shelf
def Tryz.laySort_ren : Go.Shelf.Ren := ⟨fun | 6 => 83 | 15 => 128 | 14 => 127 | 28 => 158 | 29 => 159 | 20 => 150 | 21 => 151 | 22 => 152 | 23 => 153 | 24 => 154 | 25 => 155 | 26 => 156 | 27 => 157 | 46 => 184 | 47 => 185 | 48 => 186 | 49 => 187 | 50 => 188 | 57 => 198 | n => n, fun | 22 => 71 | 24 => 122 | 25 => 129 | 3 => 3 | 39 => 118 | 0 => 0 | 53 => 131 | 55 => 38 | 4 => 4 | 46 => 197 | 45 => 196 | 50 => 201 | 5 => 5 | 9 => 9 | 66 => 221 | 70 => 225 | 76 => 232 | 77 => 181 | n => n, fun | n => n⟩
theorem Tryz.laySort : Go.Proofs.SlLaysF0.n6 Tryz.prog Tryz.laySort_ren := {
  mixed := by kernel_rfl
  f6 := ⟨Tryz.f83.name, by decide, Tryz.func83.trans (congrArg some (by kernel_rfl))⟩
  f14 := ⟨Tryz.f127.name, by decide, Tryz.func127.trans (congrArg some (by kernel_rfl))⟩
  f15 := Tryz.func128.trans (congrArg some (by kernel_rfl))
  f20 := ⟨Tryz.f150.name, by decide, Tryz.func150.trans (congrArg some (by kernel_rfl))⟩
  f21 := ⟨Tryz.f151.name, by decide, Tryz.func151.trans (congrArg some (by kernel_rfl))⟩
  f22 := ⟨Tryz.f152.name, by decide, Tryz.func152.trans (congrArg some (by kernel_rfl))⟩
  f23 := ⟨Tryz.f153.name, by decide, Tryz.func153.trans (congrArg some (by kernel_rfl))⟩
  f24 := ⟨Tryz.f154.name, by decide, Tryz.func154.trans (congrArg some (by kernel_rfl))⟩
  f25 := ⟨Tryz.f155.name, by decide, Tryz.func155.trans (congrArg some (by kernel_rfl))⟩
  f26 := ⟨Tryz.f156.name, by decide, Tryz.func156.trans (congrArg some (by kernel_rfl))⟩
  f27 := ⟨Tryz.f157.name, by decide, Tryz.func157.trans (congrArg some (by kernel_rfl))⟩
  f28 := Tryz.func158.trans (congrArg some (by kernel_rfl))
  f29 := Tryz.func159.trans (congrArg some (by kernel_rfl))
  f46 := ⟨Tryz.f184.name, by decide, Tryz.func184.trans (congrArg some (by kernel_rfl))⟩
  f47 := Tryz.func185.trans (congrArg some (by kernel_rfl))
  f48 := Tryz.func186.trans (congrArg some (by kernel_rfl))
  f49 := ⟨Tryz.f187.name, by decide, Tryz.func187.trans (congrArg some (by kernel_rfl))⟩
  f50 := ⟨Tryz.f188.name, by decide, Tryz.func188.trans (congrArg some (by kernel_rfl))⟩
  f57 := ⟨Tryz.f198.name, by decide, Tryz.func198.trans (congrArg some (by kernel_rfl))⟩
  t0 := Tryz.underlying0
  a0 := Tryz.isAgg0
  z0 := Tryz.sizeOf0
  v0 := Tryz.zeroValue0
  t3 := Tryz.underlying3
  a3 := Tryz.isAgg3
  z3 := Tryz.sizeOf3
  v3 := Tryz.zeroValue3
  t4 := Tryz.underlying4
  a4 := Tryz.isAgg4
  z4 := Tryz.sizeOf4
  v4 := Tryz.zeroValue4
  t5 := Tryz.underlying5
  a5 := Tryz.isAgg5
  z5 := Tryz.sizeOf5
  v5 := Tryz.zeroValue5
  t9 := Tryz.underlying9
  a9 := Tryz.isAgg9
  z9 := Tryz.sizeOf9
  v9 := Tryz.zeroValue9
  t22 := Tryz.underlying71
  a22 := Tryz.isAgg71
  z22 := Tryz.sizeOf71
  v22 := Tryz.zeroValue71
  t25 := Tryz.underlying129
  a25 := Tryz.isAgg129
  z25 := Tryz.sizeOf129
  v25 := Tryz.zeroValue129
  t39 := Tryz.underlying118
  a39 := Tryz.isAgg118
  z39 := Tryz.sizeOf118
  v39 := Tryz.zeroValue118
  t45 := Tryz.underlying196
  a45 := Tryz.isAgg196
  z45 := Tryz.sizeOf196
  v45 := Tryz.zeroValue196
  t46 := Tryz.underlying197
  a46 := Tryz.isAgg197
  z46 := Tryz.sizeOf197
  v46 := Tryz.zeroValue197
  t50 := Tryz.underlying201
  a50 := Tryz.isAgg201
  z50 := Tryz.sizeOf201
  v50 := Tryz.zeroValue201
  t53 := Tryz.underlying131
  a53 := Tryz.isAgg131
  z53 := Tryz.sizeOf131
  v53 := Tryz.zeroValue131
  t55 := Tryz.underlying38
  a55 := Tryz.isAgg38
  z55 := Tryz.sizeOf38
  v55 := Tryz.zeroValue38
  t66 := Tryz.underlying221
  a66 := Tryz.isAgg221
  z66 := Tryz.sizeOf221
  v66 := Tryz.zeroValue221
  t70 := Tryz.underlying225
  a70 := Tryz.isAgg225
  z70 := Tryz.sizeOf225
  v70 := Tryz.zeroValue225
  t76 := Tryz.underlying232
  a76 := Tryz.isAgg232
  z76 := Tryz.sizeOf232
  v76 := Tryz.zeroValue232
  t77 := Tryz.underlying181
  a77 := Tryz.isAgg181
  z77 := Tryz.sizeOf181
  v77 := Tryz.zeroValue181 }
end Go.Proofs
