/- request: the reader's headers. -/
import Derived.Test.YtbknabmcelknmaaGreatDoorR5e
import Derived.Test.YtbknabmcelknmaaGreatDoorJ20
namespace Go.Proofs.YtbknabmcelknmaaGreatDoor
open Go.RowKit

/-- how much is left of the text -/
def leftLen (w : World) (B : Nat) : Nat := match w.cell? ⟨B, 0, none⟩ with | some (.string s) => s.size | _ => 0
theorem leftLen_of {w : World} {B t : Nat} {l : List UInt8} (h : Blk w B t [.string (str l)]) : leftLen w B = l.length := by
  unfold leftLen; rw [h.cell 0]; exact str_size l
theorem infoH : (Tryz.prog.info? 73).map (fun i => (i.zero, i.size, i.bytes)) = some (some (.agg #[.string ⟨#[]⟩, .string ⟨#[]⟩]), 2, 32) := by kernel_rfl

def HdsPost (o : Option (List Pr × List UInt8)) (B N : Nat) (x : Ending) (w' : World) : Prop := match o with
  | none => x = refused 11
  | some y => ∃ v, x = .returned v ∧ OwnP 73 w' N v y.1 ∧ y.1.length ≤ 24 ∧ Blk w' B 57 [.string (str y.2)]
theorem hdsP_no {o : Option (List Pr × List UInt8)} {B N : Nat} {w' : World} (h : o = none) : HdsPost o B N (refused 11) w' := by rw [h]; rfl
theorem hdsP_yes {o : Option (List Pr × List UInt8)} {B N : Nat} {v : Value} {w' : World} {hs : List Pr} {b : List UInt8} (h : o = some (hs, b)) (h1 : OwnP 73 w' N v hs) (h2 : hs.length ≤ 24) (h3 : Blk w' B 57 [.string (str b)]) : HdsPost o B N (.returned v) w' := by
  rw [h]; exact ⟨v, rfl, h1, h2, h3⟩
theorem Moved.grown {B : Nat} {w w2 w3 : World} {row : Option Nat} (h : Moved B w w2) (hg : w2.grownBy w3 row) (hr : ∀ k, row = some k → w.heap.size ≤ k) : Moved B w w3 :=
  ⟨hg.1.trans h.1, hg.2.trans h.2, hg.3.trans h.3, Nat.le_trans h.4 hg.4, fun k hk hne => (hg.5 k (Nat.lt_of_lt_of_le hk h.4) (fun e => by have := hr k e.symm; omega)).trans (h.5 k hk hne)⟩
theorem Blk.grown {w w' : World} {B t : Nat} {cs : List Value} {row : Option Nat} (h : Blk w B t cs) (hg : w.grownBy w' row) (hne : ∀ k, row = some k → B ≠ k) : Blk w' B t cs := by
  unfold Blk at *; rw [hg.5 B (Blk.lt h) (fun e => hne B e.symm rfl)]; exact h

set_option maxRecDepth 20000 in
set_option maxHeartbeats 4000000 in
/-- the headers: refused, where one is none -/
theorem codHeaders (B : Nat) (l : List UInt8) (w : World) (hB : Blk w B 57 [.string (str l)]) (hm : Mx w) (hB3 : 3 < B) (hs : l.length ≤ 1000000) :
    Calls Tryz.prog 47 #[.pointer (some ⟨B, 0, none⟩)] w fun x w' => HdsPost (hdsL [] l) B w.heap.size x w' ∧ Moved B w w' := by
  have hBw := hB.lt
  generalize hN : w.heap.size = N at *
  go_enter Tryz.func47, Tryz.ntmps47
  go_wp2_with (fail)
  go_loopw [3] (fun v wr => ∃ (acc : List Pr) (s : List UInt8), s.length ≤ l.length ∧ OwnP 73 wr N v acc ∧ acc.length ≤ 24 ∧ Blk wr B 57 [.string (str s)] ∧ Hid (hdsL [] l = hdsL acc s) ∧ Moved B w wr ∧ Mx wr) (fun _ wr => leftLen wr B)
  case atStart => exact ⟨[], l, Nat.le_refl _, OwnP.nil _ _ _, by simp, hB, rfl, Moved.refl _ _, hm⟩
  case round =>
    obtain ⟨acc, s, hsl, hown, hacc, hBr, HD, hMr, hmr⟩ := hrel
    have HH := codHeader B s wr hBr hmr (by omega)
    have hNr : N ≤ wr.heap.size := by have := hMr.size; omega
    have HLL : Hid (leftLen wr B = s.length) := leftLen_of hBr
    cases hl : lineL s with
    | none =>
      have HE : Hid (hdsL [] l = none) := by unfold Hid; rw [HD.out]; exact hds_none hl
      rw [hl] at HH
      dsimp only at HH
      unfold refused at HH
      go_wp2_with (go_at_call 68; refine HH.mono ?_; rintro x w1 ⟨rfl, hM1⟩)
      refine bp_panic ?_
      exact ⟨hdsP_no HE.out, hMr.trans hM1⟩
    | some y =>
      obtain ⟨h, rest⟩ := y
      have hlen := line_length hl
      rw [hl] at HH
      dsimp only at HH
      by_cases h0 : h = []
      · have HE : Hid (hdsL [] l = some (acc, rest)) := by unfold Hid; rw [HD.out]; exact hds_end (by rw [hl, h0])
        simp only [if_pos h0] at HH
        clear hl h0
        go_wp2_with (go_at_call 68; refine HH.mono ?_; rintro x w1 ⟨⟨rfl, hB1⟩, hM1⟩)
        go_ret
        exact ⟨hdsP_yes HE.out ((hown.moved hM1 (by omega)).alloc _) hacc (hB1.alloc _), (hMr.trans hM1).trans (.of ((Below.refl _ _).alloc (Nat.le_refl _) _))⟩
      · simp only [if_neg h0] at HH
        cases hd : hdC h with
        | false =>
          have HE : Hid (hdsL [] l = none) := by unfold Hid; rw [HD.out]; exact hds_bad hl h0 (by rw [hd]; simp)
          rw [hd] at HH
          simp only [Bool.false_eq_true, if_false] at HH
          unfold refused at HH
          clear hl h0
          go_wp2_with (go_at_call 68; refine HH.mono ?_; rintro x w1 ⟨rfl, hM1⟩)
          refine bp_panic ?_
          exact ⟨hdsP_no HE.out, hMr.trans hM1⟩
        | true =>
          rw [hd] at HH
          simp only [if_true] at HH
          have HNX : Hid (moreC acc (hdP h) = true → hdsL [] l = hdsL (acc ++ [hdP h]) rest) := fun e => by rw [HD.out]; exact hds_next hl h0 ⟨hd, e⟩
          have HBD : Hid (moreC acc (hdP h) = false → hdsL [] l = none) := fun e => by rw [HD.out]; exact hds_bad hl h0 (by rw [e]; simp)
          have HMC : Hid (moreC acc (hdP h) = (!(findL acc (hdP h).1).isSome && decide (acc.length < 24))) := rfl
          clear hl h0 hd HD
          generalize hdP h = hp at *
          obtain ⟨nm, vl⟩ := hp
          dsimp only at HH HMC
          obtain ⟨a, cap, rfl, hisP⟩ := hown.isP
          have HB := hown.blk
          have hBN : B < N := by omega
          have HGet : ∀ w1, Moved B wr w1 → Calls Tryz.prog 18 #[.agg #[.string ⟨#[]⟩, .string ⟨#[]⟩, .string ⟨#[]⟩, .slice a acc.length cap, .slice none 0 0], .string (str nm)] (w1.alloc (.cells #[.string (str nm), .string (str vl)] 73)) fun e w' => e = .returned (.tuple #[.string (str ((findL acc nm).getD [])), .bool (findL acc nm).isSome]) ∧ Below (w1.alloc (.cells #[.string (str nm), .string (str vl)] 73)).heap.size (w1.alloc (.cells #[.string (str nm), .string (str vl)] 73)) w' := by
            intro w1 hM
            obtain ⟨a', cap', e, hP⟩ := ((hown.moved hM hBN).alloc (.cells #[.string (str nm), .string (str vl)] 73)).isP
            cases e
            exact codGet _ _ _ _ a acc.length cap acc nm _ hP
          have HM2 : ∀ w1 w2, Moved B wr w1 → Below (w1.alloc (.cells #[.string (str nm), .string (str vl)] 73)).heap.size (w1.alloc (.cells #[.string (str nm), .string (str vl)] 73)) w2 → Moved B wr w2 ∧ w1.heap.size ≤ w2.heap.size := fun w1 w2 hM hb => ⟨(hM.trans (.of ((Below.refl _ _).alloc (Nat.le_refl _) _))).trans (.of hb), by have := hb.size; simp at this; omega⟩
          generalize str ((findL acc nm).getD []) = gd at *
          generalize (findL acc nm).isSome = tw at *
          cases tw
          · by_cases h24 : acc.length < 24
            · have h24' : (acc.length : Int) < 24 := by omega
              have HR : Hid (hdsL [] l = hdsL (acc ++ [(nm, vl)]) rest) := HNX.out (by rw [HMC.out, decide_eq_true h24]; rfl)
              have HN := needYes 11
              clear HNX HBD HMC hisP
              go_wp2_with (first | (go_at_call 68; refine HH.mono ?_; rintro x w1 ⟨⟨rfl, hB1⟩, hM1⟩) | (go_at_call 18; refine (HGet _ hM1).mono ?_; rintro x w2 ⟨rfl, hb2⟩; have KH := (Blk.newAt w1 w1.heap.size 73 _ [.string (str nm), .string (str vl)] rfl rfl).on hb2; have k0 : w2.cell? ⟨w1.heap.size, 0, none⟩ = some (.string (str nm)) := KH.cell 0; have k1 : w2.cell? ⟨w1.heap.size, 1, none⟩ = some (.string (str vl)) := KH.cell 1; have kz := KH.lt; have hMw := HM2 _ _ hM1 hb2; have hown2 := hown.moved hMw.1 hBN; have hz1 := hM1.size; have hz2 := hMw.2) | (go_at_call 67; refine (HN _).mono ?_; rintro x w9 ⟨rfl, hww⟩; rw [hww]; clear hww w9) | (refine list_appQ 23 73 Tryz.underlying23 infoH _ (by rfl) _ _ (by rfl) N _ acc (by rfl) (hown2.alloc _) w2.heap.size nm vl (by rfl) (heap_alloc_new w2 _) (by omega) (by simp; omega) ?_; intro v3 w3 hown3 hgrow))
              go_roundw
              case rel =>
                have hM3 : Moved B w w3 := ((hMr.trans hMw.1).trans (.of ((Below.refl _ _).alloc (Nat.le_refl _) _))).grown hgrow (fun k hk => by have := (HB k hk).1; omega)
                have hB3 : Blk w3 B 57 [.string (str rest)] := (((hB1.alloc _).on hb2).alloc _).grown hgrow (fun k hk => by have := (HB k hk).1; omega)
                exact ⟨acc ++ [(nm, vl)], rest, by omega, hown3, by simp; omega, hB3, HR, hM3, hm.moved hM3 (by omega)⟩
              case measure =>
                have hB3 : Blk w3 B 57 [.string (str rest)] := (((hB1.alloc _).on hb2).alloc _).grown hgrow (fun k hk => by have := (HB k hk).1; omega)
                rw [HLL.out, leftLen_of hB3]
                omega
            · have h24' : ¬ (acc.length : Int) < 24 := by omega
              have d24 : decide ((acc.length : Int) < 24) = false := decide_eq_false h24'
              have d24n : decide (acc.length < 24) = false := decide_eq_false h24
              have HE : Hid (hdsL [] l = none) := HBD.out (by rw [HMC.out, d24n]; rfl)
              have HN := needNo 11
              clear HNX HBD HMC hisP
              go_wp2_with (first | (go_at_call 68; refine HH.mono ?_; rintro x w1 ⟨⟨rfl, hB1⟩, hM1⟩) | (go_at_call 18; refine (HGet _ hM1).mono ?_; rintro x w2 ⟨rfl, hb2⟩; have KH := (Blk.newAt w1 w1.heap.size 73 _ [.string (str nm), .string (str vl)] rfl rfl).on hb2; have k0 : w2.cell? ⟨w1.heap.size, 0, none⟩ = some (.string (str nm)) := KH.cell 0; have k1 : w2.cell? ⟨w1.heap.size, 1, none⟩ = some (.string (str vl)) := KH.cell 1; have kz := KH.lt) | (go_at_call 67; refine (HN _).mono ?_; rintro x w9 ⟨rfl, hww⟩; rw [hww]; clear hww w9))
              refine bp_panic ?_
              exact ⟨hdsP_no HE.out, hMr.trans (HM2 _ _ hM1 hb2).1⟩
          · have HE : Hid (hdsL [] l = none) := HBD.out (by rw [HMC.out]; rfl)
            have HN := needNo 11
            clear HNX HBD HMC hisP
            go_wp2_with (first | (go_at_call 68; refine HH.mono ?_; rintro x w1 ⟨⟨rfl, hB1⟩, hM1⟩) | (go_at_call 18; refine (HGet _ hM1).mono ?_; rintro x w2 ⟨rfl, hb2⟩; have KH := (Blk.newAt w1 w1.heap.size 73 _ [.string (str nm), .string (str vl)] rfl rfl).on hb2; have k0 : w2.cell? ⟨w1.heap.size, 0, none⟩ = some (.string (str nm)) := KH.cell 0; have k1 : w2.cell? ⟨w1.heap.size, 1, none⟩ = some (.string (str vl)) := KH.cell 1; have kz := KH.lt) | (go_at_call 67; refine (HN _).mono ?_; rintro x w9 ⟨rfl, hww⟩; rw [hww]; clear hww w9))
            refine bp_panic ?_
            exact ⟨hdsP_no HE.out, hMr.trans (HM2 _ _ hM1 hb2).1⟩
end Go.Proofs.YtbknabmcelknmaaGreatDoor
