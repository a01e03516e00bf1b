/- The program's disk: Read and Stable. -/
import Derived.Test.YtjmgodlefaadoaaPd3
namespace Go.Proofs.Ytjmgodlefaadoaa
open Go.RowKit

theorem isB_new {w : World} {g : Nat} {b : List UInt8} (h : Blk w g 5 (bv b)) (hb : b.length = 512) : IsB w (some ⟨g, 0, none⟩) 512 512 b :=
  ⟨hb, Nat.le_refl _, by decide, fun e => (by cases e), fun _ => ⟨g, 0, rfl, fun i hi => by rw [h.cell, Nat.zero_add, bv_at b i (by omega)]⟩⟩
theorem fold_len512 (l : List (Nat × List UInt8)) (st : Nat → List UInt8) (n i : Nat) (hi : i < n) (hl : ∀ g ∈ l, g.2.length = 512) (hs : ∀ i, i < n → (st i).length = 512) : (l.foldl Pl.put st i).length = 512 := by
  induction l generalizing st with
  | nil => exact hs i hi
  | cons g l ih =>
    rw [List.foldl_cons]
    refine ih _ (fun g hg => hl g (by simp [hg])) (fun j hj => ?_)
    unfold Pl.put
    split
    · exact hl g (by simp)
    · exact hs j hj
theorem ret_v4 {a : Option Addr} {n m c : Nat} {e e' : Int} (h : n = m) (h2 : e = e') : Ending.returned (.tuple #[.slice a n c, .int .i64 e]) = .returned (.tuple #[.slice a m c, .int .i64 e']) := by rw [h, h2]

set_option maxRecDepth 20000 in
set_option maxHeartbeats 2000000 in
theorem codRead (X : Nat → Prop) (P base : Nat) (p : Pl) (i : Int) (w : World) (h : IsD X w P base p) (hf : FewP p) :
    Calls Try.prog 19 #[.pointer (some ⟨P, 0, none⟩), .int .i64 i] w fun e w' => (∃ a c, e = .returned (.tuple #[.slice a (p.rdB i).length c, .int .i64 (p.rdE i)]) ∧ IsB w' a (p.rdB i).length c (p.rdB i) ∧ ∀ A, a = some A → w.heap.size ≤ A.block ∧ A.block < w'.heap.size) ∧ Below w.heap.size w w' := by
  obtain ⟨S, vC, arm, h⟩ := h
  have HR := codReach P S p.n p.off i w (h.blk.cell 0) (h.blk.cell 3)
  have HH := mkHid h
  have HF := mkHid hf
  clear h hf
  cases hoff : p.off with
  | true =>
    have HE : Hid (p.rdE i = 51 ∧ p.rdB i = []) := by unfold Hid Pl.rdE Pl.rdB; simp [hoff]
    rw [hoff, if_pos rfl] at HR
    clear hoff
    go_enter Try.func19, Try.ntmps19
    go_wp2_with fail
    refine HR.mono ?_
    rintro e w1 ⟨rfl, rfl⟩
    go_wp2_with fail
    go_ret2
    refine ⟨⟨none, 0, ret_v4 (by rw [HE.out.2]; rfl) HE.out.1.symm, ?_, fun A e => by cases e⟩, Below.refl _ _⟩
    rw [HE.out.2]; exact isB_none _
  | false =>
    rw [hoff, if_neg (by simp)] at HR
    cases hin : inR p.n i with
    | false =>
      have HE : Hid (p.rdE i = 50 ∧ p.rdB i = []) := by unfold Hid Pl.rdE Pl.rdB Pl.stE; simp [hoff, hin]
      rw [hin, if_neg (by simp)] at HR
      clear hoff hin
      go_enter Try.func19, Try.ntmps19
      go_wp2_with fail
      refine HR.mono ?_
      rintro e w1 ⟨rfl, rfl⟩
      go_wp2_with fail
      go_ret2
      refine ⟨⟨none, 0, ret_v4 (by rw [HE.out.2]; rfl) HE.out.1.symm, ?_, fun A e => by cases e⟩, Below.refl _ _⟩
      rw [HE.out.2]; exact isB_none _
    | true =>
      rw [hin, if_pos rfl] at HR
      have hir : 0 ≤ i ∧ i < p.n := by simpa [inR] using hin
      obtain ⟨k, rfl⟩ : ∃ k : Nat, i = (k : Int) := ⟨i.toNat, by omega⟩
      have hk : k < p.n := by omega
      have HE : Hid (p.rdE (k : Int) = 0 ∧ p.rdB (k : Int) = p.ca.foldl Pl.put p.st k) := by unfold Hid Pl.rdE Pl.rdB Pl.stE; simp [hoff, hin]
      have HL : Hid ((p.ca.foldl Pl.put p.st k).length = 512) := fold_len512 _ _ p.n k hk (fun g hg => (HF.out.at_ g hg).2) HH.out.len
      have HLa := codLatest X P base S vC arm p k w HH.out HF.out hk
      generalize p.ca.foldl Pl.put p.st k = bb at *
      clear hoff hin hir hk
      go_enter Try.func19, Try.ntmps19
      go_wp2_with fail
      refine HR.mono ?_
      rintro e w1 ⟨rfl, hw1⟩
      obtain rfl := hw1.symm
      go_wp2_with fail
      refine HLa.mono ?_
      rintro e w2 ⟨rfl, hb2⟩
      have HB2 := mkHid hb2
      clear hb2
      go_wp2_with fail
      refine (codBytes bb w2 HL.out).mono ?_
      rintro e w3 ⟨g, rfl, hg3, hB3, hb3⟩
      have HB3 := mkHid (And.intro hg3 (And.intro hB3 hb3))
      clear hg3 hB3 hb3
      go_wp2_with fail
      go_ret2
      refine ⟨⟨some ⟨g, 0, none⟩, 512, ret_v4 (by rw [HE.out.2, HL.out]) HE.out.1.symm, ?_, fun A e => ?_⟩, HB2.out.trans (HB3.out.2.2.mono HB2.out.size)⟩
      · rw [HE.out.2, HL.out]; exact isB_new HB3.out.2.1 HL.out
      · obtain rfl := Option.some.inj e
        exact ⟨Nat.le_trans HB2.out.size HB3.out.1, HB3.out.2.1.lt⟩

set_option maxRecDepth 20000 in
set_option maxHeartbeats 2000000 in
theorem codStable (X : Nat → Prop) (P base : Nat) (p : Pl) (i : Int) (w : World) (h : IsD X w P base p) (hf : FewP p) :
    Calls Try.prog 22 #[.pointer (some ⟨P, 0, none⟩), .int .i64 i] w fun e w' => (∃ a c, e = .returned (.tuple #[.slice a (p.stB i).length c, .int .i64 (p.stE i)]) ∧ IsB w' a (p.stB i).length c (p.stB i) ∧ ∀ A, a = some A → w.heap.size ≤ A.block ∧ A.block < w'.heap.size) ∧ Below w.heap.size w w' := by
  obtain ⟨S, vC, arm, h⟩ := h
  have HR := codHas P S p.n i w (h.blk.cell 0)
  have c0 : w.cell? ⟨P, 0, none⟩ = some (.slice (some ⟨S, 0, none⟩) p.n p.n) := h.blk.cell 0
  have HH := mkHid h
  have hn := hf.n
  clear h hf
  cases hin : inR p.n i with
  | false =>
    have HE : Hid (p.stE i = 50 ∧ p.stB i = []) := by unfold Hid Pl.stE Pl.stB; simp [hin]
    rw [hin] at HR
    clear hin
    go_enter Try.func22, Try.ntmps22
    go_wp2_with fail
    refine HR.mono ?_
    rintro e w1 ⟨rfl, rfl⟩
    go_wp2_with fail
    go_ret2
    refine ⟨⟨none, 0, ret_v4 (by rw [HE.out.2]; rfl) HE.out.1.symm, ?_, fun A e => by cases e⟩, Below.refl _ _⟩
    rw [HE.out.2]; exact isB_none _
  | true =>
    rw [hin] at HR
    have hir : 0 ≤ i ∧ i < p.n := by simpa [inR] using hin
    obtain ⟨k, rfl⟩ : ∃ k : Nat, i = (k : Int) := ⟨i.toNat, by omega⟩
    have hk : k < p.n := by omega
    have HE : Hid (p.stE (k : Int) = 0 ∧ p.stB (k : Int) = p.st k) := by unfold Hid Pl.stE Pl.stB; simp [hin]
    have HL : Hid ((p.st k).length = 512) := HH.out.len k hk
    have HD1 := mkHid (HH.out.st.sector k hk HL.out)
    generalize p.st k = bb at *
    have HS5 : Hid ((Try.prog.info? 71).map (·.size) = some (bv bb).length) := infoSecOf HL.out
    have hkn := hir.2
    have hk0 := hir.1
    clear hin hir hk
    generalize p.n = N at *
    go_enter Try.func22, Try.ntmps22
    go_wp2_with fail
    refine HR.mono ?_
    rintro e w1 ⟨rfl, hw1⟩
    obtain rfl := hw1.symm
    go_wp2_with (first | (refine wpList_load_mid rfl 71 _ rfl S (k * 512) rfl (bv bb) _ HD1.out Try.underlying71 rfl HS5.out ?_) | (refine (codBytes bb w HL.out).mono ?_; rintro e w3 ⟨g, rfl, hg3, hB3, hb3⟩; have HB3 := mkHid (And.intro hg3 (And.intro hB3 hb3)); clear hg3 hB3 hb3))
    go_ret2
    refine ⟨⟨some ⟨g, 0, none⟩, 512, ret_v4 (by rw [HE.out.2, HL.out]) HE.out.1.symm, ?_, fun A e => ?_⟩, HB3.out.2.2⟩
    · rw [HE.out.2, HL.out]; exact isB_new HB3.out.2.1 HL.out
    · obtain rfl := Option.some.inj e
      exact ⟨HB3.out.1, HB3.out.2.1.lt⟩
end Go.Proofs.Ytjmgodlefaadoaa
