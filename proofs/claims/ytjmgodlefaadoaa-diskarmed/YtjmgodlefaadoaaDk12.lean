/- The statements' step: Write; any call. -/
import Derived.Test.YtjmgodlefaadoaaDk11
namespace Go.Proofs.Ytjmgodlefaadoaa
open Go.RowKit

theorem oqb_len {w : World} {base : Nat} {o : Oq} (h : OkQ w base o) : (oqb o).length ≤ 140737488351232 := by
  unfold oqb
  split
  · exact h.rawLen
  · rw [secL_len]; omega

set_option maxRecDepth 20000 in
set_option maxHeartbeats 4000000 in
theorem step9_write {X : Nat → Prop} {Is : World → Nat → Nat → Pl → Prop} (ok : DiskOK X Is) (o : Oq) (P D base k : Nat) (w : World) (h : Both9 Is P D base k w) (hk : k ≤ 100000) (hb : base ≤ w.heap.size) (ho : OkQ w base o) (hkind : o.kind = 1) :
    Calls Try.prog 10 #[.pointer (some ⟨P, 0, none⟩), .pointer (some ⟨D, 0, none⟩), .agg (oqc o).toArray] w fun e w' => e = .returned (.bool true) ∧ Both9 Is P D base (k + 1) w' ∧ Below base w w' := by
  obtain ⟨kind, at', n, by', odd, raw, ra, rc, keep, ka, kc⟩ := o
  change kind = 1 at hkind
  subst hkind
  have HB := mkHid (box_bel w ⟨1, at', n, by', odd, raw, ra, rc, keep, ka, kc⟩)
  have KB := Blk.new w 34 (oqc ⟨1, at', n, by', odd, raw, ra, rc, keep, ka, kc⟩)
  have HO := mkHid (ho.on (HB.out.mono hb))
  have HL := mkHid (oqb_len ho)
  obtain ⟨r, vS, vC, hP, hD, hF⟩ := h
  have HF := mkHid (hF.few hk)
  have HR := mkHid hF
  have HP := mkHid (ok.keep hP (KeepT.of_below HB.out))
  have HD := mkHid (hD.on HB.out)
  have HBy : ∀ W, Below base (w.alloc (.cells (oqc ⟨1, at', n, by', odd, raw, ra, rc, keep, ka, kc⟩).toArray 34)) W → Calls Try.prog 23 #[.agg (oqc ⟨1, at', n, by', odd, raw, ra, rc, keep, ka, kc⟩).toArray] W fun e w' => (∃ ba bc, e = .returned (.slice ba (oqb ⟨1, at', n, by', odd, raw, ra, rc, keep, ka, kc⟩).length bc) ∧ Hid (∀ W', KeepO [5] w' W' → Below base w' W' → IsB W' ba (oqb ⟨1, at', n, by', odd, raw, ra, rc, keep, ka, kc⟩).length bc (oqb ⟨1, at', n, by', odd, raw, ra, rc, keep, ka, kc⟩))) ∧ Hid (Below W.heap.size W w') ∧ KeepO [34] W w' ∧ Below base W w' := by
    intro W hW
    have hbW : base ≤ W.heap.size := Nat.le_trans (Nat.le_trans hb HB.out.size) hW.size
    refine (lawBytes9 _ base W hbW (HO.out.on hW)).mono ?_
    rintro e w' ⟨h1, h2⟩
    exact ⟨h1, h2, KeepO.of_below h2, h2.mono hbW⟩
  generalize hbs : oqb ⟨1, at', n, by', odd, raw, ra, rc, keep, ka, kc⟩ = bs at *
  have HW1 : ∀ W ba bc, Is W P base (plOf r) → (∀ W', KeepO [5] W W' → Below base W W' → IsB W' ba bs.length bc bs) → Calls Try.prog 15 #[.pointer (some ⟨P, 0, none⟩), .int .i64 at', .slice ba bs.length bc] W fun e w' => e = .returned (.int .i64 ((plOf r).wrE at' bs)) ∧ Hid (Is w' P base ((plOf r).write at' bs)) ∧ Hid (KeepO U9 W w') ∧ KeepO [34] W w' ∧ Below base W w' := by
    intro W ba bc h1 h2
    refine (ok.write W P base _ at' ba bc bs h1 HF.out ho.at0 ho.at1 HL.out h2).mono ?_
    rintro e w' ⟨h3, h4, h5, h6⟩
    exact ⟨h3, h4, h5.o, h5.o.less (by decide), h6⟩
  have HW2 : ∀ W ba bc, IsRD W D base r vS vC → (∀ W', KeepO [5] W W' → Below base W W' → IsB W' ba bs.length bc bs) → Calls Try.prog 24 #[.pointer (some ⟨D, 0, none⟩), .int .i64 at', .slice ba bs.length bc] W fun e w' => e = .returned (.int .i64 ((plOf r).wrE at' bs)) ∧ Hid (∃ r' vC', IsRD w' D base r' vS vC' ∧ WrTo r at' bs r') ∧ Hid (KeepT D9 W w') ∧ KeepO [34] W w' ∧ Below base W w' := by
    intro W ba bc h1 h2
    have := refWrite9 D base r vS vC at' ba bc bs W h1 (by have := HR.out.sc; omega) (by have := HR.out.wr; omega) HR.out.left (fun W' h3 h4 => h2 W' (KeepO.ofT h3 (by decide)) h4) HL.out
    rw [pl_wrE] at this
    refine this.mono ?_
    rintro e w' ⟨h3, h4, h5, h6⟩
    exact ⟨h3, h4, h5, KeepO.ofT h5 (by decide), h6⟩
  have HE : Hid (∀ W, Is W P base ((plOf r).write at' bs) → (∃ r' vC', IsRD W D base r' vS vC' ∧ WrTo r at' bs r') → Both9 Is P D base (k + 1) W) := by
    rintro W h1 ⟨r', vC', h2, h3⟩
    rw [← pl_write h3] at h1
    exact ⟨r', vS, vC', h1, h2, HR.out.write h3⟩
  generalize (plOf r).wrE at' bs = q at *
  have HKP : ∀ w', KeepO [34] (w.alloc (.cells (oqc ⟨1, at', n, by', odd, raw, ra, rc, keep, ka, kc⟩).toArray 34)) w' → Below base (w.alloc (.cells (oqc ⟨1, at', n, by', odd, raw, ra, rc, keep, ka, kc⟩).toArray 34)) w' → KeepO [34] (w.alloc (.cells (oqc ⟨1, at', n, by', odd, raw, ra, rc, keep, ka, kc⟩).toArray 34)) w' ∧ Below base (w.alloc (.cells (oqc ⟨1, at', n, by', odd, raw, ra, rc, keep, ka, kc⟩).toArray 34)) w' ∧ w'.cell? ⟨w.heap.size, 0, none⟩ = some (.int .i64 1) ∧ w'.cell? ⟨w.heap.size, 1, none⟩ = some (.int .i64 at') ∧ w'.cell? ⟨w.heap.size, 2, none⟩ = some (.int .i64 n) ∧ w'.cell? ⟨w.heap.size, 3, none⟩ = some (.int .u8 (by'.toNat : Int)) ∧ w'.cell? ⟨w.heap.size, 4, none⟩ = some (.int .u8 (odd.toNat : Int)) ∧ w'.cell? ⟨w.heap.size, 5, none⟩ = some (.slice ra raw.length rc) ∧ w'.cell? ⟨w.heap.size, 6, none⟩ = some (.slice ka keep.length kc) := fun w' h1 h2 =>
    have b := h1.blk KB (by decide)
    ⟨h1, h2, b.cell 0, b.cell 1, b.cell 2, b.cell 3, b.cell 4, b.cell 5, b.cell 6⟩
  have c0 : (w.alloc (.cells (oqc ⟨1, at', n, by', odd, raw, ra, rc, keep, ka, kc⟩).toArray 34)).cell? ⟨w.heap.size, 0, none⟩ = some (.int .i64 1) := KB.cell 0
  have Hb := mkHid hb
  clear hP hD hF hb ho KB hk hbs
  simp only [oqc] at *
  go_enter Try.func10, Try.ntmps10
  go_wp2_with fail
  generalize w.alloc (.cells #[.int .i64 1, .int .i64 at', .int .i64 n, .int .u8 (by'.toNat : Int), .int .u8 (odd.toNat : Int), .slice ra raw.length rc, .slice ka keep.length kc] 34) = Y at *
  generalize bs.length = bl at *
  go_region_held3 (fun w' => KeepO [34] Y w' ∧ Below base Y w' ∧ w'.cell? ⟨w.heap.size, 0, none⟩ = some (.int .i64 1) ∧ w'.cell? ⟨w.heap.size, 1, none⟩ = some (.int .i64 at') ∧ w'.cell? ⟨w.heap.size, 2, none⟩ = some (.int .i64 n) ∧ w'.cell? ⟨w.heap.size, 3, none⟩ = some (.int .u8 (by'.toNat : Int)) ∧ w'.cell? ⟨w.heap.size, 4, none⟩ = some (.int .u8 (odd.toNat : Int)) ∧ w'.cell? ⟨w.heap.size, 5, none⟩ = some (.slice ra raw.length rc) ∧ w'.cell? ⟨w.heap.size, 6, none⟩ = some (.slice ka keep.length kc))
    (first | exact HKP _ ((KeepO.refl _ Y).drew) ((Below.refl _ Y).drew) | assumption | (have hq0 := ‹KeepO _ _ _ ∧ Below _ _ _ ∧ _›; exact HKP _ (hq0.1.trans hkx) (hq0.2.1.trans hbx)))
    (first
      | (go_at_call 23; have hq0 := ‹KeepO _ _ _ ∧ Below _ _ _ ∧ _›; refine (HBy _ hq0.2.1).mono ?_; rintro e x1 ⟨⟨ba, bc, rfl, hby⟩, hnx, hkx, hbx⟩; clear hq0)
      | (go_at_call 15; refine (HW1 _ _ _ (ok.keep HP.out (KeepT.of_below (((Below.refl _ Y).drew).trans hnx.out))) hby.out).mono ?_; rintro e x2 ⟨rfl, hI2, hU2, hkx, hbx⟩; have hD2 := mkHid (((HD.out.on ((Below.refl _ Y).drew)).on hnx.out).keepO hU2.out inU9a inU9b inU9c))
      | (go_at_call 24; refine (HW2 _ _ _ (hD2.out.on hnx.out) hby.out).mono ?_; rintro e x4 ⟨rfl, hR4, hT4, hkx, hbx⟩; have hI4 := mkHid (ok.keep (ok.keep hI2.out (KeepT.of_below hnx.out)) hT4.out)))
  all_goals
    have hq9 := ‹KeepO _ _ _ ∧ Below _ _ _ ∧ _›
    go_wp2_with fail
    go_ret
    exact ⟨rfl, HE.out _ hI4.out hR4.out, ((HB.out).mono Hb.out).trans hq9.2.1⟩

theorem step9 {X : Nat → Prop} {Is : World → Nat → Nat → Pl → Prop} (ok : DiskOK X Is) (o : Oq) (P D base k : Nat) (w : World) (h : Both9 Is P D base k w) (hk : k ≤ 100000) (hb : base ≤ w.heap.size) (ho : OkQ w base o) :
    Calls Try.prog 10 #[.pointer (some ⟨P, 0, none⟩), .pointer (some ⟨D, 0, none⟩), .agg (oqc o).toArray] w fun e w' => e = .returned (.bool true) ∧ Both9 Is P D base (k + 1) w' ∧ Below base w w' := by
  by_cases h1 : o.kind = 1
  · exact step9_write ok o P D base k w h hk hb ho h1
  by_cases h2 : o.kind = 2
  · exact step9_read ok o P D base k w h hk hb ho h2
  by_cases h3 : o.kind = 3
  · exact step9_flush ok o P D base k w h hk hb h3
  by_cases h4 : o.kind = 4
  · exact step9_arm ok o P D base k w h hk hb ho h4
  by_cases h5 : o.kind = 5
  · exact step9_crash ok o P D base k w h hk hb ho h5
  by_cases h6 : o.kind = 6
  · exact step9_stable ok o P D base k w h hk hb ho h6
  exact step9_none ok o P D base k w h hk hb ho ⟨h1, h2, h3, h4, h5, h6⟩
end Go.Proofs.Ytjmgodlefaadoaa
