/- The statements' step: one call of both disks. -/
import Derived.Test.YtjmgodlefaadoaaDk9
import Derived.Test.YtjmgodlefaadoaaRefSame
namespace Go.Proofs.Ytjmgodlefaadoaa
open Go.RowKit

/-- how much there may be behind k calls -/
structure FewR (r : Rd) (k : Nat) : Prop where
  n : r.n ≤ 4096
  sc : r.S.length + r.C.length ≤ k
  at_ : ∀ g ∈ r.C, g.at_ < r.n ∧ g.b.length = 512
  wr : r.wr ≤ k
  fl : r.fl ≤ k
  left : r.left ≤ 9223372036854775807
theorem FewR.few {r : Rd} {k : Nat} (h : FewR r k) (hk : k ≤ 100000) : FewP (plOf r) := by
  obtain ⟨h1, h2, h3, h4, h5, _⟩ := h
  refine ⟨h1, ?_, ?_, ?_, ?_⟩
  · simp [plOf]; omega
  · intro g hg
    obtain ⟨x, hx, rfl⟩ := List.mem_map.1 hg
    exact h3 x hx
  · simp [plOf]; omega
  · simp [plOf]; omega
theorem FewR.more {r : Rd} {k : Nat} (h : FewR r k) : FewR r (k + 1) := by
  obtain ⟨h1, h2, h3, h4, h5, h6⟩ := h
  exact ⟨h1, by omega, h3, by omega, by omega, h6⟩
theorem FewR.flush {r : Rd} {k : Nat} (h : FewR r k) : FewR (flushR r) (k + 1) := by
  unfold flushR
  split
  · exact h.more
  · obtain ⟨h1, h2, h3, h4, h5, h6⟩ := h
    refine ⟨h1, ?_, fun g hg => (by cases hg), by show r.wr ≤ _; omega, by show r.fl + 1 ≤ _; omega, h6⟩
    have := fold_len r.C r.S
    show (List.foldl settleW r.S r.C).length + 0 ≤ _
    omega
theorem FewR.arm {r : Rd} {k : Nat} (h : FewR r k) (z : Int) (hz : z ≤ 9223372036854775807) : FewR (armR r z) (k + 1) := by
  obtain ⟨h1, h2, h3, h4, h5, h6⟩ := h
  refine ⟨h1, by show r.S.length + r.C.length ≤ _; omega, h3, by show r.wr ≤ _; omega, by show r.fl ≤ _; omega, by show (max z 0).toNat ≤ _; omega⟩
theorem FewR.crash {r : Rd} {k : Nat} (h : FewR r k) (ks : List Bool) : FewR (crashR r ks) (k + 1) := by
  obtain ⟨h1, h2, h3, h4, h5, h6⟩ := h
  refine ⟨h1, ?_, fun g hg => (by cases hg), by show r.wr ≤ _; omega, by show r.fl ≤ _; omega, by show 0 ≤ _; omega⟩
  have := fold_len (keptW r.C ks) r.S
  have := keptW_len r.C ks
  show (List.foldl settleW r.S (keptW r.C ks)).length + 0 ≤ _
  omega
theorem FewR.write {r r' : Rd} {i : Int} {b : List UInt8} {k : Nat} (h : FewR r k) (hw : WrTo r i b r') : FewR r' (k + 1) := by
  rcases hw with ⟨he, g, e1, e2, rfl⟩ | ⟨_, _, rfl⟩ | ⟨_, _, rfl⟩
  · obtain ⟨h1, h2, h3, h4, h5, h6⟩ := h
    refine ⟨h1, ?_, ?_, by show r.wr + 1 ≤ _; omega, by show r.fl ≤ _; omega, ?_⟩
    · show r.S.length + (r.C ++ [g]).length ≤ _
      rw [List.length_append]; simp only [List.length_cons, List.length_nil]; omega
    · intro x hx
      rcases List.mem_append.1 hx with hx | hx
      · exact h3 x hx
      · obtain rfl := List.mem_singleton.1 hx
        unfold wrE at he
        cases ho : r.off with
        | true => rw [ho] at he; simp at he
        | false =>
          cases hi : inR r.n i with
          | false => rw [ho, hi] at he; simp at he
          | true =>
            by_cases hb : b.length = 512
            · refine ⟨?_, by rw [e2]; exact hb⟩
              have := of_decide_eq_true hi
              show x.at_ < r.n
              omega
            · rw [ho, hi] at he; simp [hb] at he
    · show nextL r ≤ _
      unfold nextL; split <;> omega
  · obtain ⟨h1, h2, h3, h4, h5, h6⟩ := h
    exact ⟨h1, by show r.S.length + r.C.length ≤ _; omega, h3, by show r.wr ≤ _; omega, by show r.fl ≤ _; omega, h6⟩
  · exact h.more

/-- both disks, in one world, behind k calls -/
def Both9 (Is : World → Nat → Nat → Pl → Prop) (P D base k : Nat) (w : World) : Prop := ∃ r vS vC, Is w P base (plOf r) ∧ IsRD w D base r vS vC ∧ FewR r k
theorem Both9.on {X : Nat → Prop} {Is : World → Nat → Nat → Pl → Prop} (ok : DiskOK X Is) {P D base k : Nat} {w w' : World} (h : Both9 Is P D base k w) (hb : Below w.heap.size w w') : Both9 Is P D base k w' := by
  obtain ⟨r, vS, vC, h1, h2, h3⟩ := h
  exact ⟨r, vS, vC, ok.keep h1 (KeepT.of_below hb), h2.on hb, h3⟩
theorem inU9a : 41 ∈ U9 := by decide
theorem inU9b : 77 ∈ U9 := by decide
theorem inU9c : 5 ∈ U9 := by decide
theorem inU9d : 34 ∈ U9 := by decide
theorem box_bel (w : World) (o : Oq) : Below w.heap.size w (w.alloc (.cells (oqc o).toArray 34)) := (Below.refl _ w).alloc (Nat.le_refl _) _

set_option maxRecDepth 20000 in
set_option maxHeartbeats 1000000 in
theorem step9_flush {X : Nat → Prop} {Is : World → Nat → Nat → Pl → Prop} (ok : DiskOK X Is) (o : Oq) (P D base k : Nat) (w : World) (h : Both9 Is P D base k w) (hk : k ≤ 100000) (hb : base ≤ w.heap.size) (hkind : o.kind = 3) :
    Calls Try.prog 10 #[.pointer (some ⟨P, 0, none⟩), .pointer (some ⟨D, 0, none⟩), .agg (oqc o).toArray] w fun e w' => e = .returned (.bool true) ∧ Both9 Is P D base (k + 1) w' ∧ Below base w w' := by
  obtain ⟨kind, at', n, by', odd, raw, ra, rc, keep, ka, kc⟩ := o
  change kind = 3 at hkind
  subst hkind
  have HB := mkHid (box_bel w ⟨3, at', n, by', odd, raw, ra, rc, keep, ka, kc⟩)
  obtain ⟨r, vS, vC, hP, hD, hF⟩ := h
  have HF := mkHid (hF.few hk)
  have HR := mkHid hF
  have H1 := ok.flush _ P base _ (ok.keep hP (KeepT.of_below HB.out)) HF.out
  have HD := mkHid (hD.on HB.out)
  have H2 := fun W (hW : IsRD W D base r vS vC) => refFlush9 D base r vS vC W hW (by have := HR.out.sc; omega) (by have := HR.out.fl; omega)
  rw [pl_flE] at H2
  generalize hq : (plOf r).flE = q at *
  have c0 : (w.alloc (.cells (oqc ⟨3, at', n, by', odd, raw, ra, rc, keep, ka, kc⟩).toArray 34)).cell? ⟨w.heap.size, 0, none⟩ = some (.int .i64 3) := (Blk.new w _ (oqc _)).cell 0
  have Hb := mkHid hb
  clear hq hP hD hF hb hk
  simp only [oqc] at *
  go_enter Try.func10, Try.ntmps10
  go_wp2_with fail
  refine H1.mono ?_
  rintro e w1 ⟨rfl, hI1, hK1, hB1⟩
  have hD1 := HD.out.keepO hK1.o inU9a inU9b inU9c
  go_wp2_with fail
  refine (H2 _ hD1).mono ?_
  rintro e w2 ⟨rfl, ⟨vS', vC', hR2⟩, hK2, hB2⟩
  have HI2 := mkHid (ok.keep hI1 hK2)
  rw [← pl_flush] at HI2
  go_wp2_with fail
  go_ret
  exact ⟨rfl, ⟨flushR r, vS', vC', HI2.out, hR2, HR.out.flush⟩, (((HB.out).mono Hb.out).trans hB1).trans hB2⟩
end Go.Proofs.Ytjmgodlefaadoaa
