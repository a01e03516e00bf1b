/- DiskKeeps: plain, and what its round asks. -/
import Derived.Test.YtjmgodlefaadoaaDk15
import Derived.Test.YtjmgodlefaadoaaDk16
namespace Go.Proofs.Ytjmgodlefaadoaa
open Go.RowKit

/-- behind k calls, c of them kept -/
structure Kp (bb : UInt8) (q : Pl) (k c : Nat) : Prop where
  n : q.n = 64
  off : q.off = false
  arm : q.arm = none
  st : q.st 5 = secL bb 9
  ca : ∀ g ∈ q.ca, g.1 ≠ 5 ∧ g.1 < 64 ∧ g.2.length = 512
  len : q.ca.length = c
  le : c ≤ k
  wr : q.wr ≤ k + 1
  fl : q.fl = 1
def kp1 (bb : UInt8) : Pl := ⟨64, fun _ => zero512, [(5, secL bb 9)], false, none, 1, 0⟩
def kp2 (bb : UInt8) : Pl := ⟨64, Pl.put (fun _ => zero512) (5, secL bb 9), [], false, none, 1, 1⟩
theorem kp_1 (bb : UInt8) : (Pl.new 64).wrE 5 (secL bb 9) = 0 ∧ (Pl.new 64).write 5 (secL bb 9) = kp1 bb := by
  obtain ⟨h1, h2⟩ := wr_good (Pl.new 64) 5 bb 9 rfl (by decide) (by simp [Pl.new])
  exact ⟨h1, h2⟩
theorem kp_2 (bb : UInt8) : (kp1 bb).flE = 0 ∧ (kp1 bb).flush = kp2 bb := ⟨rfl, rfl⟩
theorem few_kp1 (bb : UInt8) : FewP (kp1 bb) := ⟨by show 64 ≤ _; omega, by show 1 ≤ _; omega, fun g hg => by obtain rfl := List.mem_singleton.1 hg; exact ⟨by show 5 < 64; omega, secL_len _ _⟩, by show 1 ≤ _; omega, Nat.zero_le _⟩
theorem kp_0 (bb : UInt8) : Kp bb (kp2 bb) 0 0 := ⟨rfl, rfl, rfl, rfl, fun g hg => (by cases hg), rfl, Nat.le_refl _, Nat.le_refl _, rfl⟩
theorem Kp.few {bb : UInt8} {q : Pl} {k c : Nat} (h : Kp bb q k c) (hk : k ≤ 1000) : FewP q :=
  ⟨by rw [h.n]; omega, by rw [h.len]; have := h.le; omega, fun g hg => ⟨by rw [h.n]; exact (h.ca g hg).2.1, (h.ca g hg).2.2⟩, by have := h.wr; omega, by rw [h.fl]; omega⟩
theorem Kp.skip {bb : UInt8} {q : Pl} {k c : Nat} (h : Kp bb q k c) : Kp bb q (k + 1) c :=
  ⟨h.n, h.off, h.arm, h.st, h.ca, h.len, by have := h.le; omega, by have := h.wr; omega, h.fl⟩
theorem Kp.good {bb : UInt8} {q : Pl} {k c : Nat} (h : Kp bb q k c) (i : Int) (a b : UInt8) (hi : inR 64 i = true) (h5 : i ≠ 5) : q.wrE i (secL a b) = 0 ∧ Kp bb (q.write i (secL a b)) (k + 1) (c + 1) := by
  obtain ⟨h1, h2⟩ := wr_good q i a b h.off (by rw [h.n]; exact hi) (by rw [h.arm]; simp)
  refine ⟨h1, ?_⟩
  rw [h2]
  have hi' := of_decide_eq_true hi
  refine ⟨h.n, h.off, by show q.arm.map _ = none; rw [h.arm]; rfl, h.st, ?_, ?_, by have := h.le; omega, by show q.wr + 1 ≤ _; have := h.wr; omega, h.fl⟩
  · intro g hg
    rcases List.mem_append.1 hg with hg | hg
    · exact h.ca g hg
    · obtain rfl := List.mem_singleton.1 hg
      exact ⟨by show i.toNat ≠ 5; omega, by show i.toNat < 64; omega, secL_len _ _⟩
  · show (q.ca ++ [_]).length = _
    rw [List.length_append, h.len]; rfl
theorem Kp.bad {bb : UInt8} {q : Pl} {k c : Nat} (h : Kp bb q k c) (i : Int) (a b : UInt8) (hi : inR 64 i = false) : q.wrE i (secL a b) = 50 ∧ q.write i (secL a b) = q := by
  unfold Pl.wrE Pl.write
  rw [h.off, h.n, hi]
  simp
theorem put_other (l : List (Nat × List UInt8)) (st : Nat → List UInt8) (i : Nat) (h : ∀ g ∈ l, g.1 ≠ i) : l.foldl Pl.put st i = st i := by
  induction l generalizing st with
  | nil => rfl
  | cons g l ih =>
    rw [List.foldl_cons, ih _ (fun x hx => h x (List.mem_cons_of_mem _ hx))]
    unfold Pl.put
    rw [if_neg (h g List.mem_cons_self)]
theorem kept_mem (l : List (Nat × List UInt8)) (ks : List Bool) : ∀ g ∈ Pl.kept l ks, g ∈ l := by
  induction l generalizing ks with
  | nil => intro g hg; simp [Pl.kept] at hg
  | cons x l ih =>
    cases ks with
    | nil => intro g hg; simp [Pl.kept] at hg
    | cons b ks =>
      intro g hg
      rw [Pl.kept] at hg
      cases b with
      | true =>
        rw [if_pos rfl] at hg
        rcases List.mem_cons.1 hg with rfl | hg
        · exact List.mem_cons_self
        · exact List.mem_cons_of_mem _ (ih ks g hg)
      | false =>
        rw [if_neg (by simp)] at hg
        exact List.mem_cons_of_mem _ (ih ks g hg)
theorem Kp.end {bb : UInt8} {q : Pl} {k c : Nat} (h : Kp bb q k c) (ks : List Bool) (hk : k ≤ 1000) : FewP (q.crash ks) ∧ (q.crash ks).rdE 5 = 0 ∧ (q.crash ks).rdB 5 = secL bb 9 ∧ (q.crash ks).ca.length = 0 := by
  have hi : inR (q.crash ks).n 5 = true := by show inR q.n 5 = true; rw [h.n]; decide
  refine ⟨⟨by show q.n ≤ _; rw [h.n]; omega, Nat.zero_le _, fun g hg => (by cases hg), by show q.wr ≤ _; have := h.wr; omega, by show q.fl ≤ _; rw [h.fl]; omega⟩, ?_, ?_, rfl⟩
  · unfold Pl.rdE Pl.stE
    rw [hi]; rfl
  · unfold Pl.rdB
    rw [hi]
    show (Pl.kept q.ca ks).foldl Pl.put q.st 5 = _
    rw [put_other _ _ _ (fun g hg => (h.ca g (kept_mem _ _ g hg)).1)]
    exact h.st
theorem sec_9 (bb : UInt8) (w : World) : Calls Try.prog 16 #[.int .u8 (bb.toNat : Int), .int .u8 9] w fun e w' => ∃ v, e = .returned v ∧ OwnB w' w.heap.size v (secL bb 9) ∧ Below w.heap.size w w' := lawSector9 bb 9 w
end Go.Proofs.Ytjmgodlefaadoaa
