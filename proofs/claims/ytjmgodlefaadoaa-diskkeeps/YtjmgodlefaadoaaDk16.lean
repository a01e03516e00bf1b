/- DiskArmed: the walk, over any disk that keeps the document. -/
import Derived.Test.YtjmgodlefaadoaaDk14
namespace Go.Proofs.Ytjmgodlefaadoaa
open Go.RowKit

/-- armed with n, behind k writes -/
def ar (n k : Nat) : Pl := ⟨64, fun _ => zero512, (List.range k).map (fun i => (i % 64, secL 1 2)), false, some (n - k), k, 0⟩
def arO (n : Nat) : Pl := { ar n n with off := true }
def arC (n : Nat) : Pl := ⟨64, fun _ => zero512, [], false, none, n, 0⟩
theorem ar_0 (z : Int) (h : 0 ≤ z) : (Pl.new 64).armed z = ar z.toNat 0 := by
  unfold Pl.armed ar Pl.new
  rw [if_pos h]
  rfl
theorem ar_k (n k : Nat) (h : k < n) : (ar n k).wrE ((k % 64 : Nat) : Int) (secL 1 2) = 0 ∧ (ar n k).write ((k % 64 : Nat) : Int) (secL 1 2) = ar n (k + 1) := by
  obtain ⟨h1, h2⟩ := wr_good (ar n k) ((k % 64 : Nat) : Int) 1 2 rfl (decide_eq_true ⟨by omega, by show ((k % 64 : Nat) : Int) < ((64 : Nat) : Int); omega⟩) (by unfold ar; simp; omega)
  refine ⟨h1, h2.trans ?_⟩
  unfold ar
  simp only [Option.map_some, List.range_succ, List.map_append, List.map_cons, List.map_nil, Int.toNat_natCast]
  rfl
theorem ar_n (n : Nat) : (ar n n).wrE 0 (secL 1 2) = 51 ∧ (ar n n).write 0 (secL 1 2) = arO n := by
  have e : (ar n n).arm = some 0 := by unfold ar; simp
  have i0 : inR (ar n n).n 0 = true := by show inR 64 0 = true; decide
  have o0 : (ar n n).off = false := rfl
  unfold Pl.wrE Pl.write arO
  simp [e, i0, o0, secL_len]
theorem arO_fl (n : Nat) : (arO n).flE = 51 ∧ (arO n).flush = arO n := ⟨rfl, rfl⟩
theorem arO_rd (n : Nat) : (arO n).rdE 0 = 51 := rfl
theorem arO_cr (n : Nat) : (arO n).crash [] = arC n := by
  unfold Pl.crash arO arC
  have : Pl.kept (ar n n).ca [] = [] := by cases (ar n n).ca <;> rfl
  simp only [this]
  rfl
theorem arC_wr (n : Nat) : (arC n).wrE 0 (secL 1 2) = 0 := (wr_good (arC n) 0 1 2 rfl (by show inR 64 0 = true; decide) (by simp [arC])).1
theorem few_ar (n k : Nat) (h : k ≤ 1000) : FewP (ar n k) := ⟨by show 64 ≤ _; omega, by show (List.map _ _).length ≤ _; rw [List.length_map, List.length_range]; omega, fun g hg => by
  obtain ⟨i, _, rfl⟩ := List.mem_map.1 hg
  exact ⟨by show i % 64 < 64; omega, secL_len _ _⟩, by show k ≤ _; omega, Nat.zero_le _⟩
theorem few_arO (n : Nat) (h : n ≤ 1000) : FewP (arO n) := ⟨(few_ar n n h).1, (few_ar n n h).2, (few_ar n n h).3, (few_ar n n h).4, (few_ar n n h).5⟩
theorem few_arC (n : Nat) (h : n ≤ 1000) : FewP (arC n) := ⟨by show 64 ≤ _; omega, Nat.zero_le _, fun g hg => (by cases hg), by show n ≤ _; omega, Nat.zero_le _⟩
theorem sec12 (w : World) : Calls Try.prog 16 #[.int .u8 1, .int .u8 2] w fun e w' => ∃ v, e = .returned v ∧ OwnB w' w.heap.size v (secL 1 2) ∧ Below w.heap.size w w' := lawSector9 1 2 w
/-- a disk that stands so, and all below base as it was -/
structure At9 (Is : World → Nat → Nat → Pl → Prop) (P base : Nat) (p : Pl) (w0 w : World) : Prop where
  is : Is w P base p
  bel : Below base w0 w
  le : base ≤ w.heap.size
theorem At9.on {X : Nat → Prop} {Is : World → Nat → Nat → Pl → Prop} (ok : DiskOK X Is) {P base : Nat} {p : Pl} {w0 w w' : World} (h : At9 Is P base p w0 w) (hb : Below w.heap.size w w') : At9 Is P base p w0 w' :=
  ⟨ok.keep h.is (KeepT.of_below hb), h.bel.trans (hb.mono h.le), Nat.le_trans h.le hb.size⟩
theorem At9.next {Is : World → Nat → Nat → Pl → Prop} {P base : Nat} {p p' : Pl} {w0 w w' : World} (h : At9 Is P base p w0 w) (hi : Is w' P base p') (hb : Below base w w') : At9 Is P base p' w0 w' :=
  ⟨hi, h.bel.trans hb, Nat.le_trans h.le hb.size⟩
/-- Write of a sector, at a disk that stands so -/
theorem At9.write {X : Nat → Prop} {Is : World → Nat → Nat → Pl → Prop} (ok : DiskOK X Is) {P base base' : Nat} {p : Pl} {w0 w : World} (h : At9 Is P base p w0 w) (hf : FewP p) {i : Int} (h0 : -9223372036854775808 ≤ i) (h1 : i ≤ 9223372036854775807) {v : Value} {b : List UInt8} (hl : b.length ≤ 140737488351232) (hv : OwnB w base' v b) :
    Calls Try.prog 15 #[.pointer (some ⟨P, 0, none⟩), .int .i64 i, v] w fun e w' => e = .returned (.int .i64 (p.wrE i b)) ∧ At9 Is P base (p.write i b) w0 w' := by
  refine (okWrite ok h.is hf h0 h1 hl hv).mono ?_
  rintro e w' ⟨h1, h2, _, h4⟩
  exact ⟨h1, h.next h2 h4⟩
theorem At9.new {X : Nat → Prop} {Is : World → Nat → Nat → Pl → Prop} (ok : DiskOK X Is) (w : World) (hX : ∀ k, X k → k < w.heap.size) :
    Calls Try.prog 8 #[.int .i64 64] w fun e w' => ∃ P, e = .returned (.tuple #[.pointer (some ⟨P, 0, none⟩), .int .i64 0]) ∧ At9 Is P w.heap.size (Pl.new 64) w w' := by
  refine (ok.new 64 w w.heap.size (Nat.le_refl _) hX (by omega) (by omega)).mono ?_
  rintro e w' ⟨h1, h2⟩
  rw [if_pos (by omega)] at h1
  obtain ⟨P, rfl, hI⟩ := h1
  exact ⟨P, rfl, hI, h2, h2.size⟩
theorem At9.down {X : Nat → Prop} {Is : World → Nat → Nat → Pl → Prop} (ok : DiskOK X Is) {P base : Nat} {p : Pl} {w0 w : World} (h : At9 Is P base p w0 w) (hf : FewP p) :
    Calls Try.prog 13 #[.pointer (some ⟨P, 0, none⟩)] w fun e w' => e = .returned (.bool p.off) ∧ At9 Is P base p w0 w' := by
  refine (ok.down _ P base p h.is hf).mono ?_
  rintro e w' ⟨h1, h2, _, h4⟩
  exact ⟨h1, h.next h2 h4⟩
theorem At9.cached {X : Nat → Prop} {Is : World → Nat → Nat → Pl → Prop} (ok : DiskOK X Is) {P base : Nat} {p : Pl} {w0 w : World} (h : At9 Is P base p w0 w) (hf : FewP p) :
    Calls Try.prog 14 #[.pointer (some ⟨P, 0, none⟩)] w fun e w' => e = .returned (.int .i64 (p.ca.length : Int)) ∧ At9 Is P base p w0 w' := by
  refine (ok.cached _ P base p h.is hf).mono ?_
  rintro e w' ⟨h1, h2, _, h4⟩
  exact ⟨h1, h.next h2 h4⟩
theorem At9.flush {X : Nat → Prop} {Is : World → Nat → Nat → Pl → Prop} (ok : DiskOK X Is) {P base : Nat} {p : Pl} {w0 w : World} (h : At9 Is P base p w0 w) (hf : FewP p) :
    Calls Try.prog 17 #[.pointer (some ⟨P, 0, none⟩)] w fun e w' => e = .returned (.int .i64 p.flE) ∧ At9 Is P base p.flush w0 w' := by
  refine (ok.flush _ P base p h.is hf).mono ?_
  rintro e w' ⟨h1, h2, _, h4⟩
  exact ⟨h1, h.next h2 h4⟩
theorem At9.arm {X : Nat → Prop} {Is : World → Nat → Nat → Pl → Prop} (ok : DiskOK X Is) {P base : Nat} {p : Pl} {w0 w : World} (h : At9 Is P base p w0 w) (hf : FewP p) (z : Int) (h0 : -9223372036854775808 ≤ z) (h1 : z ≤ 9223372036854775807) :
    Calls Try.prog 21 #[.pointer (some ⟨P, 0, none⟩), .int .i64 z] w fun e w' => (∃ x, e = .returned x) ∧ At9 Is P base (p.armed z) w0 w' := by
  refine (ok.arm _ P base p z h.is hf h0 h1).mono ?_
  rintro e w' ⟨h1, h2, _, h4⟩
  exact ⟨h1, h.next h2 h4⟩
theorem At9.crash {X : Nat → Prop} {Is : World → Nat → Nat → Pl → Prop} (ok : DiskOK X Is) {P base : Nat} {p : Pl} {w0 w : World} (h : At9 Is P base p w0 w) (hf : FewP p) (ka : Option Addr) (kc : Nat) (ks : List Bool) (hl : ks.length ≤ 140737488351232) (hk : ∀ W, Below base w W → IsKs W ka ks.length kc ks) :
    Calls Try.prog 18 #[.pointer (some ⟨P, 0, none⟩), .slice ka ks.length kc] w fun e w' => (∃ x, e = .returned x) ∧ At9 Is P base (p.crash ks) w0 w' := by
  refine (ok.crash _ P base p ka kc ks h.is hf hl (fun W _ hb => hk W hb)).mono ?_
  rintro e w' ⟨h1, h2, _, h4⟩
  exact ⟨h1, h.next h2 h4⟩
theorem At9.read {X : Nat → Prop} {Is : World → Nat → Nat → Pl → Prop} (ok : DiskOK X Is) {P base : Nat} {p : Pl} {w0 w : World} (h : At9 Is P base p w0 w) (hf : FewP p) (i : Int) (h0 : -9223372036854775808 ≤ i) (h1 : i ≤ 9223372036854775807) :
    Calls Try.prog 19 #[.pointer (some ⟨P, 0, none⟩), .int .i64 i] w fun e w' => (∃ v, e = .returned (.tuple #[v, .int .i64 (p.rdE i)]) ∧ IsV w' v (p.rdB i)) ∧ At9 Is P base p w0 w' := by
  refine (ok.read _ P base p i h.is hf h0 h1).mono ?_
  rintro e w' ⟨h1, h2, _, h4⟩
  exact ⟨h1, h.next h2 h4⟩
end Go.Proofs.Ytjmgodlefaadoaa
