/- What the document's Sha256 answers. -/
import Derived.Test.YtmgflcglmakceaaRefPad
import Derived.Test.YtmgflcglmakceaaRefWords
import Derived.Test.YtmgflcglmakceaaSha256
import Derived.Test.YtmgflcglmakceaaAppK
namespace Go.Proofs.Ytmgflcglmakceaa
open Go.RowKit
attribute [local go_sem] w_add w_addw w_xor w_and w_not w_notm w_shr3 w_shr10

theorem IsW.at0 {w : World} {g len cap : Nat} {l : List UInt32} (h : IsW w (some ⟨g, 0, none⟩) len cap l) (i : Nat) (hi : i < len) : w.cell? ⟨g, i, none⟩ = some (.int .u32 ((nthW l i).toNat : Int)) := by
  obtain ⟨b, off, e, hc⟩ := h.cells (by omega)
  injection e with e
  injection e with e1 e2
  subst e1 e2
  have := hc i hi
  rwa [Nat.zero_add] at this

theorem OwnW.empty (w : World) (base : Nat) (hb : base ≤ w.heap.size) : OwnW (w.alloc (.cells #[] 36)) base (.slice (some ⟨w.heap.size, 0, none⟩) 0 0) [] :=
  World.ownsRow_made w #[] 0 hb (Nat.zero_le _) rfl

theorem slC (b off len cap t : Nat) (ht : t + 64 ≤ cap) (w : World) : (Instr.slice 22 (.slice (some ⟨b, off, none⟩) len cap) (some (.int .i64 (t : Int))) (some (.int .i64 ((t : Int) + 64))) none).run Try.prog w = .ok (.slice (some ⟨b, off + t, none⟩) 64 (cap - t)) w := by
  have he : Try.prog.elem 22 = 5 := by kernel_rfl
  have hz : (sizeOf 5).run Try.prog w = .ok 1 w := by
    obtain ⟨i0, hi, hz0, hz1, hz2⟩ := info_parts info8
    simp [sizeOf, typeInfo, hi, hz1]
  rw [run_slice_lh w 22 _ len cap (by rw [he]; exact Try.underlying22) .i64 .i64 (t : Int) ((t : Int) + 64) (by omega) (by omega) (by omega), he, hz]
  have e : ((t : Int) + 64).toNat = t + 64 := by omega
  simp only [Result.andThen, sliced, Int.toNat_natCast, Nat.mul_one, Option.map_some, Addr.add_lit, e]
  rw [if_neg (by omega)]
  have e2 : t + 64 - t = 64 := by omega
  rw [e2]
attribute [local go_sem ↓] slC

/-- a part of a slice of bytes -/
theorem IsB.part {w : World} {b off len cap : Nat} {l : List UInt8} (h : IsB w (some ⟨b, off, none⟩) len cap l) (t : Nat) (ht : t + 64 ≤ len) : IsB w (some ⟨b, off + t, none⟩) 64 (cap - t) ((l.drop t).take 64) := by
  have hle := h.le
  have hl := h.len_eq
  refine ⟨by rw [List.length_take, List.length_drop]; omega, by omega, by have := h.max; omega, fun e => (by cases e), fun _ => ⟨b, off + t, rfl, fun i hi => ?_⟩⟩
  obtain ⟨b', off', e, hc⟩ := h.cells (by omega)
  injection e with e
  injection e with e1 e2
  subst e1 e2
  rw [Nat.add_assoc, hc (t + i) (by omega), nth_take _ _ _ hi, nth_drop]

theorem w_add4 (x y k v : UInt32) : ((x.toNat : Int) + (y.toNat : Int) + (k.toNat : Int) + (v.toNat : Int)) % 4294967296 = ((add32 (add32 (add32 x y) k) v).toNat : Int) := by
  unfold add32
  rw [UInt32.toNat_add, UInt32.toNat_add, UInt32.toNat_add]
  omega

/-- the first n words of a row with another one's added -/
def addTo (x y : List UInt32) (n : Nat) : List UInt32 := (List.range 8).map fun i => if i < n then add32 (nthW x i) (nthW y i) else nthW x i
theorem addTo_length (x y : List UInt32) (n : Nat) : (addTo x y n).length = 8 := by simp [addTo]
theorem addTo_at (x y : List UInt32) (n i : Nat) (h : i < 8) : nthW (addTo x y n) i = if i < n then add32 (nthW x i) (nthW y i) else nthW x i := by
  rw [nthW_eq _ _ (by rw [addTo_length]; exact h)]; simp [addTo]
theorem ext_nthW (l m : List UInt32) (h : l.length = m.length) (hn : ∀ k, k < l.length → nthW l k = nthW m k) : l = m := by
  apply List.ext_getElem h
  intro i h1 h2
  have := hn i h1
  rwa [nthW_eq l i h1, nthW_eq m i h2] at this
theorem addTo_zero (x y : List UInt32) (hx : x.length = 8) : addTo x y 0 = x := by
  refine ext_nthW _ _ (by rw [addTo_length, hx]) fun k hk => ?_
  rw [addTo_length] at hk
  rw [addTo_at _ _ _ _ hk, if_neg (by omega)]
theorem addTo_succ (x y : List UInt32) (n : Nat) : (addTo x y n).set n (add32 (nthW x n) (nthW y n)) = addTo x y (n + 1) := by
  refine ext_nthW _ _ (by rw [List.length_set, addTo_length, addTo_length]) fun k hk => ?_
  rw [List.length_set, addTo_length] at hk
  rw [addTo_at _ _ _ _ hk, nthW_eq _ _ (by rw [List.length_set, addTo_length]; exact hk), List.getElem_set]
  by_cases e : n = k
  · subst e
    rw [if_pos rfl, if_pos (by omega)]
  · rw [if_neg e, ← nthW_eq _ _ (by rw [addTo_length]; exact hk), addTo_at _ _ _ _ hk]
    by_cases hlt : k < n
    · rw [if_pos hlt, if_pos (by omega)]
    · rw [if_neg hlt, if_neg (by omega)]
theorem addTo_all (s r : S8) : addTo s.list r.list 8 = (addS s r).list := rfl

theorem IsW.setOther {w : World} {a : Option Addr} {len cap : Nat} {l : List UInt32} (h : IsW w a len cap l) (B j : Nat) (v : Value) (hne : ∀ x, a = some x → x.block ≠ B) : IsW (w.setCell ⟨B, j, none⟩ v) a len cap l :=
  ⟨h.len_eq, h.le, h.max, h.nil, fun hp => by
    obtain ⟨b, off, e, hc⟩ := h.cells hp
    refine ⟨b, off, e, fun i hl => ?_⟩
    rw [World.cell?_setCell_other _ _ _ _ (fun e' => hne _ e (by injection e' with e1; exact e1.symm))]
    exact hc i hl⟩
theorem IsB.setOther {w : World} {a : Option Addr} {len cap : Nat} {l : List UInt8} (h : IsB w a len cap l) (B j : Nat) (v : Value) (hne : ∀ x, a = some x → x.block ≠ B) : IsB (w.setCell ⟨B, j, none⟩ v) a len cap l :=
  ⟨h.len_eq, h.le, h.max, h.nil, fun hp => by
    obtain ⟨b, off, e, hc⟩ := h.cells hp
    refine ⟨b, off, e, fun i hl => ?_⟩
    rw [World.cell?_setCell_other _ _ _ _ (fun e' => hne _ e (by injection e' with e1; exact e1.symm))]
    exact hc i hl⟩
theorem IsW.drew {w : World} {a : Option Addr} {len cap : Nat} {l : List UInt32} (h : IsW w a len cap l) : IsW w.drew a len cap l :=
  h.below ((Below.refl _ _).drew) rfl

end Go.Proofs.Ytmgflcglmakceaa
