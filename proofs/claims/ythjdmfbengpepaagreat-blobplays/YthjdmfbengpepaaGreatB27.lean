/- The map behind a write; a bit turned. · SpaceOnce, plain: which sectors a transaction of a new disk of 64 has given out. -/
import Derived.Test.YthjdmfbengpepaaGreatB25
import Derived.Test.YthjdmfbengpepaaGreatB26
namespace Go.Proofs.YthjdmfbengpepaaGreat
open Go.RowKit

theorem flip_all : ∀ y : Fin 256, ∀ r : Fin 8, ∀ s : Fin 8, decide ((y.val ^^^ 2 ^ r.val) / 2 ^ s.val % 2 = 1) = (if s.val = r.val then !decide (y.val / 2 ^ s.val % 2 = 1) else decide (y.val / 2 ^ s.val % 2 = 1)) := by decide +kernel
theorem nth_setX (b : List UInt8) (q x : Nat) (y : UInt8) (h : q < b.length) : nth (b.set q y) x = if q = x then y else nth b x := by
  unfold nth
  rw [List.getD_eq_getElem?_getD, List.getElem?_set, List.getD_eq_getElem?_getD]
  by_cases e : q = x
  · rw [if_pos e, if_pos h, if_pos e]; rfl
  · rw [if_neg e, if_neg e]
theorem flip_bit (b : List UInt8) (k x : Nat) (hk : k / 8 < b.length) : bitN (flipL b k) x = if x = k then !bitN b k else bitN b x := by
  unfold bitN flipL
  rw [nth_setX b _ _ _ hk]
  by_cases e : k / 8 = x / 8
  · rw [if_pos e]
    have hp : 2 ^ (k % 8) < 256 := Nat.lt_of_lt_of_le (Nat.pow_lt_pow_right (by omega) (Nat.mod_lt k (by omega : 8 > 0))) (by decide)
    have h1 : (nth b (k / 8) ^^^ UInt8.ofNat (2 ^ (k % 8))).toNat = (nth b (k / 8)).toNat ^^^ 2 ^ (k % 8) := by
      rw [UInt8.toNat_xor, UInt8.toNat_ofNat', Nat.mod_eq_of_lt hp]
    rw [h1]
    have h2 := flip_all ⟨(nth b (k / 8)).toNat, (nth b (k / 8)).toNat_lt⟩ ⟨k % 8, Nat.mod_lt _ (by omega)⟩ ⟨x % 8, Nat.mod_lt _ (by omega)⟩
    simp only at h2
    rw [h2]
    by_cases hx : x = k
    · subst hx; rw [if_pos rfl, if_pos rfl]
    · rw [if_neg (by omega), if_neg hx, e]
  · rw [if_neg e, if_neg (fun h => e (by rw [h]))]
/-- a sector of a transaction found again -/
theorem find_put (l : Qs) (i : Nat) (b : List UInt8) (z : Int) : Tl.find (putQ l i b) z = if z = (i : Int) then some b else Tl.find l z := by
  unfold Tl.find
  induction l with
  | nil =>
    rw [putQ]
    by_cases e : z = (i : Int)
    · subst e; simp
    · rw [if_neg e]
      have h1 : (((i : Int) == z) : Bool) = false := beq_eq_false_iff_ne.2 (fun h => e h.symm)
      simp [List.find?, h1]
  | cons g l ih =>
    rw [putQ]
    split
    · rename_i h1
      rw [List.find?_cons, List.find?_cons]
      by_cases e : (g.1 : Int) = z
      · have hb : (((g.1 : Int) == z) : Bool) = true := by simp [e]
        rw [hb, if_neg (by omega)]
      · have hb : (((g.1 : Int) == z) : Bool) = false := beq_eq_false_iff_ne.2 e
        rw [hb]
        exact ih
    · split
      · rename_i h1 h2
        rw [List.find?_cons, List.find?_cons]
        by_cases e : z = (i : Int)
        · have hb : (((i : Int) == z) : Bool) = true := by simp [e]
          simp only [hb, if_pos e]
          rfl
        · have hb : (((i : Int) == z) : Bool) = false := beq_eq_false_iff_ne.2 (fun h => e h.symm)
          have hb2 : (((g.1 : Int) == z) : Bool) = false := by rw [h2]; exact hb
          simp only [hb, hb2, if_neg e]
      · rw [List.find?_cons]
        by_cases e : z = (i : Int)
        · have hb : (((i : Int) == z) : Bool) = true := by simp [e]
          simp only [hb, if_pos e]
          rfl
        · have hb : (((i : Int) == z) : Bool) = false := beq_eq_false_iff_ne.2 (fun h => e h.symm)
          simp only [hb, if_neg e]
/-- the map behind a write of the map, of another sector -/
theorem map_write {t : Tl} {j : Jl} {b : List UInt8} (hz : t.wrE j 49 b = 0) : mapL (t.write j 49 b) j = b := by
  have h : Tl.find (t.write j 49 b).l 49 = some b := by
    unfold Tl.write
    rw [if_pos hz]
    show Tl.find (putQ t.l 49 b) 49 = some b
    rw [find_put]
    exact if_pos rfl
  unfold mapL Tl.rdB
  rw [h]
theorem map_other {t : Tl} {j : Jl} {i : Int} {b : List UInt8} (hk : i ≠ 49) : mapL (t.write j i b) j = mapL t j := by
  have h : Tl.find (t.write j i b).l 49 = Tl.find t.l 49 := by
    unfold Tl.write
    split
    · show Tl.find (putQ t.l i.toNat b) 49 = _
      rw [find_put, if_neg (by omega)]
    · rfl
  unfold mapL Tl.rdB
  rw [h]
theorem own_isB {W : World} {base n cap : Nat} {A : Option Addr} {l : List UInt8} (h : OwnB W base (.slice A n cap) l) : IsB W A l.length cap l := by
  obtain ⟨a, c, e, hI⟩ := h.isB
  injection e with e1 e2 e3
  subst e1 e3
  exact hI
end Go.Proofs.YthjdmfbengpepaaGreat
namespace Go.Proofs.YthjdmfbengpepaaGreat
open Go.RowKit

/-- what is sorted is short -/
theorem sort_len (l : Qs) : ∀ (a b : Nat), SortQ l → (∀ g ∈ l, a ≤ g.1 ∧ g.1 < b) → l.length ≤ b - a := by
  induction l with
  | nil => intro a b _ _; exact Nat.zero_le _
  | cons g l ih =>
    intro a b hs hr
    have h1 := hr g (List.mem_cons_self ..)
    have hs' := List.pairwise_cons.1 hs
    have h2 := ih (g.1 + 1) b hs'.2 (fun x hx => ⟨hs'.1 x hx, (hr x (List.mem_cons_of_mem _ hx)).2⟩)
    rw [List.length_cons]
    omega
theorem tkGo_spec (b : List UInt8) : ∀ (f i : Nat), (tkGo b f i = i + f ∧ ∀ x, i ≤ x → x < i + f → bitN b x = true) ∨ (i ≤ tkGo b f i ∧ tkGo b f i < i + f ∧ bitN b (tkGo b f i) = false) := by
  intro f
  induction f with
  | zero => intro i; exact .inl ⟨rfl, fun x h1 h2 => by omega⟩
  | succ f ih =>
    intro i
    rw [tkGo]
    cases hb : bitN b i with
    | false => rw [if_neg (by simp)]; exact .inr ⟨Nat.le_refl _, by omega, hb⟩
    | true =>
      rw [if_pos rfl]
      rcases ih (i + 1) with ⟨h1, h2⟩ | ⟨h1, h2, h3⟩
      · refine .inl ⟨by omega, fun x hx hy => ?_⟩
        by_cases e : x = i
        · rw [e]; exact hb
        · exact h2 x (by omega) (by omega)
      · exact .inr ⟨by omega, by omega, h3⟩
/-- how many of a list lie below a -/
def lowN (L : List Int) (a : Int) : Nat := (L.filter fun z => decide (z < a)).length
theorem low_step (L : List Int) (a : Int) (hn : L.Nodup) : lowN L (a + 1) = lowN L a + (if a ∈ L then 1 else 0) := by
  unfold lowN
  induction L with
  | nil => simp
  | cons z L ih =>
    have hn' := List.nodup_cons.1 hn
    have ih' := ih hn'.2
    rw [List.filter_cons, List.filter_cons]
    by_cases e : z = a
    · subst e
      rw [if_pos (decide_eq_true (by omega)), if_neg (by simp), List.length_cons, ih', if_neg hn'.1, if_pos (List.mem_cons_self ..)]
    · have hm : (a ∈ z :: L) = (a ∈ L) := propext ⟨fun h => by rcases List.mem_cons.1 h with h | h; exact absurd h.symm e; exact h, fun h => List.mem_cons_of_mem _ h⟩
      by_cases h : z < a
      · rw [if_pos (decide_eq_true (by omega)), if_pos (decide_eq_true h), List.length_cons, List.length_cons, ih']
        simp only [hm]
        omega
      · rw [if_neg (by simp; omega), if_neg (by simp; omega), ih']
        simp only [hm]
theorem free_low (b : List UInt8) (L : List Int) (hn : L.Nodup) (hr : ∀ z ∈ L, 51 ≤ z ∧ z ≤ 63) (hm : ∀ x : Nat, 51 ≤ x → x < 64 → (bitN b x = true ↔ (x : Int) ∈ L)) : ∀ d, d ≤ 13 → freeL b d + lowN L ((51 + d : Nat) : Int) = d := by
  intro d
  induction d with
  | zero =>
    intro _
    unfold lowN
    rw [List.filter_eq_nil_iff.2 (fun z hz => by have := hr z hz; simp; omega)]
    rfl
  | succ d ih =>
    intro hd
    have h1 := ih (by omega)
    have h2 := low_step L ((51 + d : Nat) : Int) hn
    have h3 : (((51 + d : Nat) : Int) + 1) = ((51 + (d + 1) : Nat) : Int) := by omega
    rw [h3] at h2
    rw [h2, freeL]
    have h4 := hm (51 + d) (by omega) (by omega)
    by_cases e : bitN b (51 + d) = true
    · rw [if_pos e, if_pos (h4.1 e)]; omega
    · rw [if_neg e, if_neg (fun h => e (h4.2 h))]; omega
theorem free_all (b : List UInt8) (L : List Int) (hn : L.Nodup) (hr : ∀ z ∈ L, 51 ≤ z ∧ z ≤ 63) (hm : ∀ x : Nat, 51 ≤ x → x < 64 → (bitN b x = true ↔ (x : Int) ∈ L)) : freeL b 13 + L.length = 13 := by
  have h := free_low b L hn hr hm 13 (Nat.le_refl _)
  have e : lowN L ((51 + 13 : Nat) : Int) = L.length := by
    unfold lowN
    rw [List.filter_eq_self.2 (fun z hz => by have := hr z hz; simp; omega)]
  rw [e] at h
  exact h
theorem free_pos (b : List UInt8) (d x : Nat) (h1 : 51 ≤ x) (h2 : x < 51 + d) (hb : bitN b x = false) : 0 < freeL b d := by
  induction d with
  | zero => omega
  | succ d ih =>
    rw [freeL]
    by_cases e : x = 51 + d
    · rw [← e, hb]; simp
    · have := ih (by omega); omega
theorem free_zero (b : List UInt8) (d : Nat) (h : ∀ x, 51 ≤ x → x < 51 + d → bitN b x = true) : freeL b d = 0 := by
  induction d with
  | zero => rfl
  | succ d ih => rw [freeL, h (51 + d) (by omega) (by omega), ih (fun x h1 h2 => h x h1 (by omega))]; rfl
/-- a transaction of the new disk that has given out L -/
structure Outs (t : Tl) (L : List Int) : Prop where
  fit : Fit t aj0 0
  sort : SortQ t.l
  keys : ∀ g ∈ t.l, 49 ≤ g.1 ∧ g.1 < 64
  mem : ∀ x : Nat, 51 ≤ x → x < 64 → (bitN (mapL t aj0) x = true ↔ (x : Int) ∈ L)
  nodup : L.Nodup
  rng : ∀ z ∈ L, 51 ≤ z ∧ z ≤ 63
theorem aj_n : aj0.p.n = 64 := rfl
theorem Outs.len {t : Tl} {L : List Int} (h : Outs t L) : t.l.length ≤ 15 := sort_len t.l 49 64 h.sort h.keys
theorem Outs.all {t : Tl} {L : List Int} (h : Outs t L) : freeL (mapL t aj0) 13 + L.length = 13 := free_all _ L h.nodup h.rng h.mem
theorem wr_ok {t : Tl} {j : Jl} {i : Int} {b : List UInt8} (ho : t.over = false) (hd : j.dead = false) (hn : j.p.n = 64) (hl : t.l.length < 48) (h0 : 49 ≤ i) (h1 : i < 64) (hb : b.length = 512) : t.wrE j i b = 0 := by
  have h1 : ¬ (t.over = true ∨ j.dead = true) := by rw [ho, hd]; simp
  have h2 : ¬ areaI j.p.n i = false := by unfold areaI; rw [decide_eq_true (by omega)]; simp
  unfold Tl.wrE
  rw [if_neg h1, if_neg h2, if_neg (fun h => h hb), if_neg (fun h => by omega)]
theorem write_l {t : Tl} {j : Jl} {i : Nat} {b : List UInt8} (hz : t.wrE j (i : Int) b = 0) : (t.write j (i : Int) b).l = putQ t.l i b := by
  unfold Tl.write
  rw [if_pos hz]
  rfl
theorem write_keys {t : Tl} {j : Jl} {i : Nat} {b : List UInt8} (hz : t.wrE j (i : Int) b = 0) (hs : SortQ t.l) (hk : ∀ g ∈ t.l, 49 ≤ g.1 ∧ g.1 < 64) (h0 : 49 ≤ i) (h1 : i < 64) : SortQ (t.write j (i : Int) b).l ∧ ∀ g ∈ (t.write j (i : Int) b).l, 49 ≤ g.1 ∧ g.1 < 64 := by
  rw [write_l hz]
  refine ⟨putQ_sort _ _ _ hs, fun g hg => ?_⟩
  rcases putQ_mem _ _ _ g hg with e | e
  · exact hk g e
  · rw [e]; exact ⟨h0, h1⟩
theorem Outs.map_len {t : Tl} {L : List Int} (h : Outs t L) : (mapL t aj0).length = 512 := (map_ok h.fit.few h.fit.good.off h.fit.lens).2
theorem Outs.full {t : Tl} {L : List Int} (h : Outs t L) (hl : ¬ L.length < 13) : tkE t aj0 = 44 ∧ tkT t aj0 = t := by
  have hz : freeL (mapL t aj0) 13 = 0 := by have := h.all; omega
  have hk : tkK t aj0 = aj0.p.n := by
    unfold tkK tkI
    rcases tkGo_spec (mapL t aj0) (aj0.p.n - 51) 51 with ⟨h1, _⟩ | ⟨h1, h2, h3⟩
    · exact h1
    · have := free_pos _ 13 _ h1 h2 h3; omega
  obtain ⟨a, _, c⟩ := tk_full hk
  exact ⟨a, c⟩
theorem zero_len : zero512.length = 512 := by unfold zero512; exact List.length_replicate
theorem Outs.take {t : Tl} {L : List Int} (h : Outs t L) (hl : L.length < 13) : tkE t aj0 = 0 ∧ ∃ k : Nat, tkV t aj0 = k ∧ 51 ≤ k ∧ k < 64 ∧ (k : Int) ∉ L ∧ Outs (tkT t aj0) (L ++ [(k : Int)]) := by
  have hz : 0 < freeL (mapL t aj0) 13 := by have := h.all; omega
  have hk : 51 ≤ tkK t aj0 ∧ tkK t aj0 < 64 ∧ bitN (mapL t aj0) (tkK t aj0) = false := by
    unfold tkK tkI
    rcases tkGo_spec (mapL t aj0) (aj0.p.n - 51) 51 with ⟨_, h2⟩ | h1
    · have := free_zero (mapL t aj0) 13 h2; omega
    · exact h1
  obtain ⟨k, hke⟩ : ∃ k, tkK t aj0 = k := ⟨_, rfl⟩
  rw [hke] at hk
  obtain ⟨k1, k2, k3⟩ := hk
  have hlen := h.len
  have e1 : tkE1 t aj0 k = 0 := wr_ok h.fit.over h.fit.dead aj_n (by omega) (by omega) (by omega) zero_len
  obtain ⟨s1, q1⟩ := write_keys (b := zero512) e1 h.sort h.keys (by omega) k2
  have f1 : Fit (tkT1 t aj0 k) aj0 0 := h.fit.write _ _
  have m1 : mapL (tkT1 t aj0 k) aj0 = mapL t aj0 := map_other (by omega)
  have hfl : (flipL (mapL t aj0) k).length = 512 := by rw [flipL_length]; exact h.map_len
  have e2 : tkE2 t aj0 k = 0 := by
    unfold tkE2
    rw [m1]
    exact wr_ok f1.over f1.dead aj_n (by have := sort_len _ 49 64 s1 q1; exact Nat.lt_of_le_of_lt this (by omega)) (by omega) (by omega) hfl
  have hn : k < aj0.p.n := k2
  obtain ⟨a1, a2, a3⟩ := tk_yes hke hn e1 e2
  have hnot : (k : Int) ∉ L := fun hm => by rw [(h.mem k k1 k2).2 hm] at k3; cases k3
  refine ⟨a1, k, a2, k1, k2, hnot, ?_⟩
  have e2' : (tkT1 t aj0 k).wrE aj0 ((49 : Nat) : Int) (flipL (mapL t aj0) k) = 0 := by
    have := e2
    unfold tkE2 at this
    rw [m1] at this
    exact this
  obtain ⟨s2, q2⟩ := write_keys e2' s1 q1 (by omega) (by omega)
  rw [a3]
  have hT2 : tkT2 t aj0 k = (tkT1 t aj0 k).write aj0 ((49 : Nat) : Int) (flipL (mapL t aj0) k) := by unfold tkT2; rw [m1]; rfl
  have m2 : mapL (tkT2 t aj0 k) aj0 = flipL (mapL t aj0) k := by rw [hT2]; exact map_write e2'
  refine ⟨?_, ?_, ?_, ?_, ?_, ?_⟩
  · rw [hT2]; exact f1.write _ _
  · rw [hT2]; exact s2
  · rw [hT2]; exact q2
  · intro x hx hy
    rw [m2, flip_bit _ _ _ (by rw [h.map_len]; omega), List.mem_append, List.mem_singleton]
    by_cases e : x = k
    · subst e
      rw [if_pos rfl, k3]
      exact ⟨fun _ => .inr rfl, fun _ => rfl⟩
    · rw [if_neg e, h.mem x hx hy]
      exact ⟨fun h => .inl h, fun h => by rcases h with h | h; exact h; omega⟩
  · exact List.nodup_append.2 ⟨h.nodup, List.nodup_cons.2 ⟨List.not_mem_nil, List.nodup_nil⟩, fun x hx y hy e => by rw [List.mem_singleton.1 hy] at e; rw [e] at hx; exact hnot hx⟩
  · intro z hz
    rcases List.mem_append.1 hz with h1 | h1
    · exact h.rng z h1
    · rw [List.mem_singleton.1 h1]; omega
def lessL (L : List Int) (z : Int) : List Int := L.filter fun x => decide (x ≠ z)
theorem Outs.no {t : Tl} {L : List Int} (h : Outs t L) {z : Int} (hz : z ∉ L) : gvE t aj0 z = 50 ∧ gvT t aj0 z = t ∧ lessL L z = L := by
  have hg : gvNo t aj0 z := by
    unfold gvNo
    by_cases h1 : z < 51
    · exact .inl h1
    · by_cases h2 : (aj0.p.n : Int) ≤ z
      · exact .inr (.inl h2)
      · refine .inr (.inr ?_)
        obtain ⟨k, rfl⟩ : ∃ k : Nat, z = (k : Int) := ⟨z.toNat, by omega⟩
        rw [takenL_nat]
        have hn : aj0.p.n = 64 := rfl
        have := h.mem k (by omega) (by omega)
        exact Bool.eq_false_iff.2 (fun e => hz (this.1 e))
  refine ⟨by unfold gvE; rw [if_pos hg], by unfold gvT; rw [if_pos hg], ?_⟩
  unfold lessL
  exact List.filter_eq_self.2 (fun x hx => decide_eq_true (fun e => hz (by rw [← e]; exact hx)))
theorem Outs.give {t : Tl} {L : List Int} (h : Outs t L) {z : Int} (hz : z ∈ L) : gvE t aj0 z = 0 ∧ Outs (gvT t aj0 z) (lessL L z) := by
  have hr := h.rng z hz
  obtain ⟨k, rfl⟩ : ∃ k : Nat, z = (k : Int) := ⟨z.toNat, by omega⟩
  have hb : bitN (mapL t aj0) k = true := (h.mem k (by omega) (by omega)).2 hz
  have hn : aj0.p.n = 64 := rfl
  have hg : ¬ gvNo t aj0 (k : Int) := by
    unfold gvNo
    rw [takenL_nat, hb]
    intro hh
    rcases hh with h1 | h1 | h1
    · omega
    · omega
    · cases h1
  have hfl : (flipL (mapL t aj0) k).length = 512 := by rw [flipL_length]; exact h.map_len
  have e1 : t.wrE aj0 ((49 : Nat) : Int) (flipL (mapL t aj0) k) = 0 := wr_ok h.fit.over h.fit.dead aj_n (by have := h.len; omega) (by omega) (by omega) hfl
  have hT : gvT t aj0 (k : Int) = t.write aj0 ((49 : Nat) : Int) (flipL (mapL t aj0) k) := by unfold gvT; rw [if_neg hg]; rfl
  obtain ⟨s1, q1⟩ := write_keys e1 h.sort h.keys (by omega) (by omega)
  refine ⟨by unfold gvE; rw [if_neg hg]; exact e1, ?_⟩
  rw [hT]
  have m1 : mapL (t.write aj0 ((49 : Nat) : Int) (flipL (mapL t aj0) k)) aj0 = flipL (mapL t aj0) k := map_write e1
  refine ⟨h.fit.write _ _, s1, q1, ?_, ?_, ?_⟩
  · intro x hx hy
    rw [m1, flip_bit _ _ _ (by rw [h.map_len]; omega)]
    unfold lessL
    rw [List.mem_filter]
    by_cases e : x = k
    · subst e
      rw [if_pos rfl, hb]
      exact ⟨fun h => (by cases h), fun h => absurd rfl (of_decide_eq_true h.2)⟩
    · rw [if_neg e, h.mem x hx hy]
      exact ⟨fun h => ⟨h, decide_eq_true (by omega)⟩, fun h => h.1⟩
  · exact h.nodup.filter _
  · intro x hx
    exact h.rng x (List.mem_filter.1 hx).1
theorem outs0 : Outs as0 [] := by
  refine ⟨fit_0, List.Pairwise.nil, fun g hg => (by cases hg), fun x _ _ => ?_, List.nodup_nil, fun z hz => (by cases hz)⟩
  have e : nth (mapL as0 aj0) (x / 8) = 0 := by
    have h : mapL as0 aj0 = zero512 := rfl
    rw [h]
    unfold nth zero512
    rw [List.getD_eq_getElem?_getD, List.getElem?_replicate]
    split <;> rfl
  have e2 : bitN (mapL as0 aj0) x = false := by unfold bitN; rw [e]; simp
  rw [e2]
  exact ⟨fun h => (by cases h), fun h => (by cases h)⟩
end Go.Proofs.YthjdmfbengpepaaGreat
