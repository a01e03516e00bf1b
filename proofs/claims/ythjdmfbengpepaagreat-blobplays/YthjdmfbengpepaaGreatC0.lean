/- The program's transaction of space stays while refs are turned. · Blobs put and dropped on a new disk of 64, plain. -/
import Derived.Test.YthjdmfbengpepaaGreatB45
import Derived.Test.YthjdmfbengpepaaGreatB41
namespace Go.Proofs.YthjdmfbengpepaaGreat
open Go.RowKit

theorem SpAx.keepF {w w' : World} {S J P base : Nat} {t : Tl} {j : Jl} (h : SpAx w S J P base t j) (hk : KeepT [46] w w') : SpAx w' S J P base t j := by
  obtain ⟨T, g, c, h⟩ := h
  obtain ⟨M, tr, ht⟩ := h.ta
  exact ⟨T, g, c, ⟨M, tr, ⟨hk.blk ht.ja.blk (by decide), ht.ja.low, ht.ja.d.keep hk (by decide) (by decide) (by decide), ht.ja.seq⟩, hk.blk ht.blk (by decide), ht.low, ht.lowM, ownM_keep ht.own hk, ht.sort, ht.ok, ht.over⟩, hk.blk h.blk (by decide), h.low, own_keepO (KeepO.ofT (us := [5]) hk (by decide)) h.own (by decide)⟩
end Go.Proofs.YthjdmfbengpepaaGreat
namespace Go.Proofs.YthjdmfbengpepaaGreat
open Go.RowKit

theorem Outs.same {t : Tl} {L L' : List Int} (h : Outs t L) (hn : L'.Nodup) (hm : ∀ z, z ∈ L' ↔ z ∈ L) : Outs t L' :=
  ⟨h.fit, h.sort, h.keys, fun x h1 h2 => (h.mem x h1 h2).trans (hm _).symm, hn, fun z hz => h.rng z ((hm z).1 hz)⟩
theorem dropGo_outs : ∀ (S : List Int) (t : Tl) (L : List Int), Outs t L → S.Nodup → (∀ z ∈ S, z ∈ L) → ∃ t' L', dropGo aj0 S t = (0, t') ∧ Outs t' L' ∧ ∀ z, z ∈ L' ↔ z ∈ L ∧ z ∉ S := by
  intro S
  induction S with
  | nil => intro t L h _ _; exact ⟨t, L, rfl, h, fun z => ⟨fun hz => ⟨hz, List.not_mem_nil⟩, fun hz => hz.1⟩⟩
  | cons s S ih =>
    intro t L h hn hs
    obtain ⟨e, hO⟩ := h.give (hs s (List.mem_cons_self ..))
    obtain ⟨hns, hn2⟩ := List.nodup_cons.1 hn
    have hm : ∀ z, z ∈ lessL L s ↔ z ∈ L ∧ z ≠ s := fun z => by unfold lessL; simp
    obtain ⟨t', L', e2, hO2, hm2⟩ := ih (gvT t aj0 s) (lessL L s) hO hn2 (fun z hz => (hm z).2 ⟨hs z (List.mem_cons_of_mem _ hz), fun e => hns (by rw [← e]; exact hz)⟩)
    refine ⟨t', L', by rw [dropGo, if_neg (fun x => x e), e2], hO2, fun z => ?_⟩
    rw [hm2, hm, List.mem_cons]
    constructor
    · rintro ⟨⟨h1, h2⟩, h3⟩; exact ⟨h1, fun h => h.elim h2 h3⟩
    · rintro ⟨h1, h2⟩; exact ⟨⟨h1, fun e => h2 (.inl e)⟩, fun e => h2 (.inr e)⟩
/-- one of several refs dropped -/
theorem drop_one {t : Tl} {A B : List Int} {r : Rf} (h : Outs t (A ++ (r.secs ++ B))) (hr : rightL r = true) : dropE t aj0 r = 0 ∧ Outs (dropT t aj0 r) (A ++ B) := by
  have hn := h.nodup
  obtain ⟨hA, hSB, hd1⟩ := List.nodup_append.1 hn
  obtain ⟨hS, hB, hd2⟩ := List.nodup_append.1 hSB
  obtain ⟨t', L', e, hO, hm⟩ := dropGo_outs r.secs t _ h hS (fun z hz => List.mem_append_right _ (List.mem_append_left _ hz))
  refine ⟨by unfold dropE; rw [if_pos hr, e], ?_⟩
  unfold dropT
  rw [if_pos hr, e]
  refine hO.same ?_ (fun z => ?_)
  · exact List.nodup_append.2 ⟨hA, hB, fun x hx y hy => hd1 x hx y (List.mem_append_right _ hy)⟩
  · rw [hm, List.mem_append, List.mem_append, List.mem_append]
    constructor
    · rintro (hz | hz)
      · exact ⟨.inl hz, fun hs => hd1 z hz z (List.mem_append_left _ hs) rfl⟩
      · exact ⟨.inr (.inr hz), fun hs => hd2 z hs z hz rfl⟩
    · rintro ⟨hz | hz | hz, hs⟩
      · exact .inl hz
      · exact absurd hz hs
      · exact .inr hz
/-- what Put may say -/
theorem put_cases {t : Tl} {L : List Int} (h : Outs t L) (b : List UInt8) : (b.length ≤ 6144 ∧ L.length + putN b ≤ 13 ∧ putE t aj0 b = 0) ∨ ((putE t aj0 b = 3 ∨ putE t aj0 b = 44) ∧ putT t aj0 b = t ∧ putR t aj0 b = rf0) := by
  have hall := h.all
  by_cases hb : 6144 < b.length
  · have e : putE t aj0 b = 3 := by unfold putE; rw [if_pos hb]
    exact .inr ⟨.inl e, by unfold putT; rw [if_pos (.inl hb)], by unfold putR; rw [if_neg (by rw [e]; decide)]⟩
  · by_cases hr : roomOk t aj0 (putN b)
    · have hl : L.length + putN b ≤ 13 := by
        unfold roomOk at hr
        rw [show aj0.p.n - 51 = 13 from rfl] at hr
        rcases hr with h0 | ⟨h1, _⟩ <;> omega
      exact .inl ⟨by omega, hl, (put_get h (by omega) hl).1⟩
    · have e : putE t aj0 b = 44 := by unfold putE; rw [if_neg hb, if_pos hr]
      exact .inr ⟨.inr e, by unfold putT; rw [if_pos (.inr hr)], by unfold putR; rw [if_neg (by rw [e]; decide)]⟩
end Go.Proofs.YthjdmfbengpepaaGreat
