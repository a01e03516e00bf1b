/- An append of words leaves the cells that were owned as they were. -/
import Derived.Test.YtmgflcglmakceaaOwnW
namespace Go.Proofs.Ytmgflcglmakceaa
open Go.RowKit

/-- an append leaves the cells that were owned as they were -/
theorem app_keeps (w : World) (ty : TypeId) (base g n cap : Nat) (l : List UInt32) (hn : l.length = n) (hown : OwnW w base (.slice (some ⟨g, 0, none⟩) n cap) l)
    (a : Addr) (m c : Nat) (news : List UInt32) (hl : news.length = m) (hnews : ∀ j u, (wv news)[j]? = some u → w.cell? (a.add j) = some u) (hb : n + m ≤ 35184372088832) {v' : Value} {w' : World}
    (hr : (Builtin.append_ #[58, 58] ty #[.slice (some ⟨g, 0, none⟩) n cap, .slice (some a) m c]).run Try.prog w = .ok v' w') (j : Nat) (hj : j < n) : w'.cell? ⟨g, j, none⟩ = w.cell? ⟨g, j, none⟩ := by
  subst hn
  obtain ⟨i0, hi, hz0, hz1, hz2⟩ := info_parts info32
  have hglt : g < w.heap.size := (hown.blk g rfl).2
  rcases hown.2 with ⟨h, _⟩ | ⟨g', cap', cur, h, hbg, hg, hnc, hcm, hcs, htake⟩
  · cases h
  · simp only [Value.slice.injEq, Option.some.injEq, Addr.mk.injEq, and_true, true_and] at h
    obtain ⟨rfl, rfl⟩ := h
    by_cases hroom : l.length + m ≤ cap
    · have hr2 := run_append_room (P := Try.prog) w 58 ty 36 i0 Try.underlying58 hi g l.length cap cur hg a m c (wv news) (by rw [wv_length, hl, hz1]; omega) hnews (wv_one news) hroom (by rw [wv_length, hl, hz1]; omega)
      rw [hr2] at hr
      have hw := (Result.ok.inj hr).2
      rw [← hw, cell_setRow_same w g j cur _ _ _ hg, cell_of_row w g j cur _ _ hg, hz1]
      simp only [Nat.mul_one, List.getElem?_toArray, List.append_assoc]
      have hcl : cur.toList.length = cap * 1 := by rw [Array.length_toList]; exact hcs
      rw [List.getElem?_append_left (by rw [List.length_take]; omega), List.getElem?_take, if_pos hj]
      simp
    · have holds : ∀ j u, (wv l)[j]? = some u → w.cell? ((⟨g, 0, none⟩ : Addr).add j) = some u := World.ownsRow.cells hown (g := g) rfl
      have hr2 := run_append_grow (P := Try.prog) w 58 ty 36 i0 (.int .u32 0) Try.underlying58 hi hz0 ⟨g, 0, none⟩ l.length cap (wv l) (by rw [wv_length, hz1]; omega) holds a m c (wv news) (by rw [wv_length, hl, hz1]; omega) hnews (by omega) (by omega) (growslice_fits (by omega) (by rw [hz2]; omega))
      rw [hr2] at hr
      have hw := (Result.ok.inj hr).2
      rw [← hw]
      exact World.cell?_alloc_lt _ _ _ hglt

/-- append of words in a region that draws; what was there stays -/
theorem step_app32k {ops : Array Oper} {o : Oper} {a : Act} {K : Act → World → Prop} {Q : Exit → Act → World → Prop} {E : Prop} (w : World) (hgd : o.guard = none) (s x : Operand)
    (ho : o.op = .call { callee := .builtin .append, args := #[s, x], argTypes := #[58, 58] }) (base : Nat)
    (g0 n c0 : Nat) (l : List UInt32) (hn : l.length = n) (hs : a.eval s = .slice (some ⟨g0, 0, none⟩) n c0) (hown : OwnW w base (.slice (some ⟨g0, 0, none⟩) n c0) l) (B m c : Nat) (news : List UInt32) (hx : a.eval x = .slice (some ⟨B, 0, none⟩) m c) (hl : news.length = m)
    (hb : w.heap[B]? = some (.cells (wv news).toArray 36 (0, 0))) (hm : 0 < m) (hbytes : n + m ≤ 35184372088832) (hbase : base ≤ w.heap.size)
    (h : ∀ g cap w', OwnW w' base (.slice (some ⟨g, 0, none⟩) (n + m) cap) (l ++ news) → w.grownBy w' (some g0) → (∀ j, j < n → w'.cell? ⟨g0, j, none⟩ = w.cell? ⟨g0, j, none⟩) → K (a.put o.dst (.slice (some ⟨g, 0, none⟩) (n + m) cap)) w') :
    if Region.wanted o (yielded ops a.tmps) = true then Oper.wp Try.prog o a w K Q else E := by
  subst hn
  obtain ⟨i0, hi, hz0, hz1, hz2⟩ := info_parts info32
  have hw : Region.wanted o (yielded ops a.tmps) = true := by simp [Region.wanted, hgd]
  rw [if_pos hw]
  have hnews : ∀ j u, (wv news)[j]? = some u → w.cell? ((⟨B, 0, none⟩ : Addr).add j) = some u := fun j u hu => World.news_of_block hb j u (by simpa using hu)
  obtain ⟨g, cap, w', hr, h2, h3, h4, h5⟩ := run_append_lies (P := Try.prog) w 58 o.type base 36 i0 (.int .u32 0) 1 4 Try.underlying58 hi hz0 hz1 hz2 rfl (by omega) (.slice (some ⟨g0, 0, none⟩) l.length c0) l.length (wv l) hown ⟨B, 0, none⟩ m c (wv news) (by rw [wv_length]; omega) hnews (wv_one news) hm (by unfold maxLen; omega) (by omega) hbase _ rfl
  have hk := app_keeps w o.type base g0 l.length c0 l rfl hown ⟨B, 0, none⟩ m c news hl hnews hbytes hr
  unfold Oper.wp execOp
  simp only [ho, resolve, invoke, builtin, Sem.run_bind, Sem.run_pure, Result.andThen_ok, List.map_toArray, List.map_cons, List.map_nil, hs, hx, hr]
  exact h g cap w' (by unfold OwnW; rw [wv_append, List.length_append, hl]; exact h2) h3 hk

end Go.Proofs.Ytmgflcglmakceaa
