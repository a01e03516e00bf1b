/- The walk of UploadOrder, over any upload that keeps the document. -/
import Derived.Test.YtgcmojldegplaaaUp9
import Derived.Deep.Cut
import Derived.Deep.RegionHeld3
import Derived.OwnWalk
namespace Go.Proofs.Ytgcmojldegplaaa
open Go.RowKit

attribute [local go_sem] undef
/-- neither a byte nor an int -/
def noBI : Value → Bool
  | .int .u8 _ => false
  | .int .i64 _ => false
  | _ => true
theorem blk_no {W : World} {B T : Nat} {cs : List Value} (h : Blk W B T cs) (hn : cs.all noBI = true) (j : Nat) (u : Value) (hu : noBI u = false) : W.cell? ⟨B, j, none⟩ ≠ some u := by
  rw [h.cell j]
  intro e
  have := List.all_eq_true.1 hn u (List.mem_of_getElem? e)
  rw [hu] at this; cases this
theorem IsB.setNo {W : World} {B T : Nat} {cs : List Value} {a : Option Addr} {n c : Nat} {l : List UInt8} (h : IsB W a n c l) (hb : Blk W B T cs) (hn : cs.all noBI = true) (j : Nat) (v : Value) : IsB (W.setCell ⟨B, j, none⟩ v) a n c l :=
  ⟨h.len_eq, h.le, h.max, h.nil, fun hp => by
    obtain ⟨b, off, e, hc⟩ := h.cells hp
    have hne : b ≠ B := fun e2 => by
      subst e2
      exact blk_no hb hn _ _ rfl (hc 0 hp)
    refine ⟨b, off, e, fun i hi => ?_⟩
    rw [World.cell?_setCell_other _ _ _ _ (fun e' => hne (by injection e' with e1; exact e1.symm))]
    exact hc i hi⟩
theorem IsPs16.setNo {W : World} {B T : Nat} {cs : List Value} {a : Option Addr} {n c : Nat} {l : List Pq} (h : IsPs16 W a n c l) (hb : Blk W B T cs) (hn : cs.all noBI = true) (j : Nat) (v : Value) : IsPs16 (W.setCell ⟨B, j, none⟩ v) a n c l := by
  refine ⟨⟨h.row.len, fun hp => ?_⟩, fun p hp => ⟨(h.ok p hp).n0, (h.ok p hp).n1, (h.ok p hp).d.setNo hb hn j v⟩, h.le, h.nil⟩
  obtain ⟨b, off, e, hlt, hc⟩ := h.row.cells hp
  have hne : b ≠ B := fun e2 => by
    subst e2
    have h0 : 0 < l.length := by rw [h.row.len]; exact hp
    exact blk_no hb hn _ _ rfl (hc 0 l[0] (List.getElem?_eq_getElem h0) 0 _ rfl)
  refine ⟨b, off, e, by rw [World.size_setCell]; exact hlt, fun i x hx j v' hv => ?_⟩
  rw [World.cell?_setCell_other _ _ _ _ (fun e' => hne (by injection e' with e1; exact e1.symm))]
  exact hc i x hx j v' hv
theorem ps_set5 {W : World} {g : Nat} {a : Option Addr} {n c : Nat} {l : List Pq} {s1 k1 s2 k2 : ByteArray} {i1 t1 i2 t2 : Int} {a1 a2 : Option Addr} {m1 c1 m2 c2 : Nat} (h : IsPs16 W a n c l) (hb : Blk W g 25 [.string s1, .string k1, .int .u64 i1, .int .u64 t1, .slice a1 m1 c1]) :
    IsPs16 (((((W.setCell ⟨g, 0, none⟩ (.string s2)).setCell ⟨g, 1, none⟩ (.string k2)).setCell ⟨g, 2, none⟩ (.int .u64 i2)).setCell ⟨g, 3, none⟩ (.int .u64 t2)).setCell ⟨g, 4, none⟩ (.slice a2 m2 c2)) a n c l := by
  have b1 := hb.set 0 (.string s2)
  have b2 := b1.set 1 (.string k2)
  have b3 := b2.set 2 (.int .u64 i2)
  have b4 := b3.set 3 (.int .u64 t2)
  exact ((((h.setNo hb rfl 0 _).setNo b1 rfl 1 _).setNo b2 rfl 2 _).setNo b3 rfl 3 _).setNo b4 rfl 4 _
theorem bs_set5 {W : World} {g : Nat} {a : Option Addr} {n c : Nat} {l : List UInt8} {s1 k1 s2 k2 : ByteArray} {i1 t1 i2 t2 : Int} {a1 a2 : Option Addr} {m1 c1 m2 c2 : Nat} (h : IsB W a n c l) (hb : Blk W g 25 [.string s1, .string k1, .int .u64 i1, .int .u64 t1, .slice a1 m1 c1]) :
    IsB (((((W.setCell ⟨g, 0, none⟩ (.string s2)).setCell ⟨g, 1, none⟩ (.string k2)).setCell ⟨g, 2, none⟩ (.int .u64 i2)).setCell ⟨g, 3, none⟩ (.int .u64 t2)).setCell ⟨g, 4, none⟩ (.slice a2 m2 c2)) a n c l := by
  have b1 := hb.set 0 (.string s2)
  have b2 := b1.set 1 (.string k2)
  have b3 := b2.set 2 (.int .u64 i2)
  have b4 := b3.set 3 (.int .u64 t2)
  exact ((((h.setNo hb rfl 0 _).setNo b1 rfl 1 _).setNo b2 rfl 2 _).setNo b3 rfl 3 _).setNo b4 rfl 4 _
/-- what stands ahead of each round: the upload, the last bytes of each number, which numbers there are -/
structure LpW (w W : World) (s : List Pa) : Prop where
  bel : Below w.heap.size w W
  right : rightPs s = true
  u : ∃ a m cap l, Blk W w.heap.size 25 [.string ⟨#[]⟩, .string ⟨#[107]⟩, .int .u64 0, .int .u64 0, .slice a m cap] ∧ IsPs16 W a m cap l ∧ l.map Prod.fst = s
  last : ∃ cs : List Value, Blk W (w.heap.size + 1) 40 cs ∧ cs.length = 5 ∧ cs.all noBI = true ∧ ∀ j : Nat, 1 ≤ j → j ≤ 4 → ∃ a m cap, cs[j]? = some (.slice a m cap) ∧ IsB W a m cap (datN s (j : Int))
  has : ∃ cs : List Value, Blk W (w.heap.size + 1 + 1) 41 cs ∧ cs.length = 5 ∧ cs.all noBI = true ∧ ∀ j : Nat, 1 ≤ j → j ≤ 4 → cs[j]? = some (.bool (hasN s (j : Int)))
theorem LpW.on {w W W' : World} {s : List Pa} (h : LpW w W s) (hb : Below W.heap.size W W') : LpW w W' s := by
  obtain ⟨a, m, cap, l, h1, h2, h3⟩ := h.u
  obtain ⟨cs, g1, g2, g0, g3⟩ := h.last
  obtain ⟨ds, f1, f2, f0, f3⟩ := h.has
  exact ⟨h.bel.trans (hb.mono h.bel.size), h.right, ⟨a, m, cap, l, h1.on hb, h2.below hb, h3⟩, ⟨cs, g1.on hb, g2, g0, fun j h4 h5 => by obtain ⟨a, m, cap, h6, h7⟩ := g3 j h4 h5; exact ⟨a, m, cap, h6, h7.below hb rfl⟩⟩, ⟨ds, f1.on hb, f2, f0, f3⟩⟩
theorem all_set {cs : List Value} (h : cs.all noBI = true) (q : Nat) {v : Value} (hv : noBI v = true) : (cs.set q v).all noBI = true := by
  rw [List.all_eq_true] at *
  intro u hu
  rcases List.mem_or_eq_of_mem_set hu with h1 | rfl
  · exact h u h1
  · exact hv
theorem LpW.put {w W : World} {s : List Pa} {a6 : Option Addr} {m6 p6 : Nat} {l6 : List Pq} {pa : Option Addr} {dl pc q : Nat} {pd : List UInt8} (h : LpW w W s) (hi : IsPs16 W a6 m6 p6 l6) (he : l6.map Prod.fst = putPs s (q : Int) pd) (hd : IsB W pa dl pc pd)
    (h4 : q ≤ 4) (hr : rightPs (putPs s (q : Int) pd) = true) :
    LpW w (((((((W.setCell ⟨w.heap.size, 0, none⟩ (.string ⟨#[]⟩)).setCell ⟨w.heap.size, 1, none⟩ (.string ⟨#[107]⟩)).setCell ⟨w.heap.size, 2, none⟩ (.int .u64 0)).setCell ⟨w.heap.size, 3, none⟩ (.int .u64 0)).setCell ⟨w.heap.size, 4, none⟩ (.slice a6 m6 p6)).setCell ⟨w.heap.size + 1, q, none⟩ (.slice pa dl pc)).setCell ⟨w.heap.size + 1 + 1, q, none⟩ (.bool true)) (putPs s (q : Int) pd) := by
  obtain ⟨a, m, cap, l, h1, h2, h3⟩ := h.u
  obtain ⟨cs, g1, g2, g0, g3⟩ := h.last
  obtain ⟨ds, f1, f2, f0, f3⟩ := h.has
  have U1 := ((((h1.set 0 (.string ⟨#[]⟩)).set 1 (.string ⟨#[107]⟩)).set 2 (.int .u64 0)).set 3 (.int .u64 0)).set 4 (.slice a6 m6 p6)
  have L1 := ((((g1.other ⟨w.heap.size, 0, none⟩ (.string ⟨#[]⟩) (by simp)).other ⟨w.heap.size, 1, none⟩ (.string ⟨#[107]⟩) (by simp)).other ⟨w.heap.size, 2, none⟩ (.int .u64 0) (by simp)).other ⟨w.heap.size, 3, none⟩ (.int .u64 0) (by simp)).other ⟨w.heap.size, 4, none⟩ (.slice a6 m6 p6) (by simp)
  have D1 := ((((f1.other ⟨w.heap.size, 0, none⟩ (.string ⟨#[]⟩) (by show w.heap.size + 1 + 1 ≠ w.heap.size; omega)).other ⟨w.heap.size, 1, none⟩ (.string ⟨#[107]⟩) (by show w.heap.size + 1 + 1 ≠ w.heap.size; omega)).other ⟨w.heap.size, 2, none⟩ (.int .u64 0) (by show w.heap.size + 1 + 1 ≠ w.heap.size; omega)).other ⟨w.heap.size, 3, none⟩ (.int .u64 0) (by show w.heap.size + 1 + 1 ≠ w.heap.size; omega)).other ⟨w.heap.size, 4, none⟩ (.slice a6 m6 p6) (by show w.heap.size + 1 + 1 ≠ w.heap.size; omega)
  have U2 := U1.other ⟨w.heap.size + 1, q, none⟩ (.slice pa dl pc) (by simp)
  have L2 := L1.set q (.slice pa dl pc)
  have D2 := D1.other ⟨w.heap.size + 1, q, none⟩ (.slice pa dl pc) (by simp)
  have U3 := U2.other ⟨w.heap.size + 1 + 1, q, none⟩ (.bool true) (by show w.heap.size ≠ w.heap.size + 1 + 1; omega)
  have L3 := L2.other ⟨w.heap.size + 1 + 1, q, none⟩ (.bool true) (by simp)
  have D3 := D2.set q (.bool true)
  have hbel := (((((h.bel.setCell (p := ⟨w.heap.size, 0, none⟩) (Nat.le_refl _) (.string ⟨#[]⟩)).setCell (p := ⟨w.heap.size, 1, none⟩) (Nat.le_refl _) (.string ⟨#[107]⟩)).setCell (p := ⟨w.heap.size, 2, none⟩) (Nat.le_refl _) (.int .u64 0)).setCell (p := ⟨w.heap.size, 3, none⟩) (Nat.le_refl _) (.int .u64 0)).setCell (p := ⟨w.heap.size, 4, none⟩) (Nat.le_refl _) (.slice a6 m6 p6))
  have hbel2 := (hbel.setCell (p := ⟨w.heap.size + 1, q, none⟩) (Nat.le_succ _) (.slice pa dl pc)).setCell (p := ⟨w.heap.size + 1 + 1, q, none⟩) (by show w.heap.size ≤ w.heap.size + 1 + 1; omega) (.bool true)
  have bs : ∀ {a : Option Addr} {n c : Nat} {b : List UInt8}, IsB W a n c b → IsB _ a n c b := fun hB => ((bs_set5 hB h1 (s2 := ⟨#[]⟩) (k2 := ⟨#[107]⟩) (i2 := 0) (t2 := 0) (a2 := a6) (m2 := m6) (c2 := p6)).setNo L1 g0 q (.slice pa dl pc)).setNo D2 f0 q (.bool true)
  refine ⟨hbel2, hr, ⟨a6, m6, p6, l6, U3, ((ps_set5 hi h1).setNo L1 g0 q _).setNo D2 f0 q _, he⟩, ⟨_, L3, by rw [List.length_set]; exact g2, all_set g0 q rfl, fun j j1 j4 => ?_⟩, ⟨_, D3, by rw [List.length_set]; exact f2, all_set f0 q rfl, fun j j1 j4 => ?_⟩⟩
  · rw [dat_put (j : Int) h.right]
    by_cases hj : j = q
    · subst hj
      rw [if_pos rfl]
      exact ⟨pa, dl, pc, by rw [List.getElem?_set_self (by rw [g2]; omega)], bs hd⟩
    · rw [if_neg (by omega)]
      obtain ⟨a', m', c', h5, h6⟩ := g3 j j1 j4
      exact ⟨a', m', c', by rw [List.getElem?_set_ne (fun h => hj h.symm)]; exact h5, bs h6⟩
  · rw [has_put (j : Int) h.right]
    by_cases hj : j = q
    · subst hj
      rw [decide_eq_true rfl, Bool.true_or]
      rw [List.getElem?_set_self (by rw [f2]; omega)]
    · rw [decide_eq_false (by omega), Bool.false_or, List.getElem?_set_ne (fun h => hj h.symm)]
      exact f3 j j1 j4
abbrev rtZ16 : RT Int := ⟨34, 3, 1, 8, .int .i64 0, fun z => [.int .i64 z]⟩
theorem okZ16 : RtOK rtZ16 :=
  ⟨Try.underlying34, by kernel_rfl, rfl, by intro u hu; simp [Value.cells] at hu; rcases hu with rfl; rfl, by decide, by decide, fun _ => rfl, by
    intro x u hu
    simp only [List.mem_cons, List.not_mem_nil, or_false] at hu
    rcases hu with rfl; rfl⟩
theorem KeepT.grownRow {w w' : World} {e : TypeId} {base size n : Nat} {v : Value} {xs : List Value} (ho : w.ownsRow base e size v n xs) (hg : w.grownBy w' v.ownBlock) : KeepT [e] w w' :=
  ⟨hg.size, fun k o hk hno => by
    refine (hg.block k (Array.getElem?_eq_some_iff.1 hk).1 (fun eb => ?_)).trans hk
    rcases ho.2 with ⟨rfl, _⟩ | ⟨g, cap, cur, rfl, _, hgb, _⟩
    · simp [Value.ownBlock] at eb
    · have hkg : k = g := by simpa [Value.ownBlock] using eb
      subst hkg
      have : o = .cells cur e (0, 0) := Option.some.inj (hk.symm.trans hgb)
      exact hno _ _ _ this (List.mem_singleton.2 rfl)⟩
theorem OwnC.n16 {w : World} {B : Nat} {a : Option Addr} {n cap : Nat} {l : List Int} (h : OwnC rtZ16 w B (.slice a n cap) l) (hl : ∀ z ∈ l, -9223372036854775808 ≤ z ∧ z ≤ 9223372036854775807) : IsN16 w a n cap l := by
  obtain ⟨a', cap', e, hle, ha, hc⟩ := h.form okZ16
  injection e with e1 e2 e3
  subst e1 e2 e3
  refine ⟨h.row okZ16, hl, hle, ?_⟩
  rintro rfl
  obtain ⟨h1, h2⟩ := h
  rcases h2 with ⟨e, h0⟩ | ⟨g, cap', cur, e, _⟩
  · injection e with e1 e2 e3; exact ⟨h0, e3⟩
  · injection e with e1 e2 e3; cases e1
theorem numT_small {s : List Pa} (h : rightPs s = true) (k : Int) : ∀ z ∈ numT s k, -9223372036854775808 ≤ z ∧ z ≤ 9223372036854775807 := by
  intro z hz
  unfold numT at hz
  obtain ⟨p, hp, rfl⟩ := List.mem_map.1 hz
  have := right_small s 0 h p (List.mem_filter.1 hp).1
  omega
end Go.Proofs.Ytgcmojldegplaaa
