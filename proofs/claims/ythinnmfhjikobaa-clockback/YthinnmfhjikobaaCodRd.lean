/- What clock's Read answers, of whatever text. -/
import Derived.Test.YthinnmfhjikobaaCodRead
import Derived.Test.YthinnmfhjikobaaRead3
namespace Go.Proofs.Ythinnmfhjikobaa
open Go.RowKit

theorem q14_list (s : ByteArray) : (s.extract 0 8 ++ s.extract 9 15).data.toList = l14 s.data.toList := by
  simp [l14, ByteArray.data_extract, ByteArray.data_append]
theorem q14_size (s : ByteArray) (h : s.size = 16) : (s.extract 0 8 ++ s.extract 9 15).size = 14 := by
  simp [h]
theorem nums14 {l : List UInt8} (hl : l.length = 16) :
    numL (l.take 4) = 100 * pn (l14 l) 14 0 + pn (l14 l) 14 1 ∧ numL ((l.drop 4).take 2) = pn (l14 l) 14 2 ∧ numL ((l.drop 6).take 2) = pn (l14 l) 14 3 ∧
    numL ((l.drop 9).take 2) = pn (l14 l) 14 4 ∧ numL ((l.drop 11).take 2) = pn (l14 l) 14 5 ∧ numL ((l.drop 13).take 2) = pn (l14 l) 14 6 := by
  match l, hl with
  | [x0, x1, x2, x3, x4, x5, x6, x7, x8, x9, x10, x11, x12, x13, x14, x15], _ =>
    simp [numL, pn, l14, dv, nth]
    omega

theorem codRead (s : ByteArray) (w : World) :
    Calls Try.prog 17 #[.string s] w fun e w' => ReadE s.data.toList e ∧ Below w.heap.size w w' := by
  have hlen : s.data.toList.length = s.size := by rw [Array.length_toList]; rfl
  by_cases h : s.size = 16
  · by_cases h2 : sb s 8 = 84 ∧ sb s 15 = 90
    · have hl : s.data.toList.length = 16 := by omega
      have hq := q14_list s
      have hz := q14_size s h
      rcases first_no (l14 s.data.toList) 14 with hd | ⟨I, hI, hno, hd⟩
      · have hp := fun w => codPairs_yes (s.extract 0 8 ++ s.extract 9 15) w hz (by rw [hq]; exact hd)
        rw [hq] at hp
        have hlt := fun j => pn_lt (l14 s.data.toList) 14 j (fun i hi => by have := of_decide_eq_true (hd i hi); unfold dv; omega)
        obtain ⟨n1, n2, n3, n4, n5, n6⟩ := nums14 hl
        obtain ⟨a1, a2, a3, a4, a5, a6⟩ := all14 hl hd
        refine (codRead_yes s w h h2.1 h2.2 _ _ _ _ _ _ _ (numL (s.data.toList.take 4)) n1 (hlt 0) (hlt 1) (hlt 4) (hlt 5) (hlt 6) hp).mono ?_
        rintro e w' ⟨hr, hb⟩
        refine ⟨raw_read hl h2.1 h2.2 ?_, hb⟩
        rw [numI_all a1, numI_all a2, numI_all a3, numI_all a4, numI_all a5, numI_all a6, n2, n3, n4, n5, n6]
        exact hr
      · have hp := fun w => codPairs_no (s.extract 0 8 ++ s.extract 9 15) w hz I hI (by rw [hq]; exact hno) (by rw [hq]; exact hd)
        refine (codRead_no s w h h2.1 h2.2 _ _ _ _ _ _ _ hp).mono ?_
        rintro e w' ⟨rfl, hb⟩
        exact ⟨.inr ⟨none14 hl I hI hno, rfl⟩, hb⟩
    · refine (codRead_sign s w h h2).mono ?_
      rintro e w' ⟨rfl, hb⟩
      refine ⟨.inr ⟨fun t ht => h2 ?_, rfl⟩, hb⟩
      obtain ⟨n, y, m, d, hh, i, c, hd, hn, h1, h2, h3, s8, s15, -⟩ := ht.six
      exact ⟨s8, s15⟩
  · refine (codRead_len s w h).mono ?_
    rintro e w' ⟨rfl, hb⟩
    refine ⟨.inr ⟨fun t ht => h ?_, rfl⟩, hb⟩
    have := ht.length
    omega

theorem read_cod (s : ByteArray) : ∃ v E, ReadAs s.data.toList v E ∧
    ∀ w, Calls Try.prog 17 #[.string s] w fun e w' => e = .returned (.tuple #[.int .u64 (v : Int), .int .i64 E]) ∧ Below w.heap.size w w' := by
  obtain ⟨v, E, h1, h2⟩ := read_val s.data.toList
  refine ⟨v, E, h1, fun w => (codRead s w).mono ?_⟩
  rintro e w' ⟨hr, hb⟩
  exact ⟨h2 e hr, hb⟩
end Go.Proofs.Ythinnmfhjikobaa
