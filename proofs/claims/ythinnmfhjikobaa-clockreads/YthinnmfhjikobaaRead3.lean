/- Plain facts: which text is a time, by its six numbers; by its fourteen digits. -/
import Derived.Test.YthinnmfhjikobaaPlain3
namespace Go.Proofs.Ythinnmfhjikobaa
open Go.RowKit

/-- what Read answers: the time whose text it is, or that there is none -/
def ReadE (l : List UInt8) (e : Ending) : Prop :=
  (∃ t : Nat, IsTime l t ∧ e = .returned (.tuple #[.int .u64 (t : Int), .int .i64 0])) ∨ ((∀ t, ¬ IsTime l t) ∧ e = .returned (.tuple #[.int .u64 0, .int .i64 6]))
def ReadAs (l : List UInt8) (v : Nat) (E : Int) : Prop := (IsTime l v ∧ E = 0) ∨ ((∀ t, ¬ IsTime l t) ∧ v = 0 ∧ E = 6)
theorem read_val (l : List UInt8) : ∃ v E, ReadAs l v E ∧ ∀ e, ReadE l e → e = .returned (.tuple #[.int .u64 (v : Int), .int .i64 E]) := by
  by_cases h : ∃ t, IsTime l t
  · obtain ⟨t, ht⟩ := h
    refine ⟨t, 0, .inl ⟨ht, rfl⟩, ?_⟩
    rintro e (⟨t', h1, rfl⟩ | ⟨h1, rfl⟩)
    · rw [ht.uniqT h1]
    · exact absurd ht (h1 t)
  · have h' : ∀ t, ¬ IsTime l t := fun t ht => h ⟨t, ht⟩
    refine ⟨0, 6, .inr ⟨h', rfl, rfl⟩, ?_⟩
    rintro e (⟨t', h1, rfl⟩ | ⟨h1, rfl⟩)
    · exact absurd h1 (h' t')
    · rfl

theorem IsTime.six {l : List UInt8} {t : Nat} (h : IsTime l t) : ∃ n y m d hh i c : Nat, IsDate n y m d ∧ 719162 ≤ n ∧ hh < 24 ∧ i < 60 ∧ c < 60 ∧
    nth l 8 = 84 ∧ nth l 15 = 90 ∧ l.take 4 = dgs 4 y ∧ (l.drop 4).take 2 = dgs 2 m ∧ (l.drop 6).take 2 = dgs 2 d ∧ (l.drop 9).take 2 = dgs 2 hh ∧ (l.drop 11).take 2 = dgs 2 i ∧ (l.drop 13).take 2 = dgs 2 c := by
  obtain ⟨n, y, m, d, hh, i, c, h1, h2, h3, h4, h5, rfl, -⟩ := h
  exact ⟨n, y, m, d, hh, i, c, h1, h2, h3, h4, h5, rfl, rfl, rfl, rfl, rfl, rfl, rfl, rfl⟩

theorem numI_dgs (k n : Nat) (h : n < 10 ^ k) : numI (dgs k n) = (n : Int) := by
  unfold numI; rw [dgs_all, numL_dgs k n h]; rfl
theorem numI_nat {l : List UInt8} {n : Nat} (h : numI l = (n : Int)) : allDg l = true ∧ numL l = n := by
  unfold numI at h
  by_cases e : allDg l = true
  · rw [if_pos e] at h; exact ⟨e, by omega⟩
  · rw [if_neg e] at h; omega
theorem numI_pos {l : List UInt8} (h : 0 ≤ numI l) : allDg l = true ∧ numI l = (numL l : Int) := by
  unfold numI at h ⊢
  by_cases e : allDg l = true
  · rw [if_pos e]; exact ⟨e, rfl⟩
  · rw [if_neg e] at h; omega
theorem numI_all {l : List UInt8} (h : allDg l = true) : numI l = (numL l : Int) := by unfold numI; rw [if_pos h]

theorem raw_read {l : List UInt8} {e : Ending} (hl : l.length = 16) (h8 : nth l 8 = 84) (h15 : nth l 15 = 90)
    (h : RdRaw (numI (l.take 4)) (numI ((l.drop 4).take 2)) (numI ((l.drop 6).take 2)) (numI ((l.drop 9).take 2)) (numI ((l.drop 11).take 2)) (numI ((l.drop 13).take 2)) e) : ReadE l e := by
  rcases h with ⟨h, rfl⟩ | ⟨n, y, m, d, e1, e2, e3, hd, hn, hh, rfl⟩
  · refine .inr ⟨fun t ht => ?_, rfl⟩
    obtain ⟨n, y, m, d, hh, i, c, hd, hn, h1, h2, h3, -, -, p1, p2, p3, p4, p5, p6⟩ := ht.six
    rw [p1, p2, p3, p4, p5, p6, numI_dgs 4 y hd.y4, numI_dgs 2 m hd.m4, numI_dgs 2 d hd.d4, numI_dgs 2 hh (by omega), numI_dgs 2 i (by omega), numI_dgs 2 c (by omega)] at h
    rcases h with h | h | ⟨n', Y, M, D, e1, e2, e3, hd', hn'⟩
    · unfold NoDate at h
      rw [Int.toNat_natCast, Int.toNat_natCast] at h
      have := hd.y1; have := hd.y2; have := hd.m1; have := hd.m2; have := hd.d1; have := hd.d2
      omega
    · unfold NoHour at h; omega
    · obtain rfl : y = Y := by omega
      obtain rfl : m = M := by omega
      obtain rfl : d = D := by omega
      have := hd.eq; have := hd'.eq
      omega
  · obtain ⟨a1, q1⟩ := numI_nat e1
    obtain ⟨a2, q2⟩ := numI_nat e2
    obtain ⟨a3, q3⟩ := numI_nat e3
    unfold NoHour at hh
    obtain ⟨a4, q4⟩ := numI_pos (l := (l.drop 9).take 2) (by omega)
    obtain ⟨a5, q5⟩ := numI_pos (l := (l.drop 11).take 2) (by omega)
    obtain ⟨a6, q6⟩ := numI_pos (l := (l.drop 13).take 2) (by omega)
    have T := txt_of l hl h8 h15 a1 a2 a3 a4 a5 a6
    rw [q1, q2, q3] at T
    refine .inl ⟨(n - 719162) * 86400 + (numL ((l.drop 9).take 2) * 3600 + numL ((l.drop 11).take 2) * 60 + numL ((l.drop 13).take 2)), ⟨n, y, m, d, _, _, _, hd, hn, by omega, by omega, by omega, T, rfl⟩, ?_⟩
    rw [q4, q5, q6]
    exact ret_ue (by omega)

/-- the fourteen signs that must be digits -/
def l14 (l : List UInt8) : List UInt8 := l.take 8 ++ (l.drop 9).take 6
theorem all14 {l : List UInt8} (hl : l.length = 16) (h : ∀ i, i < 14 → isDg (nth (l14 l) i) = true) :
    allDg (l.take 4) = true ∧ allDg ((l.drop 4).take 2) = true ∧ allDg ((l.drop 6).take 2) = true ∧ allDg ((l.drop 9).take 2) = true ∧ allDg ((l.drop 11).take 2) = true ∧ allDg ((l.drop 13).take 2) = true := by
  match l, hl with
  | [x0, x1, x2, x3, x4, x5, x6, x7, x8, x9, x10, x11, x12, x13, x14, x15], _ =>
    have h0 : isDg x0 = true := h 0 (by omega)
    have h1 : isDg x1 = true := h 1 (by omega)
    have h2 : isDg x2 = true := h 2 (by omega)
    have h3 : isDg x3 = true := h 3 (by omega)
    have h4 : isDg x4 = true := h 4 (by omega)
    have h5 : isDg x5 = true := h 5 (by omega)
    have h6 : isDg x6 = true := h 6 (by omega)
    have h7 : isDg x7 = true := h 7 (by omega)
    have h8 : isDg x9 = true := h 8 (by omega)
    have h9 : isDg x10 = true := h 9 (by omega)
    have h10 : isDg x11 = true := h 10 (by omega)
    have h11 : isDg x12 = true := h 11 (by omega)
    have h12 : isDg x13 = true := h 12 (by omega)
    have h13 : isDg x14 = true := h 13 (by omega)
    simp [allDg, h0, h1, h2, h3, h4, h5, h6, h7, h8, h9, h10, h11, h12, h13]
theorem none14 {l : List UInt8} (hl : l.length = 16) (I : Nat) (hI : I < 14) (h : isDg (nth (l14 l) I) = false) : ∀ t, ¬ IsTime l t := by
  intro t ht
  obtain ⟨n, y, m, d, hh, i, c, hd, hn, h1, h2, h3, -, -, p1, p2, p3, p4, p5, p6⟩ := ht.six
  have a1 := dgs_all 4 y
  have a2 := dgs_all 2 m
  have a3 := dgs_all 2 d
  have a4 := dgs_all 2 hh
  have a5 := dgs_all 2 i
  have a6 := dgs_all 2 c
  rw [← p1] at a1
  rw [← p2] at a2
  rw [← p3] at a3
  rw [← p4] at a4
  rw [← p5] at a5
  rw [← p6] at a6
  clear p1 p2 p3 p4 p5 p6 hd ht
  match l, hl with
  | [x0, x1, x2, x3, x4, x5, x6, x7, x8, x9, x10, x11, x12, x13, x14, x15], _ =>
    simp only [allDg, List.take_succ_cons, List.take_zero, List.drop_succ_cons, List.drop_zero, List.all_cons, List.all_nil, Bool.and_true, Bool.and_eq_true] at a1 a2 a3 a4 a5 a6
    have key : ∀ x, isDg x = true → isDg x = false → False := fun x h1 h2 => by rw [h1] at h2; cases h2
    obtain rfl | rfl | rfl | rfl | rfl | rfl | rfl | rfl | rfl | rfl | rfl | rfl | rfl | rfl : I = 0 ∨ I = 1 ∨ I = 2 ∨ I = 3 ∨ I = 4 ∨ I = 5 ∨ I = 6 ∨ I = 7 ∨ I = 8 ∨ I = 9 ∨ I = 10 ∨ I = 11 ∨ I = 12 ∨ I = 13 := by omega
    · exact key x0 a1.1 h
    · exact key x1 a1.2.1 h
    · exact key x2 a1.2.2.1 h
    · exact key x3 a1.2.2.2 h
    · exact key x4 a2.1 h
    · exact key x5 a2.2 h
    · exact key x6 a3.1 h
    · exact key x7 a3.2 h
    · exact key x9 a4.1 h
    · exact key x10 a4.2 h
    · exact key x11 a5.1 h
    · exact key x12 a5.2 h
    · exact key x13 a6.1 h
    · exact key x14 a6.2 h
end Go.Proofs.Ythinnmfhjikobaa
