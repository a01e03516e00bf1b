/- Parts of a record, as values; what the statements' kind does. -/
import Derived.Test.YtbojhfphgiimnaaRdr5
import Derived.Test.YtbojhfphgiimnaaCan
namespace Go.Proofs.Ytbojhfphgiimnaa
open Go.RowKit
attribute [local go_sem ↓] Go.wp_at_zero Go.wp_at_succ

/-- a part: its kind, its number, its bytes -/
structure Pt where
  k : Int
  n : Nat
  b : List UInt8

def pcell (k : Int) (n : Nat) (a : Option Addr) (len cap : Nat) : List Value := [.int .i64 k, .int .u64 (n : Int), .slice a len cap]

/-- a value that is a part -/
def IsPt (w : World) (v : Value) (p : Pt) : Prop := ∃ a cap, v = .agg (pcell p.k p.n a p.b.length cap).toArray ∧ IsB w a p.b.length cap p.b

theorem IsPt.below {w w' : World} {n : Nat} {v : Value} {p : Pt} (h : IsPt w v p) (hb : Below n w w') (hn : n = w.heap.size) : IsPt w' v p := by
  obtain ⟨a, cap, e, hi⟩ := h
  exact ⟨a, cap, e, hi.below hb hn⟩

def kindP (p : Pt) : Pt := if p.k < 0 ∨ 4 < p.k then { p with k := 4 } else p

theorem infoPt : (Try.prog.info? 50).map (·.size) = some 3 := by kernel_rfl

set_option maxRecDepth 20000 in
set_option maxHeartbeats 1000000 in
theorem lKind (v : Value) (p : Pt) (w : World) (h : IsPt w v p) :
    Calls Try.prog 35 #[v] w fun e w' => ∃ v', e = .returned v' ∧ IsPt w' v' (kindP p) ∧ Below w.heap.size w w' := by
  obtain ⟨a, cap, rfl, hi⟩ := h
  obtain ⟨k, n, b⟩ := p
  have HI : Hid (IsB w a b.length cap b) := hi
  clear hi
  simp only [pcell]
  generalize hn : b.length = m at *
  have HN : Hid (b.length = m) := hn
  clear hn
  by_cases h0 : k < 0
  · have HK : Hid (kindP ⟨k, n, b⟩ = ⟨4, n, b⟩) := by unfold Hid kindP; rw [if_pos (.inl h0)]
    go_enter Try.func35, Try.ntmps35
    go_wp2
    refine bodyPost_ret (v := .agg (pcell 4 n a m cap).toArray) ?_ rfl ⟨_, rfl, ?_, ((Below.refl _ _).alloc (Nat.le_refl _) _).alloc (by simp) _⟩
    · exact results_cell_row Try.results35 _ _ _ _ _ _ _ rfl (Blk.newAt (w.alloc (.cells (pcell 4 n a m cap).toArray 50)) (w.heap.size + 1) _ _ (pcell 4 n a m cap) (by simp) rfl) Try.underlying50 rfl infoPt
    · rw [HK.out]
      have e := HN.out
      subst e
      exact ⟨a, cap, rfl, HI.out.below (((Below.refl _ _).alloc (Nat.le_refl _) _).alloc (by simp) _) rfl⟩
  · by_cases h1 : 4 < k
    · have HK : Hid (kindP ⟨k, n, b⟩ = ⟨4, n, b⟩) := by unfold Hid kindP; rw [if_pos (.inr h1)]
      go_enter Try.func35, Try.ntmps35
      go_wp2
      refine bodyPost_ret (v := .agg (pcell 4 n a m cap).toArray) ?_ rfl ⟨_, rfl, ?_, ((Below.refl _ _).alloc (Nat.le_refl _) _).alloc (by simp) _⟩
      · exact results_cell_row Try.results35 _ _ _ _ _ _ _ rfl (Blk.newAt (w.alloc (.cells (pcell 4 n a m cap).toArray 50)) (w.heap.size + 1) _ _ (pcell 4 n a m cap) (by simp) rfl) Try.underlying50 rfl infoPt
      · rw [HK.out]
        have e := HN.out
        subst e
        exact ⟨a, cap, rfl, HI.out.below (((Below.refl _ _).alloc (Nat.le_refl _) _).alloc (by simp) _) rfl⟩
    · have HK : Hid (kindP ⟨k, n, b⟩ = ⟨k, n, b⟩) := by unfold Hid kindP; rw [if_neg (by intro h; rcases h with h | h; exact h0 h; exact h1 h)]
      go_enter Try.func35, Try.ntmps35
      go_wp2
      refine bodyPost_ret (v := .agg (pcell k n a m cap).toArray) ?_ rfl ⟨_, rfl, ?_, ((Below.refl _ _).alloc (Nat.le_refl _) _).alloc (by simp) _⟩
      · exact results_cell_row Try.results35 _ _ _ _ _ _ _ rfl (Blk.newAt (w.alloc (.cells (pcell k n a m cap).toArray 50)) (w.heap.size + 1) _ _ (pcell k n a m cap) (by simp) rfl) Try.underlying50 rfl infoPt
      · rw [HK.out]
        have e := HN.out
        subst e
        exact ⟨a, cap, rfl, HI.out.below (((Below.refl _ _).alloc (Nat.le_refl _) _).alloc (by simp) _) rfl⟩

theorem kindP_range (p : Pt) : 0 ≤ (kindP p).k ∧ (kindP p).k ≤ 4 := by
  unfold kindP
  split
  · simp
  · omega
theorem kindP_n (p : Pt) : (kindP p).n = p.n := by unfold kindP; split <;> rfl
theorem kindP_b (p : Pt) : (kindP p).b = p.b := by unfold kindP; split <;> rfl

/-- a part, behind any bytes -/
def putL (l : List UInt8) (p : Pt) : List UInt8 :=
  if p.k = 0 then uintL l p.n else if p.k = 1 then bytesL l p.b else if p.k = 2 then textL l p.b else if p.k = 3 then boolL l (p.n % 2 == 1) else listL l ((p.n % 100 : Nat) : Int)

set_option maxRecDepth 20000 in
set_option maxHeartbeats 2000000 in
theorem lPut (a : Option Addr) (len cap : Nat) (l : List UInt8) (v : Value) (p : Pt) (w : World) (h : IsB w a len cap l) (hv : IsPt w v p) (hl : len ≤ 1099511627776) (hb : p.b.length ≤ 1099511627776) (hn : p.n < 18446744073709551616) :
    Calls Try.prog 34 #[.slice a len cap, v] w fun e w' => ∃ r, e = .returned r ∧ OwnB w' w.heap.size r (putL l p) ∧ Below w.heap.size w w' := by
  obtain ⟨a1, cap1, rfl, hi⟩ := hv
  obtain ⟨k, n, b⟩ := p
  simp only at hi hb hn
  have hbel0 : Below w.heap.size w (w.alloc (.cells #[.int .i64 k, .int .u64 (n : Int), .slice a1 b.length cap1] 50)) := (Below.refl _ _).alloc (Nat.le_refl _) _
  have I1 : Hid (IsB (w.alloc (.cells #[.int .i64 k, .int .u64 (n : Int), .slice a1 b.length cap1] 50)) a1 b.length cap1 b) := hi.below hbel0 rfl
  have I0 : Hid (IsB (w.alloc (.cells #[.int .i64 k, .int .u64 (n : Int), .slice a1 b.length cap1] 50)) a len cap l) := h.below hbel0 rfl
  have hsz := hbel0.size
  simp only [pcell]
  clear hi h
  by_cases h0 : k = 0
  · have HP : Hid (putL l ⟨k, n, b⟩ = uintL l n) := by unfold Hid putL; simp [h0]
    have q0 : (k == 0) = true := by simpa using h0
    clear h0
    go_enter Try.func34, Try.ntmps34
    go_wp2_with fail
    refine (canUint a len cap l n _ I0.out hl).mono ?_
    rintro e w1 ⟨r, rfl, ho, hb1⟩
    go_wp2_with fail
    go_ret
    exact ⟨_, rfl, by rw [HP.out]; exact ho.base hsz, hbel0.trans (hb1.mono hsz)⟩
  · by_cases h1 : k = 1
    · have HP : Hid (putL l ⟨k, n, b⟩ = bytesL l b) := by unfold Hid putL; simp [h1]
      have q0 : (k == 0) = false := by simpa using h0
      have q1 : (k == 1) = true := by simpa using h1
      clear h0 h1
      go_enter Try.func34, Try.ntmps34
      go_wp2_with fail
      refine (canBytes a len cap l a1 b.length cap1 b _ I0.out I1.out hl hb).mono ?_
      rintro e w1 ⟨r, rfl, ho, hb1⟩
      go_wp2_with fail
      go_ret
      exact ⟨_, rfl, by rw [HP.out]; exact ho.base hsz, hbel0.trans (hb1.mono hsz)⟩
    · by_cases h2 : k = 2
      · have HP : Hid (putL l ⟨k, n, b⟩ = textL l b) := by unfold Hid putL; simp [h2]
        have q0 : (k == 0) = false := by simpa using h0
        have q1 : (k == 1) = false := by simpa using h1
        have q2 : (k == 2) = true := by simpa using h2
        have hcv := conv_isB _ _ _ _ _ I1.out
        have hsz2 : (ByteArray.mk b.toArray).size = b.length := by show b.toArray.size = _; simp
        clear h0 h1 h2
        go_enter Try.func34, Try.ntmps34
        go_wp2_with fail
        refine (canText a len cap l ⟨b.toArray⟩ _ I0.out hl (by rw [hsz2]; exact hb)).mono ?_
        rintro e w1 ⟨r, rfl, ho, hb1⟩
        go_wp2_with fail
        go_ret
        exact ⟨_, rfl, by rw [HP.out]; exact ho.base hsz, hbel0.trans (hb1.mono hsz)⟩
      · by_cases h3 : k = 3
        · have HP : Hid (putL l ⟨k, n, b⟩ = boolL l (n % 2 == 1)) := by unfold Hid putL; simp [h3]
          have q0 : (k == 0) = false := by simpa using h0
          have q1 : (k == 1) = false := by simpa using h1
          have q2 : (k == 2) = false := by simpa using h2
          have q3 : (k == 3) = true := by simpa using h3
          have hmod : ((n : Int) % 2 == 1) = (n % 2 == 1) := by
            rw [Bool.eq_iff_iff]; simp; omega
          clear h0 h1 h2 h3
          go_enter Try.func34, Try.ntmps34
          go_wp2_with fail
          refine (canBool a len cap l (n % 2 == 1) _ I0.out hl).mono ?_
          rintro e w1 ⟨r, rfl, ho, hb1⟩
          go_wp2_with fail
          go_ret
          exact ⟨_, rfl, by rw [HP.out]; exact ho.base hsz, hbel0.trans (hb1.mono hsz)⟩
        · have HP : Hid (putL l ⟨k, n, b⟩ = listL l ((n : Int) % 100)) := by unfold Hid putL; simp [h0, h1, h2, h3]
          have q0 : (k == 0) = false := by simpa using h0
          have q1 : (k == 1) = false := by simpa using h1
          have q2 : (k == 2) = false := by simpa using h2
          have q3 : (k == 3) = false := by simpa using h3
          clear h0 h1 h2 h3
          go_enter Try.func34, Try.ntmps34
          go_wp2_with fail
          refine (canList a len cap l ((n : Int) % 100) _ I0.out hl).mono ?_
          rintro e w1 ⟨r, rfl, ho, hb1⟩
          go_wp2_with fail
          go_ret
          exact ⟨_, rfl, by rw [HP.out]; exact ho.base hsz, hbel0.trans (hb1.mono hsz)⟩
end Go.Proofs.Ytbojhfphgiimnaa
