/- What the document's Same answers, of any two slices of bytes. For every status, at most a hundred headers and a body, of texts that are not too long: the program's Answer is the document's, and the chapter's example is read. What the bound of the second form gives: lengths. -/
import Derived.Test.YtbknabmcelknmaaGreatDoorJ0
import Derived.Test.YtbknabmcelknmaaGreatDoorR5t
import Derived.Test.YtbknabmcelknmaaGreatDoorR5B
import Derived.Test.YtbknabmcelknmaaGreatDoorRows
import Derived.ProofKit
namespace Go.Proofs.YtbknabmcelknmaaGreatDoor
open Go.RowKit

/-- are two lists of bytes the same? -/
def eqB (l m : List UInt8) : Bool := l == m

/-- are the first k bytes the same? -/
def sameTo (x y : List UInt8) (k : Nat) : Bool := decide (∀ i, i < k → nth x i = nth y i)

theorem sameTo_zero (x y : List UInt8) : sameTo x y 0 = true := by simp [sameTo]
theorem sameTo_succ (x y : List UInt8) (k : Nat) : sameTo x y (k + 1) = (sameTo x y k && decide (nth x k = nth y k)) := by
  unfold sameTo
  rw [Bool.eq_iff_iff]
  simp only [decide_eq_true_eq, Bool.and_eq_true]
  constructor
  · intro h; exact ⟨fun i hi => h i (by omega), h k (by omega)⟩
  · rintro ⟨h1, h2⟩ i hi
    by_cases e : i = k
    · subst e; exact h2
    · exact h1 i (by omega)
theorem sameTo_whole (x y : List UInt8) (h : x.length = y.length) : sameTo x y x.length = eqB x y := by
  unfold sameTo eqB
  rw [Bool.eq_iff_iff]
  simp only [decide_eq_true_eq, beq_iff_eq]
  constructor
  · intro hs
    apply List.ext_getElem h
    intro i h1 h2
    have := hs i h1
    rwa [nth_eq x i h1, nth_eq y i h2] at this
  · rintro rfl i _; rfl
theorem sameTo_no (x y : List UInt8) (k : Nat) (hf : nth x k ≠ nth y k) : eqB x y = false := by
  unfold eqB
  rw [beq_eq_false_iff_ne]
  rintro rfl; exact hf rfl
theorem eqB_len (x y : List UInt8) (h : x.length ≠ y.length) : eqB x y = false := by
  unfold eqB
  rw [beq_eq_false_iff_ne]
  rintro rfl; exact h rfl
theorem eqB_self (x : List UInt8) : eqB x x = true := by simp [eqB]

theorem ret_bool {a b : Bool} (h : a = b) : Ending.returned (.bool a) = .returned (.bool b) := by rw [h]

set_option maxHeartbeats 400000 in
theorem refSame (a0 : Option Addr) (len0 cap0 : Nat) (l : List UInt8) (a1 : Option Addr) (len1 cap1 : Nat) (m : List UInt8) (w : World) (w0 : IsB w a0 len0 cap0 l) (w1 : IsB w a1 len1 cap1 m) :
    Calls Tryz.prog 17 #[.slice a0 len0 cap0, .slice a1 len1 cap1] w fun e w' => e = .returned (.bool (eqB l m)) ∧ ∃ n, w' = w.drewN n := by
  have hl0 := w0.le
  have hl1 := w1.le
  have hm0 := w0.max
  have hm1 := w1.max
  have e0 : Hid (l.length = len0) := w0.len_eq
  have e1 : Hid (m.length = len1) := w1.len_eq
  have c0 : Hid (IsB w a0 len0 cap0 l) := w0
  have c1 : Hid (IsB w a1 len1 cap1 m) := w1
  clear w0 w1
  unfold maxLen at hm0 hm1
  by_cases hne : len0 = len1
  · subst hne
    go_enter Tryz.func17, Tryz.ntmps17
    go_wp2
    go_loopw [5] (fun i w' => ∃ k n : Nat, k ≤ len0 ∧ i = .int .i64 k ∧ Hid (sameTo l m k = true) ∧ w' = w.drewN n) (fun i _ => len0 - (intOf i).toNat)
    case atStart => exact ⟨0, 0, Nat.zero_le _, rfl, sameTo_zero _ _, rfl⟩
    case round =>
      obtain ⟨k, n, hk, rfl, hs, rfl⟩ := hrel
      by_cases hlt : k < len0
      · obtain ⟨b0, o0, rfl, hc0⟩ := c0.out.cells (by omega)
        obtain ⟨b1, o1, rfl, hc1⟩ := c1.out.cells (by omega)
        have g0 := hc0 k hlt
        have g1 := hc1 k hlt
        clear hc0 hc1
        have hlt' : (k : Int) < (len0 : Int) := by omega
        by_cases hq : nth l k = nth m k
        · have hq' : (((nth l k).toNat : Int) != ((nth m k).toNat : Int)) = false := by rw [hq]; simp
          have Hq : Hid (nth l k = nth m k) := hq
          clear hq
          go_wp2
          go_quiet (fail)
          go_wp2
          go_roundw
          case rel => exact ⟨k + 1, _, by omega, by go_num, by unfold Hid; rw [sameTo_succ, hs.out, Hq.out]; simp, rfl⟩
          case measure => simp [intOf]; omega
        · have hq' : (((nth l k).toNat : Int) != ((nth m k).toNat : Int)) = true := by
            rw [bne_iff_ne]; intro h; exact hq ((toNat8_inj _ _).1 h)
          have Hq : Hid (nth l k ≠ nth m k) := hq
          clear hq
          go_wp2
          go_quiet (fail)
          go_wp2
          go_ret
          exact ⟨ret_bool (sameTo_no l m k Hq.out).symm, _, World.drewN_drewN _ _ _⟩
      · go_wp2
        go_ret
        have : k = len0 := by omega
        subst this
        refine ⟨ret_bool ?_, _, rfl⟩
        rw [← sameTo_whole l m (by rw [e0.out, e1.out]), e0.out]; exact hs.out.symm
  · have hne' : ((len0 : Int) != (len1 : Int)) = true := by rw [bne_iff_ne]; omega
    go_enter Tryz.func17, Tryz.ntmps17
    go_wp2
    go_ret
    exact ⟨ret_bool (eqB_len l m (by rw [e0.out, e1.out]; exact hne)).symm, 0, rfl⟩
end Go.Proofs.YtbknabmcelknmaaGreatDoor
namespace Go.Proofs.YtbknabmcelknmaaGreatDoor
open Go.RowKit

theorem hlines_bound (M : Nat) (hs : List Pr) (h : ∀ i, i < hs.length → (nthP hs i).1.length ≤ M ∧ (nthP hs i).2.length ≤ M) : (hlines hs).length ≤ hs.length * (2 * M + 4) := by
  induction hs with
  | nil => simp [hlines]
  | cons p hs ih =>
    have h1 := ih (fun i hi => h (i + 1) (by simpa using hi))
    obtain ⟨a4, a5⟩ : p.1.length ≤ M ∧ p.2.length ≤ M := h 0 (by simp)
    have e : (hline p).length = p.1.length + p.2.length + 4 := by unfold hline; simp only [List.length_append, List.length_cons, List.length_nil]; omega
    rw [hlines_cons, List.length_append, List.length_cons, e, Nat.add_mul, Nat.one_mul]
    omega

theorem fieldRq (v0 v1 v2 v3 v4 : Value) (w : World) : (Instr.field 25 (.agg #[v0, v1, v2, v3, v4]) 3).run Tryz.prog w = .ok v3 w := by
  have ha : ∀ w, (isAgg 23).run Tryz.prog w = .ok false w := run_isAgg_plain Tryz.underlying23 rfl
  simp [Instr.field, run_underlying Tryz.underlying25, asAgg, part, ha, Result.andThen]
attribute [local go_sem ↓] fieldRq

set_option maxRecDepth 20000 in
set_option maxHeartbeats 800000 in
theorem walkAnswers (st : Int) (hst : -9223372036854775808 ≤ st ∧ st ≤ 9223372036854775807) (a : Option Addr) (n cap : Nat) (hs : List Pr) (ba : Option Addr) (bn bc : Nat) (b : List UInt8) (w : World) (h : IsP w a n cap hs) (hb : IsB w ba bn bc b) (hbn : bn ≤ 100000000)
    (hsz : ∀ i, i < hs.length → (nthP hs i).1.length ≤ 1048576 ∧ (nthP hs i).2.length ≤ 1048576) (hE : Env w) (hg : 9 ≤ w.heap.size) :
    Calls Tryz.prog 7 #[.int .i64 st, .slice a n cap, .slice ba bn bc] w fun e w' => e = .returned (.bool true) ∧ Below w.heap.size w w' := by
  have HA : ∀ w1, Below w.heap.size w w1 → Calls Tryz.prog 13 #[] w1 fun e w' => e = .returned (.bool true) ∧ Below w1.heap.size w1 w' := fun w1 hb => lawAlive w1 (hE.below hb) (Nat.le_trans hg hb.size)
  have HL := h.len_eq
  subst HL
  by_cases hn : hs.length ≤ 100
  · have hn' : ¬ (100 : Int) < (hs.length : Int) := by omega
    have hz : (hlines hs).length ≤ 100000000000000 := by
      have := hlines_bound 1048576 hs hsz
      have h2 : hs.length * (2 * 1048576 + 4) ≤ 100 * (2 * 1048576 + 4) := Nat.mul_le_mul_right _ (by omega)
      omega
    have HO := lawOwn5 ⟨#[]⟩ ⟨#[]⟩ ⟨#[]⟩ none 0 0 a hs.length cap hs w h (by omega)
    have HC : ∀ W va vc, Below w.heap.size w W → IsP W va hs.length vc hs → Calls Tryz.prog 22 #[.int .i64 st, .slice va hs.length vc, .slice ba bn bc] W fun e w' => (∃ ca cc, e = .returned (.slice ca (answerL st hs b).length cc) ∧ IsB w' ca (answerL st hs b).length cc (answerL st hs b)) ∧ Below W.heap.size W w' := fun W va vc hW hi => (codAnswer st hst va hs.length vc hs ba bn bc b W hi (hb.below hW rfl) hbn hz (hE.below hW)).mono (by
      rintro e w' ⟨v, rfl, ho, hbx⟩
      obtain ⟨ca, cc, rfl, hi⟩ := ho.isB
      exact ⟨⟨ca, cc, rfl, hi⟩, hbx⟩)
    have HR : ∀ W, Below w.heap.size w W → Calls Tryz.prog 23 #[.int .i64 st, .slice a hs.length cap, .slice ba bn bc] W fun e w' => (∃ ca cc, e = .returned (.slice ca (answerL st hs b).length cc) ∧ IsB w' ca (answerL st hs b).length cc (answerL st hs b)) ∧ Below W.heap.size W w' := fun W hW => (refAnswer st hst a hs.length cap hs ba bn bc b W (h.below hW rfl) (hb.below hW rfl) hbn hz).mono (by
      rintro e w' ⟨v, rfl, ho, hbx⟩
      obtain ⟨ca, cc, rfl, hi⟩ := ho.isB
      exact ⟨⟨ca, cc, rfl, hi⟩, hbx⟩)
    have HS : ∀ W ca cc da dc, IsB W ca (answerL st hs b).length cc (answerL st hs b) → IsB W da (answerL st hs b).length dc (answerL st hs b) → Calls Tryz.prog 17 #[.slice ca (answerL st hs b).length cc, .slice da (answerL st hs b).length dc] W fun e w' => e = .returned (.bool true) ∧ Below W.heap.size W w' := fun W ca cc da dc h1 h2 => by
      refine (refSame ca (answerL st hs b).length cc (answerL st hs b) da (answerL st hs b).length dc (answerL st hs b) W h1 h2).mono ?_
      rintro e w' ⟨rfl, hw⟩
      refine ⟨by unfold eqB; simp, ?_⟩
      obtain ⟨q, rfl⟩ := hw
      exact bel_drewN (Below.refl _ _) _
    clear hE hg hsz hz
    generalize answerL st hs b = an at *
    go_enter Tryz.func7, Tryz.ntmps7
    go_wp2_with (first
      | (go_at_call 15; refine HO.mono ?_; rintro e w1 ⟨v, rfl, hown, hb1⟩; obtain ⟨va, vc, rfl, hisP⟩ := hown.isP)
      | (go_at_call 22; refine (HC _ _ _ hb1 hisP).mono ?_; rintro e w2 ⟨⟨ca, cc, rfl, hI2⟩, hb2⟩; have T2 := hb1.trans (hb2.mono hb1.size))
      | (go_at_call 23; refine (HR _ T2).mono ?_; rintro e w3 ⟨⟨da, dc, rfl, hI3⟩, hb3⟩; have T3 := T2.trans (hb3.mono T2.size))
      | (go_at_call 17; refine (HS _ _ _ _ _ (hI2.below hb3 rfl) hI3).mono ?_; rintro e w4 ⟨rfl, hb4⟩; have T4 := T3.trans (hb4.mono T3.size))
      | (go_at_call 13; refine (HA _ T4).mono ?_; rintro e w5 ⟨rfl, hb5⟩))
    go_ret
    exact ⟨rfl, T4.trans (hb5.mono T4.size)⟩
  · have hn' : (100 : Int) < (hs.length : Int) := by omega
    have HA0 := HA w (Below.refl _ w)
    clear h hb hE
    go_enter Tryz.func7, Tryz.ntmps7
    go_wp2_with (go_at_call 13; refine HA0.mono ?_; rintro e w5 ⟨rfl, hb5⟩)
    go_ret
    exact ⟨rfl, hb5⟩
end Go.Proofs.YtbknabmcelknmaaGreatDoor
namespace Go.Proofs.YtbknabmcelknmaaGreatDoor
open Go.ChangeShapes

theorem bulk_pos {H : Type} (d : DataW H) : 1 ≤ Rows.uptoBulk d := by
  cases d with
  | lit l => cases l <;> simp only [Rows.uptoBulk] <;> omega
  | nil => simp only [Rows.uptoBulk]; omega
  | ptr d => simp only [Rows.uptoBulk]; omega
  | slice es sp => simp only [Rows.uptoBulk]; omega
  | agg ps => simp only [Rows.uptoBulk]; omega
  | iface t d => simp only [Rows.uptoBulk]; omega
  | map es => simp only [Rows.uptoBulk]; omega
  | held h => simp only [Rows.uptoBulk]; omega

theorem bulk_count {H : Type} : ∀ l : List (DataW H), l.length ≤ Rows.uptoBulkAll l
  | [] => Nat.zero_le _
  | d :: l => by
    have h1 := bulk_pos d
    have h2 := bulk_count l
    simp only [Rows.uptoBulkAll, List.length_cons]; omega

theorem bulk_slice {H : Type} (es sp : List (DataW H)) : es.length ≤ Rows.uptoBulk (.slice es sp) := by
  have := bulk_count es
  simp only [Rows.uptoBulk]; omega

theorem bulk_string {H : Type} (s : ByteArray) : s.size ≤ Rows.uptoBulk (DataW.lit (H := H) (.string s.data.toList)) := by
  have e : s.data.toList.length = s.size := by rw [Array.length_toList]; rfl
  simp only [Rows.uptoBulk]; omega

theorem bulk_all {H : Type} {l : List (DataW H)} (hk : Rows.uptoSmall H l = true) : Rows.uptoBulkAll l ≤ 1048576 := of_decide_eq_true hk
end Go.Proofs.YtbknabmcelknmaaGreatDoor
