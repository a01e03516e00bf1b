/- What totp's isOneOf answers. -/
import Derived.Test.YtmgflcglmakceaaT7i
import Derived.Test.YtmgflcglmakceaaDigSame
import Derived.Test.YtmgflcglmakceaaOwnT
namespace Go.Proofs.Ytmgflcglmakceaa
open Go.RowKit

/-- one of the first k texts is l -/
def hitTo (L : List (List UInt8)) (l : List UInt8) : Nat → Bool
  | 0 => false
  | k + 1 => if eqB l (nthT L k) = true then true else hitTo L l k
theorem hit_yes {L : List (List UInt8)} {l : List UInt8} {k : Nat} (h : eqB l (nthT L k) = true) : hitTo L l (k + 1) = true := by
  show (if eqB l (nthT L k) = true then true else hitTo L l k) = true
  rw [if_pos h]
theorem hit_no {L : List (List UInt8)} {l : List UInt8} {k : Nat} (h : eqB l (nthT L k) = false) : hitTo L l (k + 1) = hitTo L l k := by
  show (if eqB l (nthT L k) = true then true else hitTo L l k) = hitTo L l k
  rw [if_neg (by rw [h]; simp)]

set_option maxHeartbeats 1000000 in
theorem codIsOneOf (s : ByteArray) (g n cap : Nat) (L : List (List UInt8)) (w : World) (hg : g < w.heap.size) (hcell : ∀ j, j < n → w.cell? ⟨g, j, none⟩ = some (.string (str (nthT L j)))) (hsz : s.size ≤ maxLen) (hL6 : ∀ j, j < n → (nthT L j).length ≤ 100) (hn : n ≤ 1000) :
    Calls Try.prog 24 #[.string s, .slice (some ⟨g, 0, none⟩) n cap] w fun e w' => e = .returned (.bool (hitTo L (sL s) n)) ∧ Below w.heap.size w w' := by
  have HC : Hid (∀ j, j < n → w.cell? ⟨g, j, none⟩ = some (.string (str (nthT L j)))) := hcell
  have HL : Hid (∀ j, j < n → (nthT L j).length ≤ 100) := hL6
  have HZ : Hid (s.size ≤ maxLen) := hsz
  clear hcell hL6 hsz
  go_enter Try.func24, Try.ntmps24
  go_wp2
  go_loopw [5, 10] (fun b i wr => ∃ k : Nat, k ≤ n ∧ i = .int .i64 (k : Int) ∧ b = .bool (hitTo L (sL s) k) ∧ Below w.heap.size w wr) (fun _ i _ => n - (intOf i).toNat)
  case atStart => exact ⟨0, Nat.zero_le _, rfl, rfl, Below.refl _ _⟩
  case round =>
    obtain ⟨k, hk, rfl, rfl, hbel⟩ := hrel
    by_cases hlt : k < n
    · have hlt' : (k : Int) < (n : Int) := by omega
      have c1 := (hbel.cell (p := ⟨g, k, none⟩) hg).trans (HC.out k hlt)
      have hl6 := HL.out k hlt
      obtain ⟨c, hc⟩ : ∃ c, c = nthT L k := ⟨_, rfl⟩
      rw [← hc] at c1 hl6
      have hv1 := conv_str wr s
      have i1 := conv_str_isB wr s HZ.out
      have t1 := conv_str_bel wr s
      generalize Lib.bytesWorld wr 5 s = x1 at *
      generalize grownCap wr s.size 0 5 = q1 at *
      have hv2 := conv_str x1 (str c)
      have i2 := conv_str_isB x1 (str c) (by rw [str_size]; unfold maxLen; omega)
      have t2 := conv_str_bel x1 (str c)
      generalize Lib.bytesWorld x1 5 (str c) = x2 at *
      generalize grownCap x1 (str c).size 0 5 = q2 at *
      have i1' := i1.below t2 rfl
      rw [show sL (str c) = c from str_list c] at i2
      have hsame := digSame _ _ _ _ _ _ _ _ x2 i1' i2
      have T1 := hbel.trans (t1.mono hbel.size)
      have T2 := T1.trans (t2.mono T1.size)
      by_cases he : eqB (sL s) c = true
      · rw [he] at hsame
        have HH : Hid (hitTo L (sL s) (k + 1) = true) := hit_yes (by rw [← hc]; exact he)
        clear hc he i1 i2 i1' t1 t2 T1
        go_wp2_with (go_at_call 33; refine hsame.mono ?_; rintro e x3 ⟨rfl, hw⟩)
        obtain ⟨n3, hw⟩ := hw
        have T3 : Below w.heap.size w x3 := by rw [hw]; exact bel_drewN T2 n3
        exact ⟨⟨k + 1, by omega, by go_num, by rw [HH.out], T3⟩, by simp [intOf]; omega⟩
      · have he' : eqB (sL s) c = false := by simpa using he
        rw [he'] at hsame
        have HH : Hid (hitTo L (sL s) (k + 1) = hitTo L (sL s) k) := hit_no (by rw [← hc]; exact he')
        clear hc he he' i1 i2 i1' t1 t2 T1
        go_wp2_with (go_at_call 33; refine hsame.mono ?_; rintro e x3 ⟨rfl, hw⟩)
        obtain ⟨n3, hw⟩ := hw
        have T3 : Below w.heap.size w x3 := by rw [hw]; exact bel_drewN T2 n3
        exact ⟨⟨k + 1, by omega, by go_num, by rw [HH.out], T3⟩, by simp [intOf]; omega⟩
    · have e : k = n := by omega
      subst e
      go_wp2
      go_ret
      exact ⟨rfl, hbel⟩
end Go.Proofs.Ytmgflcglmakceaa
