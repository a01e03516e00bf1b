/- The program's upload: find. -/
import Derived.Test.YtgcmojldegplaaaUpZb
import Derived.Test.YtgcmojldegplaaaUpZc
namespace Go.Proofs.Ytgcmojldegplaaa
open Go.RowKit

/-- the numbers of parts -/
def nsP (l : List Pq) : List Int := l.map (fun p => p.1.n)
theorem nsP_at {l : List Pq} {k : Nat} {p : Pq} (h : l[k]? = some p) : (nsP l).getD k 0 = p.1.n := by unfold nsP; rw [List.getD_eq_getElem?_getD, List.getElem?_map, h]; rfl
/-- where a number stands among parts that rise -/
theorem cut_at : ∀ (l : List Pq) (z : Int) (i : Nat), RiseP l → i ≤ l.length → (0 < i → (nsP l).getD (i - 1) 0 < z) → (i < l.length → z ≤ (nsP l).getD i 0) →
    l.takeWhile (fun p => decide (p.1.n < z)) = l.take i ∧ l.dropWhile (fun p => decide (p.1.n < z)) = l.drop i
  | [], z, i, _, hi, _, _ => by
    obtain rfl : i = 0 := by simpa using hi
    simp
  | p :: l, z, 0, _, _, _, h1 => by
    have h2 : z ≤ p.1.n := h1 (by simp)
    rw [List.takeWhile_cons_of_neg (by simp; omega), List.dropWhile_cons_of_neg (by simp; omega)]
    simp
  | p :: l, z, i + 1, ⟨hr, hs⟩, hi, h0, h1 => by
    have hi' : i ≤ l.length := by simpa using hi
    have hp : p.1.n < z := by
      have h2 := h0 (by omega)
      cases i with
      | zero => exact h2
      | succ j =>
        have hj : j < l.length := by omega
        have h3 : (nsP (p :: l)).getD (j + 1 + 1 - 1) 0 = (l[j]).1.n := nsP_at (l := p :: l) (k := j + 1) (p := l[j]) (by simp [hj])
        rw [h3] at h2
        have := hr (l[j]) (List.getElem_mem hj)
        omega
    obtain ⟨e1, e2⟩ := cut_at l z i hs hi' (fun h => by
      have h2 := h0 (by omega)
      obtain ⟨j, rfl⟩ : ∃ j, i = j + 1 := ⟨i - 1, by omega⟩
      exact h2) (fun h => h1 (by simp; exact h))
    rw [List.takeWhile_cons_of_pos (by simpa using hp), List.dropWhile_cons_of_pos (by simpa using hp), e1, e2]
    simp
theorem rise_at : ∀ (l : List Pq) (i j : Nat) (p q : Pq), RiseP l → l[i]? = some p → l[j]? = some q → i < j → p.1.n < q.1.n
  | [], i, _, _, _, _, h, _, _ => by simp at h
  | x :: l, 0, j, p, q, h, hp, hq, hij => by
    obtain rfl : x = p := by simpa using hp
    obtain ⟨k, rfl⟩ : ∃ k, j = k + 1 := ⟨j - 1, by omega⟩
    exact h.1 q (List.mem_of_getElem? (by simpa using hq))
  | x :: l, i + 1, j, p, q, h, hp, hq, hij => by
    obtain ⟨k, rfl⟩ : ∃ k, j = k + 1 := ⟨j - 1, by omega⟩
    exact rise_at l i k p q h.2 (by simpa using hp) (by simpa using hq) (by omega)
/-- where a number stands: what find says -/
structure AtP (l : List Pq) (z : Int) (i : Nat) (b : Bool) : Prop where
  le : i ≤ l.length
  lo : 0 < i → (nsP l).getD (i - 1) 0 < z
  hi : i < l.length → z ≤ (nsP l).getD i 0
  is : b = (decide (i < l.length) && decide ((nsP l).getD i 0 = z))
theorem AtP.there {l : List Pq} {z : Int} {i : Nat} (h : AtP l z i true) : ∃ p, l[i]? = some p ∧ p.1.n = z ∧ i < l.length := by
  have h1 := h.is.symm
  rw [Bool.and_eq_true] at h1
  have h2 := of_decide_eq_true h1.1
  have h3 := of_decide_eq_true h1.2
  refine ⟨l[i], List.getElem?_eq_getElem h2, ?_, h2⟩
  rw [nsP_at (List.getElem?_eq_getElem h2)] at h3
  exact h3
theorem AtP.away {l : List Pq} {z : Int} {i : Nat} (h : AtP l z i false) (hr : RiseP l) : ∀ p ∈ l, p.1.n ≠ z := fun p hp e => by
  obtain ⟨j, hj, rfl⟩ := List.mem_iff_getElem.1 hp
  have hjs := List.getElem?_eq_getElem hj
  rcases Nat.lt_trichotomy j i with h1 | h1 | h1
  · have h2 := h.lo (by omega)
    have hk : i - 1 < l.length := by have := h.le; omega
    rw [nsP_at (List.getElem?_eq_getElem hk)] at h2
    rcases Nat.lt_or_ge j (i - 1) with h3 | h3
    · have := rise_at l j (i - 1) _ _ hr hjs (List.getElem?_eq_getElem hk) h3
      omega
    · obtain rfl : j = i - 1 := by omega
      omega
  · subst h1
    have := h.is
    rw [decide_eq_true hj, nsP_at hjs, e, decide_eq_true rfl] at this
    cases this
  · have h2 : i < l.length := by omega
    have h3 := h.hi h2
    rw [nsP_at (List.getElem?_eq_getElem h2)] at h3
    have := rise_at l i j _ _ hr (List.getElem?_eq_getElem h2) hjs h1
    omega
/-- what Join finds -/
theorem AtP.fnd {l : List Pq} {z : Int} {i : Nat} {b : Bool} (h : AtP l z i b) (hr : RiseP l) : (b = false → fnd16 (l.map Prod.fst) z = none) ∧ (b = true → ∃ p, l[i]? = some p ∧ i < l.length ∧ fnd16 (l.map Prod.fst) z = some p.1) := by
  constructor
  · rintro rfl
    refine List.find?_eq_none.2 (fun p hp => ?_)
    obtain ⟨q, hq, rfl⟩ := List.mem_map.1 hp
    simpa using h.away hr q hq
  · rintro rfl
    obtain ⟨p, hp, hz, hi⟩ := h.there
    refine ⟨p, hp, hi, ?_⟩
    have e : l.map Prod.fst = (l.take i).map Prod.fst ++ p.1 :: (l.drop (i + 1)).map Prod.fst := by
      have h3 : l[i] = p := by rw [List.getElem?_eq_getElem hi] at hp; exact Option.some.inj hp
      rw [← List.map_cons, ← List.map_append, ← h3, ← List.drop_eq_getElem_cons hi, List.take_append_drop]
    unfold fnd16
    rw [e, List.find?_append, List.find?_eq_none.2 (fun x hx => ?_), Option.none_or, List.find?_cons, decide_eq_true hz]
    obtain ⟨q, hq, rfl⟩ := List.mem_map.1 hx
    obtain ⟨j, hj, rfl⟩ := List.mem_iff_getElem.1 hq
    rw [List.length_take] at hj
    have hj2 : j < l.length := by omega
    rw [List.getElem_take]
    have := rise_at l j i _ _ hr (List.getElem?_eq_getElem hj2) hp (by omega)
    simp; omega
/-- what Put makes -/
theorem AtP.put {l : List Pq} {z : Int} {i : Nat} {b : Bool} (h : AtP l z i b) (hr : RiseP l) (d : List UInt8) : putPs (l.map Prod.fst) z d = (l.take i).map Prod.fst ++ ⟨z, d⟩ :: (l.drop (if b then i + 1 else i)).map Prod.fst := by
  obtain ⟨e1, e2⟩ := cut_at l z i hr h.le h.lo h.hi
  unfold putPs
  rw [← map_takeP, ← map_dropP, ← map_dropleP, e1, e2]
  congr 2
  congr 1
  cases b with
  | true =>
    obtain ⟨p, hp, hz, hi⟩ := h.there
    have h3 : l[i] = p := by rw [List.getElem?_eq_getElem hi] at hp; exact Option.some.inj hp
    rw [List.drop_eq_getElem_cons hi, h3, List.dropWhile_cons_of_pos (by simp; omega)]
    simp only [if_true]
    rcases Nat.lt_or_ge (i + 1) l.length with h4 | h4
    · rw [List.drop_eq_getElem_cons h4, List.dropWhile_cons_of_neg]
      have := rise_at l i (i + 1) _ _ hr hp (List.getElem?_eq_getElem h4) (by omega)
      simp; omega
    · rw [List.drop_of_length_le h4]; rfl
  | false =>
    simp only [Bool.false_eq_true, if_false]
    rcases Nat.lt_or_ge i l.length with h4 | h4
    · have h5 := h.hi h4
      rw [nsP_at (List.getElem?_eq_getElem h4)] at h5
      have h6 := h.away hr _ (List.getElem_mem h4)
      rw [List.drop_eq_getElem_cons h4, List.dropWhile_cons_of_neg]
      simp; omega
    · rw [List.drop_of_length_le h4]; rfl
attribute [local go_sem] undef
set_option maxRecDepth 20000 in
set_option maxHeartbeats 1000000 in
theorem codFind16 (a : Option Addr) (n cap : Nat) (l : List Pq) (z : Int) (w : World) (h : RowC 2 pac w a n l) (hn : n ≤ 1000) :
    Calls Try.prog 19 #[.slice a n cap, .int .i64 z] w fun e w' => (∃ i b, e = .returned (.tuple #[.int .i64 ((i : Nat) : Int), .bool b]) ∧ AtP l z i b) ∧ Below w.heap.size w w' := by
  have W1 : Below w.heap.size w ((w.alloc (.cells #[.slice a n cap] 23)).alloc (.cells #[.int .i64 z] 3)) := ((Below.refl _ w).alloc (Nat.le_refl _) _).alloc (by simp) _
  have k0 : Blk ((w.alloc (.cells #[.slice a n cap] 23)).alloc (.cells #[.int .i64 z] 3)) w.heap.size 23 [.slice a n cap] := (Blk.newAt w w.heap.size 23 _ [.slice a n cap] rfl rfl).alloc _
  have k1 : Blk ((w.alloc (.cells #[.slice a n cap] 23)).alloc (.cells #[.int .i64 z] 3)) (w.heap.size + 1) 3 [.int .i64 z] := Blk.newAt _ (w.heap.size + 1) 3 _ _ (by simp) rfl
  generalize hW : (w.alloc (.cells #[.slice a n cap] 23)).alloc (.cells #[.int .i64 z] 3) = Y0 at *
  have HX : Hid (∀ W, Below w.heap.size w W → RowC 2 pac W a n l) := fun W hW => h.below hW (Nat.le_refl _)
  have HSe := codSearch16 Y0 n 23 #[.pointer (some ⟨w.heap.size, 0, none⟩), .pointer (some ⟨w.heap.size + 1, 0, none⟩)] (fun k => decide (z ≤ (nsP l).getD k 0)) (by omega) (fun W k hW hk =>
      codFind1 a n cap l z w.heap.size (w.heap.size + 1) k W (HX.out W (W1.trans (hW.mono W1.size))) hk (k0.on hW) (k1.on hW))
    (fun args W => by simp [callFunc, Try.func23]; rfl)
  have c0 := k0.cell 0
  simp only [List.getElem?_cons_zero] at c0
  have hmf : ∀ (fn : Fn) (first cap : Array Value) (w : World), (Instr.makeFunc fn first cap).run Try.prog w = .ok (.func fn first cap) w := fun _ _ _ _ => rfl
  have HW1 := mkHid W1
  have HK0 := mkHid k0
  have HK1 := mkHid k1
  have HLn := mkHid h.len
  clear h k0 k1 W1
  go_enter Try.func19, Try.ntmps19
  go_upto_region 1 with fail
  clear hW
  go_upto_region 2 with (go_at_call 22; refine HSe.mono ?_; rintro e y1 ⟨⟨i, rfl, hi, hlo, hhi⟩, hb1⟩)
  have HB1 := mkHid (HW1.out.trans (hb1.mono HW1.out.size))
  have K0 := HK0.out.on hb1
  have K1 := HK1.out.on hb1
  have d0 := K0.cell 0
  have d1 := K1.cell 0
  simp only [List.getElem?_cons_zero] at d0 d1
  have HLo : Hid (0 < i → (nsP l).getD (i - 1) 0 < z) := fun h => by have := of_decide_eq_false (hlo h); omega
  have HHi : Hid (i < n → z ≤ (nsP l).getD i 0) := fun h => of_decide_eq_true (hhi h)
  clear HSe hlo hhi hb1 K0 K1 HK0 HK1 c0 HW1
  by_cases hlt : i < n
  · obtain ⟨B, off, p, rfl, hBl, hp, hc⟩ := (HX.out y1 HB1.out).at i hlt
    have e0 : y1.cell? ⟨B, off + i * 2, none⟩ = some (.int .i64 p.1.n) := hc 0 _ rfl
    have HE := mkHid (nsP_at hp)
    have hlt' : decide ((i : Int) < (n : Int)) = true := decide_eq_true (by omega)
    have hltd : (i : Int) < (n : Int) := by omega
    have hi0 : (0 : Int) ≤ (i : Int) := by omega
    have Hlt := mkHid hlt
    clear hc hp hBl hlt hi
    generalize p.1.n = pn at *
    by_cases he : pn = z
    · have HA : Hid (AtP l z i true) := ⟨by rw [HLn.out]; have := Hlt.out; omega, HLo.out, fun _ => HHi.out Hlt.out, by rw [HLn.out, decide_eq_true Hlt.out, HE.out, decide_eq_true he]; rfl⟩
      have hed : decide (pn = z) = true := decide_eq_true he
      rw [he] at e0
      clear he hed
      go_wp2_with fail
      go_quiet (fail)
      go_wp2_with fail
      go_ret2
      exact ⟨⟨i, true, rfl, HA.out⟩, bel_drewN HB1.out _⟩
    · have HA : Hid (AtP l z i false) := ⟨by rw [HLn.out]; have := Hlt.out; omega, HLo.out, fun _ => HHi.out Hlt.out, by rw [HE.out, decide_eq_false he, Bool.and_false]⟩
      have hed : decide (pn = z) = false := decide_eq_false he
      have HEB : Hid ((pn == z) = false) := by unfold Hid; simpa using he
      go_wp2_with fail
      go_quiet (fail)
      go_wp2_with fail
      go_ret2
      exact ⟨⟨i, (pn == z), rfl, by rw [HEB.out]; exact HA.out⟩, bel_drewN HB1.out _⟩
  · obtain rfl : i = n := by omega
    have hlt' : decide ((i : Int) < (i : Int)) = false := decide_eq_false (by omega)
    have HA : Hid (AtP l z i false) := ⟨by rw [HLn.out]; exact Nat.le_refl _, HLo.out, fun h => absurd (HLn.out ▸ h) (Nat.lt_irrefl _), by rw [HLn.out, decide_eq_false (Nat.lt_irrefl _)]; rfl⟩
    go_wp2_with fail
    go_quiet (fail)
    go_wp2_with fail
    go_ret2
    exact ⟨⟨i, false, rfl, HA.out⟩, bel_drewN HB1.out _⟩
end Go.Proofs.Ytgcmojldegplaaa
