/- What is asked of the program's upload; the document's, in the same words; light. -/
import Derived.Test.YtgcmojldegplaaaUp3
import Derived.Test.YtgcmojldegplaaaUp4
namespace Go.Proofs.Ytgcmojldegplaaa
open Go.RowKit

attribute [local go_sem] undef
/-- what a Put gives back, to be read -/
structure PwPost (u : UpH) (l : List Pa) (n : Int) (d : List UInt8) (w : World) (e : Ending) : Prop where
  no : putE16 n d ≠ 0 → e = .returned (.tuple #[.agg upZ.toArray, .int .i64 (putE16 n d)])
  yes : putE16 n d = 0 → ∃ a m cap l', e = .returned (.tuple #[.agg (upc u (.slice a m cap)).toArray, .int .i64 0]) ∧ IsPs16 w a m cap l' ∧ l'.map Prod.fst = putPs l n d
/-- what is asked of the program's upload -/
structure UpOK : Prop where
  right : ∀ (u : UpH) (a : Option Addr) (n cap : Nat) (l : List Pq) (w : World), IsPs16 w a n cap l → n ≤ 1000 →
    Calls Try.prog 8 #[.agg (upc u (.slice a n cap)).toArray] w fun e w' => e = .returned (.bool (rightPs (l.map Prod.fst))) ∧ Below w.heap.size w w'
  put : ∀ (u : UpH) (a : Option Addr) (n cap : Nat) (l : List Pq) (nn : Int) (db : Option Addr) (dm dc : Nat) (data : List UInt8) (w : World), IsPs16 w a n cap l → rightPs (l.map Prod.fst) = true → IsB w db dm dc data →
    -9223372036854775808 ≤ nn → nn ≤ 9223372036854775807 →
    Calls Try.prog 10 #[.agg (upc u (.slice a n cap)).toArray, .int .i64 nn, .slice db dm dc] w fun e w' => PwPost u (l.map Prod.fst) nn data w' e ∧ Below w.heap.size w w'
  join : ∀ (u : UpH) (a : Option Addr) (n cap : Nat) (l : List Pq) (za : Option Addr) (zn zc : Nat) (zs : List Int) (w : World), IsPs16 w a n cap l → rightPs (l.map Prod.fst) = true → IsN16 w za zn zc zs → zn ≤ 1000 →
    Calls Try.prog 13 #[.agg (upc u (.slice a n cap)).toArray, .slice za zn zc] w fun e w' => JnPost (l.map Prod.fst) zs w.heap.size w' e ∧ Below w.heap.size w w'
  total : ∀ (u : UpH) (a : Option Addr) (n cap : Nat) (l : List Pq) (w : World), IsPs16 w a n cap l → rightPs (l.map Prod.fst) = true →
    Calls Try.prog 16 #[.agg (upc u (.slice a n cap)).toArray] w fun e w' => e = .returned (.int .i64 (totalPs (l.map Prod.fst) : Int)) ∧ Below w.heap.size w w'
theorem IsPs16.len4 {w : World} {a : Option Addr} {n cap : Nat} {l : List Pq} (h : IsPs16 w a n cap l) (hr : rightPs (l.map Prod.fst) = true) : n ≤ 4 := by
  have := right_len (l.map Prod.fst) 0 (by omega) (by omega) hr
  rw [List.length_map, h.row.len] at this
  omega
theorem right_small : ∀ (l : List Pa) (q : Int), rightGo q l = true → ∀ p ∈ l, p.d.length ≤ 1536 ∧ 1 ≤ p.n ∧ p.n ≤ 4
  | [], _, _, p, hp => (List.not_mem_nil hp).elim
  | x :: l, q, h, p, hp => by
    obtain ⟨a, b, c, _, e⟩ := right_cons h
    rcases List.mem_cons.1 hp with rfl | hp
    · exact ⟨c, a, b⟩
    · exact right_small l x.n e p hp
theorem IsPs16.small {w : World} {a : Option Addr} {n cap : Nat} {l : List Pq} (_ : IsPs16 w a n cap l) (hr : rightPs (l.map Prod.fst) = true) : ∀ p ∈ l, p.1.d.length ≤ 1536 :=
  fun p hp => (right_small _ 0 hr p.1 (List.mem_map_of_mem hp)).1
theorem isPs16_none (w : World) : IsPs16 w none 0 0 [] := ⟨RowC.nil _ _ _, fun _ hp => (List.not_mem_nil hp).elim, Nat.le_refl _, fun _ => ⟨rfl, rfl⟩⟩
theorem OwnC.ps16 {w : World} {B : Nat} {v : Value} {l : List Pq} (h : OwnC rtP w B v l) (hp : ∀ p ∈ l, PaOK w p) : ∃ a m cap, v = .slice a m cap ∧ IsPs16 w a m cap l := by
  obtain ⟨a, cap, rfl, hle, ha, hc⟩ := h.form okP
  have hr := h.row okP
  refine ⟨a, _, cap, rfl, hr, hp, hle, ?_⟩
  rintro rfl
  obtain ⟨h1, h2⟩ := h
  rcases h2 with ⟨e, h0⟩ | ⟨g, cap', cur, e, _⟩
  · injection e with e1 e2 e3; exact ⟨h0, e3⟩
  · injection e with e1 e2 e3; cases e1
/-- the document's Put of a right upload -/
theorem refPutW (u : UpH) (a : Option Addr) (n cap : Nat) (l : List Pq) (nn : Int) (db : Option Addr) (dm dc : Nat) (data : List UInt8) (w : World) (h : IsPs16 w a n cap l) (hr : rightPs (l.map Prod.fst) = true) (hd : IsB w db dm dc data)
    (h0 : -9223372036854775808 ≤ nn) (h1 : nn ≤ 9223372036854775807) :
    Calls Try.prog 11 #[.agg (upc u (.slice a n cap)).toArray, .int .i64 nn, .slice db dm dc] w fun e w' => PwPost u (l.map Prod.fst) nn data w' e ∧ Below w.heap.size w w' := by
  refine (refPut16 u a n cap l nn db dm dc data w h hd.len_eq (by have := h.len4 hr; omega)).mono ?_
  rintro e w' ⟨hp, hb⟩
  refine ⟨⟨hp.no, fun h2 => ?_⟩, hb⟩
  obtain ⟨v, l', rfl, ho, rfl, _, hm⟩ := hp.yes h2
  obtain rfl := hd.len_eq
  obtain ⟨a', m', cap', rfl, hi⟩ := ho.ps16 fun p hpm => by
    rcases hm p hpm with h3 | rfl
    · exact (h.ok p h3).below hb
    · exact ⟨h0, h1, hd.below hb rfl⟩
  exact ⟨a', m', cap', _, rfl, hi, fold_putPs _ _ hr⟩
set_option maxRecDepth 20000 in
set_option maxHeartbeats 2000000 in
theorem lawLight16 (u : UpH) (a : Option Addr) (n cap : Nat) (l : List Pq) (w : World) (h : IsPs16 w a n cap l) (hl : ∀ p ∈ l, p.1.d.length ≤ 140737488351232) (hn : n ≤ 140737488351232) :
    Calls Try.prog 6 #[.agg (upc u (.slice a n cap)).toArray] w fun e w' => e = .returned (.bool (decide (n ≤ 100) && decide (totalPs (l.map Prod.fst) ≤ 100000))) ∧ Below w.heap.size w w' := by
  have HO := mkHid (OneB.new w 25 (upc u (.slice a n cap)))
  have HX := mkHid h
  have HLl := mkHid hl
  clear h hl
  obtain ⟨bkt, key, id, time⟩ := u
  simp only [upc] at *
  go_enter Try.func6, Try.ntmps6
  go_upto_region 1 with fail
  generalize World.alloc _ _ = y at *
  have c0 := HO.out.k.cell 0
  have c1 := HO.out.k.cell 1
  have c2 := HO.out.k.cell 2
  have c3 := HO.out.k.cell 3
  have c4 := HO.out.k.cell 4
  simp only [List.getElem?_cons_zero, List.getElem?_cons_succ] at c0 c1 c2 c3 c4
  by_cases h1 : n ≤ 100
  · have h1d : decide ((n : Int) ≤ 100) = true := decide_eq_true (by omega)
    have CT := refTotal16 ⟨bkt, key, id, time⟩ a n cap l y (HX.out.below HO.out.bel) (by omega) HLl.out
    simp only [upc] at CT
    have hv : Hid ((decide (n ≤ 100) && decide (totalPs (l.map Prod.fst) ≤ 100000)) = decide ((totalPs (l.map Prod.fst) : Int) ≤ 100000)) := by
      unfold Hid
      rw [decide_eq_true h1, Bool.true_and]
      exact decide_eq_decide.2 (by omega)
    clear hn
    go_wp2_with fail
    refine CT.mono ?_
    rintro e y1 ⟨rfl, hb⟩
    have HB := mkHid (HO.out.on hb)
    clear hb HO CT
    go_wp2_with fail
    go_ret
    exact ⟨ret_b hv.out.symm, HB.out.bel⟩
  · have h1d : decide ((n : Int) ≤ 100) = false := decide_eq_false (by omega)
    have hv : Hid ((decide (n ≤ 100) && decide (totalPs (l.map Prod.fst) ≤ 100000)) = false) := by
      unfold Hid
      rw [decide_eq_false h1, Bool.false_and]
    go_wp2_with fail
    go_ret
    exact ⟨ret_b hv.out.symm, HO.out.bel⟩
end Go.Proofs.Ytgcmojldegplaaa
