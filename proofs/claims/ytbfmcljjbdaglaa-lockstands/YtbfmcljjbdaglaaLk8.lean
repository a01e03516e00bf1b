/- The walk of LockStands. -/
import Derived.Test.YtbfmcljjbdaglaaLk5
import Derived.Test.YtbfmcljjbdaglaaRowC
import Derived.Deep.Cut
import Derived.Deep.RegionHeld3
namespace Go.Proofs.Ytbfmcljjbdaglaa
open Go.RowKit

/-- a try -/
structure Tq where
  m : Int
  u : Nat
  later : Nat
  byp : Bool
def tqc (q : Tq) : List Value := [.int .i64 q.m, .int .u64 (q.u : Int), .int .u64 (q.later : Int), .bool q.byp]
structure TqOK (q : Tq) : Prop where
  m : -9223372036854775808 ≤ q.m ∧ q.m ≤ 9223372036854775807
  u : q.u < 18446744073709551616
  later : q.later < 18446744073709551616
/-- what there is behind a try -/
def nxM (m : Int) (u t : Nat) (q : Tq) : Int := if maySetK m u q.m q.u t q.byp = 0 then q.m else m
def nxU (m : Int) (u t : Nat) (q : Tq) : Nat := if maySetK m u q.m q.u t q.byp = 0 then q.u else u
theorem stands_2 {u t : Nat} (b : Bool) (h : t < u) : standsK 2 u t b = true := by
  unfold standsK activeK kpM; simp [h]
theorem may_stay {U iu t : Nat} (q : Tq) (h1 : U ≤ iu) (h2 : t < U) (h : maySetK 2 iu q.m q.u t q.byp = 0) : q.m = 2 ∧ U ≤ q.u := by
  unfold maySetK at h
  rw [stands_2 q.byp (by omega : t < iu)] at h
  by_cases hr : rightK q.m q.u t = true
  · rw [if_pos hr] at h
    cases hc : coversK q.m q.u 2 iu with
    | false => rw [hc] at h; simp at h
    | true =>
      unfold coversK at hc
      unfold rightK kpM at hr
      simp at hc hr
      by_cases hk : q.m = 1 ∨ q.m = 2
      · omega
      · rw [if_neg hk] at hr; omega
  · rw [if_neg hr] at h; omega
theorem nx_stay {U iu t : Nat} (q : Tq) (h1 : U ≤ iu) (h2 : t < U) : nxM 2 iu t q = 2 ∧ U ≤ nxU 2 iu t q := by
  unfold nxM nxU
  by_cases h : maySetK 2 iu q.m q.u t q.byp = 0
  · rw [if_pos h, if_pos h]; exact may_stay q h1 h2 h
  · rw [if_neg h, if_neg h]; exact ⟨rfl, h1⟩
/-- how LockStands stands: the first one, and what there is -/
structure StAt (w y : World) (I U : Nat) (m : Int) (u : Nat) : Prop where
  lo : w.heap.size < I
  f : Blk y w.heap.size 24 [.int .i64 2, .int .u64 (U : Int)]
  i : Blk y I 24 [.int .i64 m, .int .u64 (u : Int)]
  bel : Below w.heap.size w y
theorem StAt.on {w y y' : World} {I U : Nat} {m : Int} {u : Nat} (h : StAt w y I U m u) (hb : Below y.heap.size y y') : StAt w y' I U m u := ⟨h.lo, h.f.on hb, h.i.on hb, h.bel.trans (hb.mono h.bel.size)⟩
theorem StAt.set {w y : World} {I U : Nat} {m : Int} {u : Nat} (h : StAt w y I U m u) (n : Int) (v : Nat) : StAt w ((y.setCell ⟨I, 0, none⟩ (.int .i64 n)).setCell ⟨I, 1, none⟩ (.int .u64 (v : Int))) I U n v :=
  ⟨h.lo, (h.f.other _ _ (by have := h.lo; show w.heap.size ≠ I; omega)).other _ _ (by have := h.lo; show w.heap.size ≠ I; omega), (h.i.set 0 _).set 1 _, (h.bel.setCell (p := ⟨I, 0, none⟩) (Nat.le_of_lt h.lo) _).setCell (p := ⟨I, 1, none⟩) (Nat.le_of_lt h.lo) _⟩
theorem Blk.cell4 {y : World} {B T : Nat} {m : Int} {u : Nat} (h : Blk y B T [.int .i64 m, .int .u64 (u : Int)]) : y.cell? ⟨B, 0, none⟩ = some (.int .i64 m) ∧ y.cell? ⟨B, 1, none⟩ = some (.int .u64 (u : Int)) := ⟨h.cell 0, h.cell 1⟩
attribute [local go_sem] undef
set_option maxRecDepth 20000 in
set_option maxHeartbeats 4000000 in
theorem stands15 (fm : Int) (fu t : Nat) (a : Option Addr) (n cap : Nat) (l : List Tq) (w : World) (hl : RowC 4 tqc w a n l) (hok : ∀ y ∈ l, TqOK y) (hn : n ≤ 140737488351232) :
    Calls Try.prog 7 #[.agg #[.int .i64 fm, .int .u64 (fu : Int)], .int .u64 (t : Int), .slice a n cap] w fun e w' => e = .returned (.bool true) ∧ Below w.heap.size w w' := by
  have kb := mkHid (Blk.new w 24 [.int .i64 fm, .int .u64 (fu : Int)])
  have hY : Hid (Below w.heap.size w (w.alloc (.cells #[.int .i64 fm, .int .u64 (fu : Int)] 24))) := (Below.refl _ w).alloc (Nat.le_refl _) _
  by_cases hm : fm = 2
  rotate_left
  · go_enter Try.func7, Try.ntmps7
    go_upto_region 1 with fail
    generalize World.alloc _ _ = y at *
    obtain ⟨c0, c1⟩ := kb.out.cell4
    go_wp2_with fail
    refine (lawAlive15 _).mono ?_
    rintro e y1 ⟨rfl, hb⟩
    go_wp2_with fail
    go_ret
    exact ⟨rfl, hY.out.trans (hb.mono hY.out.size)⟩
  subst hm
  have HR := codRight 2 fu t
  have HRt : rightK 2 fu t = true → t < fu ∧ fu ≤ 253402300799 := by unfold rightK kpM; simp
  generalize rightK 2 fu t = R at *
  cases R
  · go_enter Try.func7, Try.ntmps7
    go_upto_region 1 with fail
    generalize World.alloc _ _ = y at *
    obtain ⟨c0, c1⟩ := kb.out.cell4
    go_wp2_with fail
    refine (HR _).mono ?_
    rintro e y1 ⟨rfl, hb⟩
    have hY1 := mkHid (hY.out.trans (hb.mono hY.out.size))
    clear hb c0 c1
    go_wp2_with fail
    refine (lawAlive15 _).mono ?_
    rintro e y2 ⟨rfl, hb⟩
    go_wp2_with fail
    go_ret
    exact ⟨rfl, hY1.out.trans (hb.mono hY1.out.size)⟩
  obtain ⟨hlt, hmax⟩ := HRt rfl
  by_cases hbig : 1000 < n
  · have hbig' : (1000 : Int) < (n : Int) := by omega
    clear hlt hmax hbig
    go_enter Try.func7, Try.ntmps7
    go_upto_region 1 with fail
    generalize World.alloc _ _ = y at *
    obtain ⟨c0, c1⟩ := kb.out.cell4
    go_wp2_with fail
    refine (HR _).mono ?_
    rintro e y1 ⟨rfl, hb⟩
    have hY1 := mkHid (hY.out.trans (hb.mono hY.out.size))
    clear hb c0 c1
    go_wp2_with fail
    refine (lawAlive15 _).mono ?_
    rintro e y2 ⟨rfl, hb⟩
    go_wp2_with fail
    go_ret
    exact ⟨rfl, hY1.out.trans (hb.mono hY1.out.size)⟩
  have hbig' : ¬ (1000 : Int) < (n : Int) := by omega
  have HLt := mkHid hlt
  have HMx := mkHid hmax
  have HL := mkHid hl
  have HOk := mkHid hok
  clear hlt hmax hbig hn hl hok
  go_enter Try.func7, Try.ntmps7
  go_upto_region 1 with fail
  have hsz := mkHid (World.size_alloc w (.cells #[.int .i64 2, .int .u64 (fu : Int)] 24))
  generalize World.alloc _ _ = y at *
  obtain ⟨c0, c1⟩ := kb.out.cell4
  go_wp2_with fail
  refine (HR _).mono ?_
  rintro e y1 ⟨rfl, hb⟩
  have kb1 := kb.out.on hb
  have hY1 := mkHid (hY.out.trans (hb.mono hY.out.size))
  have HS1 := hsz.out
  have hS := mkHid (StAt.mk (w := w) (I := y1.heap.size) (U := fu) (m := 2) (u := fu) (by have := hb.size; omega) (kb1.alloc (.cells #[.int .i64 2, .int .u64 (fu : Int)] 24)) (Blk.new y1 24 [.int .i64 2, .int .u64 (fu : Int)]) (hY1.out.alloc hY1.out.size _))
  obtain ⟨c0, c1⟩ := kb1.cell4
  clear hb kb hY HR hY1 kb1 HS1 hsz
  go_upto_region 4 with fail
  generalize World.alloc _ _ = y2 at *
  generalize y1.heap.size = I at *
  clear c0 c1
  go_wp2_with fail
  go_loopw [1, 8] (fun vt vi wr => ∃ k t' iu : Nat, k ≤ n ∧ t' < fu ∧ fu ≤ iu ∧ vt = .int .u64 (t' : Int) ∧ vi = .int .i64 (k : Int) ∧ Hid (StAt w wr I fu 2 iu)) (fun _ i _ => n - (Go.RowKit.intOf i).toNat)
  case atStart => exact ⟨0, t, fu, Nat.zero_le _, HLt.out, Nat.le_refl _, rfl, rfl, hS⟩
  case round =>
    clear hS
    obtain ⟨k, t', iu, hk, ht, hi, rfl, rfl, hS⟩ := hrel
    by_cases hlt : k < n
    · have hlt' : (k : Int) < (n : Int) := by omega
      obtain ⟨b, off, q, rfl, hbl, hq, hc⟩ := (HL.out.below hS.out.bel (Nat.le_refl _)).at k hlt
      have hqk := HOk.out q (List.mem_of_getElem? hq)
      have e0 := hc 0 _ rfl
      have e1 := hc 1 _ rfl
      have e2 := hc 2 _ rfl
      have e3 := hc 3 _ rfl
      have HC := mkHid hc
      have HT := mkHid ht
      have HI := mkHid hi
      have hmx := HMx.out
      have g1 : ¬ (4611686018427387904 : Int) < (t' : Int) := by omega
      clear hc hq hbl
      by_cases hL : 4611686018427387904 < q.later
      · have g2 : (4611686018427387904 : Int) < (q.later : Int) := by omega
        clear hL ht hi hmx hqk
        go_wp2_with fail
        refine (lawAlive15 _).mono ?_
        rintro e y5 ⟨rfl, hb⟩
        have h5 := mkHid (hS.out.on hb)
        clear hb
        go_wp2_with fail
        go_ret
        exact ⟨rfl, h5.out.bel⟩
      have g2 : ¬ (4611686018427387904 : Int) < (q.later : Int) := by omega
      obtain ⟨s, hs⟩ : ∃ s, s = t' + q.later := ⟨_, rfl⟩
      have gs : (t' : Int) + (q.later : Int) = (s : Int) := by omega
      have gw : IntKind.u64.wrap (s : Int) = (s : Int) := by
        have : s < 18446744073709551616 := by omega
        simp [IntKind.wrap, IntKind.signed, IntKind.bits]; omega
      have HM := codMaySet 2 iu q.m q.u s q.byp
      have HNx := mkHid (fun h => @nx_stay fu iu s q hi h)
      have HnM : Hid (nxM 2 iu s q = if maySetK 2 iu q.m q.u s q.byp = 0 then q.m else 2) := rfl
      have HnU : Hid (nxU 2 iu s q = if maySetK 2 iu q.m q.u s q.byp = 0 then q.u else iu) := rfl
      generalize nxM 2 iu s q = nm at *
      generalize nxU 2 iu s q = nu at *
      generalize maySetK 2 iu q.m q.u s q.byp = E at *
      clear hL hs ht hi hmx hqk
      go_upto_region 10 with fail
      have hbw := cell_lt e0
      have HKP : ∀ w', Below wr.heap.size wr w' → Below wr.heap.size wr w' ∧ w'.cell? ⟨I, 0, none⟩ = some (.int .i64 2) ∧ w'.cell? ⟨I, 1, none⟩ = some (.int .u64 (iu : Int)) ∧ w'.cell? ⟨b, off + k * 4, none⟩ = some (.int .i64 q.m) ∧ w'.cell? ⟨b, off + k * 4 + 1, none⟩ = some (.int .u64 (q.u : Int)) ∧ w'.cell? ⟨b, off + k * 4 + 3, none⟩ = some (.bool q.byp) := fun w' hW => ⟨hW, (hS.out.on hW).i.cell 0, (hS.out.on hW).i.cell 1, by rw [hW.cell (p := ⟨b, off + k * 4, none⟩) hbw]; exact e0, by rw [hW.cell (p := ⟨b, off + k * 4 + 1, none⟩) hbw]; exact e1, by rw [hW.cell (p := ⟨b, off + k * 4 + 3, none⟩) hbw]; exact e3⟩
      clear e0 e1 e2 e3 hbw
      go_region_held3 (fun w' => Below wr.heap.size wr w' ∧ w'.cell? ⟨I, 0, none⟩ = some (.int .i64 2) ∧ w'.cell? ⟨I, 1, none⟩ = some (.int .u64 (iu : Int)) ∧ w'.cell? ⟨b, off + k * 4, none⟩ = some (.int .i64 q.m) ∧ w'.cell? ⟨b, off + k * 4 + 1, none⟩ = some (.int .u64 (q.u : Int)) ∧ w'.cell? ⟨b, off + k * 4 + 3, none⟩ = some (.bool q.byp))
        (first | exact HKP _ ((Below.refl _ wr).drew) | assumption | (have hq0 := ‹Below _ _ _ ∧ _›; exact HKP _ (hq0.1.trans (hb1.mono hq0.1.size))))
        (first
          | (go_at_call 20; refine (HM _).mono ?_; rintro e w4 ⟨rfl, hb1⟩))
      have hq9 := ‹Below _ _ _ ∧ _›
      obtain ⟨hb9, z0, z1, z2, z3, z4⟩ := hq9
      have h6 := mkHid (hS.out.on hb9)
      clear HKP hS z0 z1 HC hb9
      obtain ⟨f0, f1⟩ := h6.out.f.cell4
      obtain ⟨i0, i1⟩ := h6.out.i.cell4
      by_cases hE : E = 0
      · rw [if_pos hE] at HnM HnU
        subst hE
        have hnm : nm = q.m := HnM
        have hnu' : nu = q.u := HnU
        subst hnm hnu'
        have fz0 := h6.out.i.frozen 0
        have fz1 := h6.out.i.frozen 1
        have h6 := mkHid (h6.out.set q.m q.u)
        go_upto_region 12 with fail
        generalize World.setCell _ _ _ = y9 at *
        clear i0 i1 f0 f1 z2 z3 z4 fz0 fz1
        obtain ⟨f0, f1⟩ := h6.out.f.cell4
        obtain ⟨i0, i1⟩ := h6.out.i.cell4
        generalize q.u = NU at *
        generalize q.m = NM at *
        by_cases hge : fu ≤ s
        · have hge' : (fu : Int) ≤ (s : Int) := by omega
          clear HNx hge HnM HnU
          go_wp2_with fail
          refine (lawAlive15 _).mono ?_
          rintro e y7 ⟨rfl, hb⟩
          have h7 := mkHid (h6.out.on hb)
          clear hb
          go_wp2_with fail
          go_ret
          exact ⟨rfl, h7.out.bel⟩
        have hge' : ¬ (fu : Int) ≤ (s : Int) := by omega
        obtain ⟨hnm, hnu⟩ := HNx.out (by omega)
        subst hnm
        have HA := codActive 2 NU s
        have HD := codMayDelete ⟨⟨#[]⟩, ⟨#[]⟩, 0, 0, false, [], 2, NU, false, 0⟩ ⟨none, 0⟩ s true
        rw [show activeK 2 NU s = true by unfold activeK kpM; simp; omega] at HA
        rw [show mayDelK (Vs.hold ⟨⟨#[]⟩, ⟨#[]⟩, 0, 0, false, [], 2, NU, false, 0⟩) (Vs.rm ⟨⟨#[]⟩, ⟨#[]⟩, 0, 0, false, [], 2, NU, false, 0⟩) (Vs.ru ⟨⟨#[]⟩, ⟨#[]⟩, 0, 0, false, [], 2, NU, false, 0⟩) s true = 37 by unfold mayDelK; simp only [stands_2 true (by omega : s < NU)]; rfl] at HD
        simp only [vsc, List.length_nil] at HD
        have HSl : Hid (s < fu) := by show s < fu; omega
        have HNu : Hid (fu ≤ NU) := hnu
        have g5 : ¬ ((NU : Int) < (fu : Int)) := by omega
        clear HNx hge hnu HnM HnU
        go_wp2_with fail
        refine (HA _).mono ?_
        rintro e y7 ⟨rfl, hb⟩
        have h7 := mkHid (h6.out.on hb)
        clear hb i0 i1 f0 f1 h6
        obtain ⟨f0, f1⟩ := h7.out.f.cell4
        obtain ⟨i0, i1⟩ := h7.out.i.cell4
        go_wp2_with fail
        refine (HD _).mono ?_
        rintro e y8 ⟨rfl, hb⟩
        have h8 := mkHid (h7.out.on hb)
        clear hb i0 i1 f0 f1 h7
        go_wp2_with fail
        go_roundw
        case rel => exact ⟨k + 1, s, NU, by omega, HSl.out, HNu.out, rfl, by go_num, h8⟩
        case measure => simp [Go.RowKit.intOf]; omega
      · rw [if_neg hE] at HnM HnU
        have hnm : nm = 2 := HnM
        have hnu' : nu = iu := HnU
        subst hnm hnu'
        go_upto_region 12 with fail
        clear z2 z3 z4
        generalize nu = NU at *
        by_cases hge : fu ≤ s
        · have hge' : (fu : Int) ≤ (s : Int) := by omega
          clear HNx hge HnM HnU
          go_wp2_with fail
          refine (lawAlive15 _).mono ?_
          rintro e y7 ⟨rfl, hb⟩
          have h7 := mkHid (h6.out.on hb)
          clear hb
          go_wp2_with fail
          go_ret
          exact ⟨rfl, h7.out.bel⟩
        have hge' : ¬ (fu : Int) ≤ (s : Int) := by omega
        obtain ⟨_, hnu⟩ := HNx.out (by omega)
        have HA := codActive 2 NU s
        have HD := codMayDelete ⟨⟨#[]⟩, ⟨#[]⟩, 0, 0, false, [], 2, NU, false, 0⟩ ⟨none, 0⟩ s true
        rw [show activeK 2 NU s = true by unfold activeK kpM; simp; omega] at HA
        rw [show mayDelK (Vs.hold ⟨⟨#[]⟩, ⟨#[]⟩, 0, 0, false, [], 2, NU, false, 0⟩) (Vs.rm ⟨⟨#[]⟩, ⟨#[]⟩, 0, 0, false, [], 2, NU, false, 0⟩) (Vs.ru ⟨⟨#[]⟩, ⟨#[]⟩, 0, 0, false, [], 2, NU, false, 0⟩) s true = 37 by unfold mayDelK; simp only [stands_2 true (by omega : s < NU)]; rfl] at HD
        simp only [vsc, List.length_nil] at HD
        have HSl : Hid (s < fu) := by show s < fu; omega
        have HNu : Hid (fu ≤ NU) := hnu
        have g5 : ¬ ((NU : Int) < (fu : Int)) := by omega
        clear HNx hge hnu HnM HnU
        go_wp2_with fail
        refine (HA _).mono ?_
        rintro e y7 ⟨rfl, hb⟩
        have h7 := mkHid (h6.out.on hb)
        clear hb i0 i1 f0 f1 h6
        obtain ⟨f0, f1⟩ := h7.out.f.cell4
        obtain ⟨i0, i1⟩ := h7.out.i.cell4
        go_wp2_with fail
        refine (HD _).mono ?_
        rintro e y8 ⟨rfl, hb⟩
        have h8 := mkHid (h7.out.on hb)
        clear hb i0 i1 f0 f1 h7
        go_wp2_with fail
        go_roundw
        case rel => exact ⟨k + 1, s, NU, by omega, HSl.out, HNu.out, rfl, by go_num, h8⟩
        case measure => simp [Go.RowKit.intOf]; omega
    · have hlt' : ¬ (k : Int) < (n : Int) := by omega
      clear hlt
      go_wp2_with fail
      refine (lawAlive15 _).mono ?_
      rintro e y7 ⟨rfl, hb⟩
      have h7 := mkHid (hS.out.on hb)
      clear hb
      go_wp2_with fail
      go_ret
      exact ⟨rfl, h7.out.bel⟩
end Go.Proofs.Ytbfmcljjbdaglaa
