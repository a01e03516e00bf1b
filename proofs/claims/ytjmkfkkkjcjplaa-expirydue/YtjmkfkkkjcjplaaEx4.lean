/- The walks of ExpiryLatest, ExpiryDue. -/
import Derived.Test.YtjmkfkkkjcjplaaEx2
import Derived.Test.YtjmkfkkkjcjplaaEx3
import Derived.Deep.RegionHeld3
namespace Go.Proofs.Ytjmkfkkkjcjplaa
open Go.RowKit

attribute [local go_sem] undef
set_option maxRecDepth 20000 in
set_option maxHeartbeats 4000000 in
theorem latest17 (E : ExOK) (a : Option Addr) (n cap : Nat) (l : List Vq) (b k : ByteArray) (w : World) (h : IsVl w a n cap l) (hsb : b.size ≤ maxLen) (hsk : k.size ≤ maxLen) :
    Calls Try.prog 3 #[.slice a n cap, .string b, .string k] w fun e w' => e = .returned (.bool true) ∧ Below w.heap.size w w' := by
  by_cases hn : n ≤ 100
  · have hn' : ¬ (100 : Int) < (n : Int) := by omega
    have C1 := E.latest a n cap l b k w h hn hsb hsk
    have C2 : Hid (∀ W, Below w.heap.size w W → Calls Try.prog 7 #[.slice a n cap, .string b, .string k] W fun e w' => e = .returned (.int .i64 (latestK (l.map Prod.fst) b k)) ∧ Below W.heap.size W w') := fun W hW => refLatest a n cap l b k W (h.below hW) (by omega)
    have CA := mkHid (lawAlive17 E)
    generalize latestK (l.map Prod.fst) b k = z at *
    clear h
    go_enter Try.func3, Try.ntmps3
    go_wp2_with fail
    refine C1.mono ?_
    rintro e y1 ⟨rfl, hb1⟩
    have C2' := C2.out y1 hb1
    have H1 := mkHid hb1
    clear C1 C2 hb1
    go_wp2_with fail
    refine C2'.mono ?_
    rintro e y2 ⟨rfl, hb2⟩
    have H2 := mkHid (H1.out.trans (hb2.mono H1.out.size))
    clear C2' hb2 H1
    go_wp2_with fail
    refine (CA.out _).mono ?_
    rintro e y3 ⟨rfl, hb3⟩
    have H3 := mkHid (H2.out.trans (hb3.mono H2.out.size))
    clear CA hb3 H2
    go_wp2_with fail
    go_ret
    exact ⟨rfl, H3.out⟩
  · have hn' : (100 : Int) < (n : Int) := by omega
    clear h hn
    go_enter Try.func3, Try.ntmps3
    go_wp2_with fail
    go_ret
    exact ⟨rfl, Below.refl _ _⟩
set_option maxRecDepth 20000 in
set_option maxHeartbeats 8000000 in
theorem due17 (E : ExOK) (b : Bk) (a : Option Addr) (n cap : Nat) (l : List Vq) (now : Nat) (w : World) (h : IsVl w a n cap l) (hb : (-9223372036854775808 ≤ b.exp ∧ b.exp ≤ 9223372036854775807) ∧ -9223372036854775808 ≤ b.nonc ∧ b.nonc ≤ 9223372036854775807) (ht : now < 18446744073709551616) :
    Calls Try.prog 4 #[.agg (bkc b).toArray, .slice a n cap, .int .u64 (now : Int)] w fun e w' => e = .returned (.bool true) ∧ Below w.heap.size w w' := by
  have HO := mkHid (OneB.new w 27 (bkc b))
  by_cases hn : n ≤ 100
  · have hn' : ¬ (100 : Int) < (n : Int) := by omega
    have C1 : Hid (∀ W, Below w.heap.size w W → Calls Try.prog 10 #[.agg (bkc b).toArray, .slice a n cap, .int .u64 (now : Int)] W fun e w' => (∃ v, e = .returned v ∧ OwnRw rtU w' W.heap.size v (dueK b (l.map Prod.fst) now)) ∧ Below W.heap.size W w') := fun W hW => E.due b a n cap l now W (h.below hW) hn hb.1.1 hb.1.2 hb.2.1 hb.2.2 ht
    have C2 : Hid (∀ W, Below w.heap.size w W → Calls Try.prog 11 #[.agg (bkc b).toArray, .slice a n cap, .int .u64 (now : Int)] W fun e w' => (∃ v, e = .returned v ∧ OwnRw rtU w' W.heap.size v (dueK b (l.map Prod.fst) now)) ∧ Below W.heap.size W w') := fun W hW => refDue b a n cap l now W (h.below hW) (by omega) hb.1.2 hb.2.2
    have CA := mkHid (lawAlive17 E)
    have hlen : (dueK b (l.map Prod.fst) now).length ≤ n := by
      have := dueN_len b (l.map Prod.fst) now (l.map Prod.fst).length
      rw [List.length_map, h.row.len] at this
      unfold dueK; rw [List.length_map, h.row.len]; exact this
    generalize dueK b (l.map Prod.fst) now = D at *
    clear h hb ht
    obtain ⟨name, ver, lock, mfa, dflt, days, pol, exp, nonc⟩ := b
    simp only [bkc] at *
    go_enter Try.func4, Try.ntmps4
    go_upto_region 1 with fail
    generalize World.alloc _ _ = y at *
    have HBy := HO.out.bel
    have HKP : ∀ w', Below y.heap.size y w' → Below y.heap.size y w' ∧ w'.cell? ⟨w.heap.size, 0, none⟩ = some (.string name) ∧ w'.cell? ⟨w.heap.size, 1, none⟩ = some (.int .i64 ver) ∧ w'.cell? ⟨w.heap.size, 2, none⟩ = some (.bool lock) ∧ w'.cell? ⟨w.heap.size, 3, none⟩ = some (.bool mfa) ∧ w'.cell? ⟨w.heap.size, 4, none⟩ = some (.int .i64 dflt) ∧ w'.cell? ⟨w.heap.size, 5, none⟩ = some (.int .i64 days) ∧ w'.cell? ⟨w.heap.size, 6, none⟩ = some (.string pol) ∧ w'.cell? ⟨w.heap.size, 7, none⟩ = some (.int .i64 exp) ∧ w'.cell? ⟨w.heap.size, 8, none⟩ = some (.int .i64 nonc) := fun w' hw => by
      have k := HO.out.k.on hw
      exact ⟨hw, k.cell 0, k.cell 1, k.cell 2, k.cell 3, k.cell 4, k.cell 5, k.cell 6, k.cell 7, k.cell 8⟩
    clear HO
    go_region_held3 (fun w' => Below y.heap.size y w' ∧ w'.cell? ⟨w.heap.size, 0, none⟩ = some (.string name) ∧ w'.cell? ⟨w.heap.size, 1, none⟩ = some (.int .i64 ver) ∧ w'.cell? ⟨w.heap.size, 2, none⟩ = some (.bool lock) ∧ w'.cell? ⟨w.heap.size, 3, none⟩ = some (.bool mfa) ∧ w'.cell? ⟨w.heap.size, 4, none⟩ = some (.int .i64 dflt) ∧ w'.cell? ⟨w.heap.size, 5, none⟩ = some (.int .i64 days) ∧ w'.cell? ⟨w.heap.size, 6, none⟩ = some (.string pol) ∧ w'.cell? ⟨w.heap.size, 7, none⟩ = some (.int .i64 exp) ∧ w'.cell? ⟨w.heap.size, 8, none⟩ = some (.int .i64 nonc))
      (first | exact HKP _ ((Below.refl _ y).drew) | assumption | (have hq0 := ‹Below _ _ _ ∧ _›; exact HKP _ (hq0.1.trans (hbx.mono hq0.1.size))))
      (first
        | (go_at_call 10; refine (C1.out _ (HBy.trans ((‹Below _ _ _ ∧ _›).1.mono HBy.size))).mono ?_; rintro e w2 ⟨⟨v, rfl, ho⟩, hbx⟩; obtain ⟨pa, pc, rfl, -⟩ := ho.form okU; have HP := mkHid (ho.row okU); (try have HR := mkHid (HR.out.below hbx (Nat.le_refl _))); clear ho)
        | (go_at_call 11; refine (C2.out _ (HBy.trans ((‹Below _ _ _ ∧ _›).1.mono HBy.size))).mono ?_; rintro e w2 ⟨⟨v, rfl, ho⟩, hbx⟩; obtain ⟨ra, rc, rfl, -⟩ := ho.form okU; have HR := mkHid (ho.row okU); (try have HP := mkHid (HP.out.below hbx (Nat.le_refl _))); clear ho)
        | (go_at_call 9; refine (lawNumbers _ _ _ _ _ _ _ HP.out HR.out (by omega)).mono ?_; rintro e w2 ⟨rfl, hbx⟩)
        | (go_at_call 8; refine (CA.out _).mono ?_; rintro e w2 ⟨rfl, hbx⟩))
    all_goals
      have hq9 := ‹Below _ _ _ ∧ _›
      go_wp2_with fail
      go_ret
      exact ⟨rfl, HBy.trans (hq9.1.mono HBy.size)⟩
  · have hn' : (100 : Int) < (n : Int) := by omega
    clear h hb ht hn
    go_enter Try.func4, Try.ntmps4
    go_upto_region 1 with fail
    generalize World.alloc _ _ = y at *
    go_quiet (fail)
    go_wp2_with fail
    go_ret
    exact ⟨rfl, bel_drewN HO.out.bel _⟩
end Go.Proofs.Ytjmkfkkkjcjplaa
