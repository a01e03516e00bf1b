/- What sigv4.Sign answers. · What clock.Near answers. · What the document's Same answers, of any two slices of bytes. · What digest.Same answers, of any two slices of bytes. · What sigv4.Verify answers. · What sigv4.Attach answers. -/
import Derived.Test.YtgjmaeodgcigdaaGreatDoorB21
import Derived.Test.YtgjmaeodgcigdaaGreatDoorB33
import Derived.Test.YtgjmaeodgcigdaaGreatDoorB34
import Derived.Test.YtgjmaeodgcigdaaGreatDoorB24
import Derived.Test.YtgjmaeodgcigdaaGreatDoorB0
import Derived.Test.YtgjmaeodgcigdaaGreatDoorB32
import Derived.Test.YtgjmaeodgcigdaaGreatDoorB28
namespace Go.Proofs.YtgjmaeodgcigdaaGreatDoor
open Go.RowKit

def sAlg0 : List UInt8 := [65, 87, 83, 52, 45, 72, 77, 65, 67, 45, 83, 72, 65, 50, 53, 54]
theorem sign_join (S sc x : List UInt8) : joinS [10] [sAlg0, S, sc, x] = sAlg ++ S ++ [10] ++ sc ++ [10] ++ x := by
  simp [joinS, joinTo, nthT, sAlg0, sAlg]

set_option maxRecDepth 20000 in
set_option maxHeartbeats 2000000 in
theorem codSign (sec m p q : List UInt8) (ha : Option Addr) (hn hc : Nat) (hs : List Pr) (ba : Option Addr) (bn bc : Nat) (bd : List UInt8) (ta : Option Addr) (tn tc : Nat) (ts : List (List UInt8)) (t : Nat) (S : List UInt8) (E : Int) (w : World)
    (hP : IsP w ha hn hc hs) (hB : IsB w ba bn bc bd) (hT : IsT w ta tn tc ts) (zs : sec.length ≤ 100000) (zm : m.length ≤ 30000) (zp : p.length ≤ 30000) (zq : q.length ≤ 30000) (zb : bn ≤ 30000) (zh : ∀ i, i < hs.length → (nthP hs i).2.length ≤ 30000) (zt : ∀ i, i < ts.length → (nthT ts i).length ≤ 140737488351232)
    (hS : E = 0 → S.length = 16) (HSw : ∀ w, Calls Tryz.prog 49 #[.int .u64 (t : Int)] w fun e w' => e = .returned (.tuple #[.string (str S), .int .i64 E]) ∧ Below w.heap.size w w') :
    Calls Tryz.prog 14 #[.string (str sec), .agg #[.string (str m), .string (str p), .string (str q), .slice ha hn hc, .slice ba bn bc], .slice ta tn tc, .int .u64 (t : Int)] w fun e w' => e = .returned (.tuple #[.string (str (signT sec S E ⟨m, p, q, hs, bd⟩ ts)), .int .i64 (signE E ⟨m, p, q, hs, bd⟩ ts)]) ∧ Below w.heap.size w w' := by
  have T0 : Below w.heap.size w (w.alloc (.cells #[.string (str m), .string (str p), .string (str q), .slice ha hn hc, .slice ba bn bc] 34)) := (Below.refl _ w).alloc (Nat.le_refl _) _
  have K0 := Blk.newAt w w.heap.size 34 _ [.string (str m), .string (str p), .string (str q), .slice ha hn hc, .slice ba bn bc] rfl rfl
  have HCa : ∀ W, Below w.heap.size w W → Calls Tryz.prog 11 #[.agg #[.string (str m), .string (str p), .string (str q), .slice ha hn hc, .slice ba bn bc], .slice ta tn tc] W fun e w' => e = .returned (.tuple #[.string (str (canonT ⟨m, p, q, hs, bd⟩ ts)), .int .i64 (canonE ⟨m, p, q, hs, bd⟩ ts)]) ∧ Below W.heap.size W w' := fun W hW => codCanonical m p q ha hn hc hs ba bn bc bd ta tn tc ts W (hP.below hW rfl) (hB.below hW rfl) (hT.below hW rfl) zm zp zq zb zh zt
  have lc := canonT_len (r := ⟨m, p, q, hs, bd⟩) (ts := ts) zm zp zq zh
  have HTT : Hid (∀ (E : Int), E = 0 → canonE ⟨m, p, q, hs, bd⟩ ts = 0 → signE E ⟨m, p, q, hs, bd⟩ ts = 0 ∧ signT sec S E ⟨m, p, q, hs, bd⟩ ts = hexL (hmL sha256L (keyL sec (S.take 8)) (signText S (canonT ⟨m, p, q, hs, bd⟩ ts)))) := fun E h1 h2 => by
    have e1 : signE E ⟨m, p, q, hs, bd⟩ ts = 0 := by unfold signE; rw [if_pos h1, h2]
    refine ⟨e1, ?_⟩
    unfold signT; rw [if_pos e1]; unfold signX canonT; rw [if_pos h2]
  have HT2 : Hid (∀ (E : Int), E = 0 → ¬ canonE ⟨m, p, q, hs, bd⟩ ts = 0 → signE E ⟨m, p, q, hs, bd⟩ ts = canonE ⟨m, p, q, hs, bd⟩ ts ∧ signT sec S E ⟨m, p, q, hs, bd⟩ ts = []) := fun E h1 h2 => by
    have e1 : signE E ⟨m, p, q, hs, bd⟩ ts = canonE ⟨m, p, q, hs, bd⟩ ts := by unfold signE; rw [if_pos h1]
    refine ⟨e1, ?_⟩
    unfold signT; rw [e1, if_neg h2]
  have HT3 : Hid (¬ E = 0 → signE E ⟨m, p, q, hs, bd⟩ ts = E ∧ signT sec S E ⟨m, p, q, hs, bd⟩ ts = []) := fun h1 => by
    have e1 : signE E ⟨m, p, q, hs, bd⟩ ts = E := by unfold signE; rw [if_neg h1]
    refine ⟨e1, ?_⟩
    unfold signT; rw [e1, if_neg h1]
  clear hP hB hT zm zp zq zb zh zt
  by_cases hE0 : E = 0
  · subst hE0
    have h16 := hS rfl
    by_cases hc0 : canonE ⟨m, p, q, hs, bd⟩ ts = 0
    · obtain ⟨e1, e2⟩ := HTT.out 0 rfl hc0
      rw [e1, e2]
      rw [hc0] at HCa
      clear HTT HT2 HT3 e1 e2 hc0 hS
      generalize canonT ⟨m, p, q, hs, bd⟩ ts = ct at *
      have hex : (str S).extract 0 8 = str (S.take 8) := by rw [ext_take, str_list]
      have l8 : (S.take 8).length = 8 := by rw [List.length_take]; omega
      have hs16 : (str S).size = 16 := by rw [str_size]; exact h16
      have HSc := fun W => codScope (S.take 8) W (by omega)
      have HKe := fun W => codKey sec (S.take 8) W zs (by omega)
      have lsc : (scopeL (S.take 8)).length = 30 := by unfold scopeL; rw [List.length_append, l8]; rfl
      have lx : (hexL (sha256L ct)).length = 64 := by rw [hexL_length, sha256L_length]
      have lst : (signText S ct).length ≤ 1000 := by
        unfold signText
        simp only [List.length_append, List.length_cons, List.length_nil, lsc, lx, h16]
        decide
      have HSh : ∀ W a n c, IsB W a n c ct → Calls Tryz.prog 39 #[.slice a n c] W fun e w' => (∃ va vc, e = .returned (.slice va 32 vc) ∧ IsB w' va 32 vc (sha256L ct)) ∧ Below W.heap.size W w' := fun W a n c hi => codSha a n c ct W hi (by have := hi.len_eq; omega)
      have HH1 : ∀ va vc W, IsB W va 32 vc (sha256L ct) → Calls Tryz.prog 38 #[.slice va 32 vc] W fun e w' => e = .returned (.string (str (hexL (sha256L ct)))) ∧ Below W.heap.size W w' := fun va vc W hi => digHex va 32 vc (sha256L ct) W hi (by omega)
      have hjs : joinS [10] [sAlg0, S, scopeL (S.take 8), hexL (sha256L ct)] = signText S ct := sign_join _ _ _
      have HJd : ∀ X : World, Calls Tryz.prog 34 #[.slice (some ⟨X.heap.size, 0, none⟩) 4 4] (X.alloc (.cells #[.string ⟨#[65, 87, 83, 52, 45, 72, 77, 65, 67, 45, 83, 72, 65, 50, 53, 54]⟩, .string (str S), .string (str (scopeL (S.take 8))), .string (str (hexL (sha256L ct)))] 9)) fun e w' => e = .returned (.string (str (signText S ct))) ∧ Below X.heap.size X w' := fun X => by
        have h1 := codJoined _ _ _ _ _ (isT_new X 9 [sAlg0, S, scopeL (S.take 8), hexL (sha256L ct)] (by simp)) (by simp) (by rw [hjs]; omega)
        rw [hjs] at h1
        refine h1.mono ?_
        rintro e w' ⟨rfl, hb⟩
        exact ⟨rfl, ((Below.refl _ X).alloc (Nat.le_refl _) _).trans (hb.mono (by simp))⟩
      have HHm : ∀ W a c a1 n1 c1, IsB W a 32 c (keyL sec (S.take 8)) → IsB W a1 n1 c1 (signText S ct) → Calls Tryz.prog 51 #[.slice a 32 c, .slice a1 n1 c1] W fun e w' => (∃ va vc, e = .returned (.slice va 32 vc) ∧ IsB w' va 32 vc (hmL sha256L (keyL sec (S.take 8)) (signText S ct))) ∧ Below W.heap.size W w' := fun W a c a1 n1 c1 h1 h2 => codHm a 32 c _ a1 n1 c1 _ W h1 h2 (by omega) (by have := h2.len_eq; omega)
      have HH2 : ∀ va vc W, IsB W va 32 vc (hmL sha256L (keyL sec (S.take 8)) (signText S ct)) → Calls Tryz.prog 38 #[.slice va 32 vc] W fun e w' => e = .returned (.string (str (hexL (hmL sha256L (keyL sec (S.take 8)) (signText S ct))))) ∧ Below W.heap.size W w' := fun va vc W hi => digHex va 32 vc _ W hi (by omega)
      have HCv := fun W => conv_ex W ct (by omega)
      have HCw := fun W => conv_ex W (signText S ct) (by omega)
      clear lst lx lsc l8 h16 hjs
      generalize str (signText S ct) = stx at *
      go_enter Tryz.func14, Tryz.ntmps14
      go_upto_region 8 with (first
        | (go_at_call 49; refine (HSw _).mono ?_; rintro e w1 ⟨rfl, hb1⟩; have T1 := T0.trans (hb1.mono T0.size); have K1 := K0.on hb1; have c0 := K1.cell 0; have c1 := K1.cell 1; have c2 := K1.cell 2; have c3 := K1.cell 3; have c4 := K1.cell 4)
        | (go_at_call 11; refine (HCa _ T1).mono ?_; rintro e w2 ⟨rfl, hb2⟩; have T2 := T1.trans (hb2.mono T1.size)))
      clear HCa HSw K0
      go_upto_region 9 with (first
        | (go_at_call 50; refine (HSc _).mono ?_; rintro e w3 ⟨rfl, hb3⟩; have T3 := T2.trans (hb3.mono T2.size); obtain ⟨cp5, x5, hcv5, hi5, hb5⟩ := HCv w3; have T5 := T3.trans (hb5.mono T3.size))
        | (go_at_call 39; refine (HSh _ _ _ _ hi5).mono ?_; rintro e w6 ⟨⟨va6, vc6, rfl, hi6⟩, hb6⟩; have T6 := T5.trans (hb6.mono T5.size))
        | (go_at_call 38; refine (HH1 _ _ _ hi6).mono ?_; rintro e w7 ⟨rfl, hb7⟩; have T7 := T6.trans (hb7.mono T6.size))
        | (go_at_call 34; refine (HJd _).mono ?_; rintro e w75 ⟨rfl, hb75⟩; have T75 := T7.trans (hb75.mono T7.size)))
      clear HSc HSh HH1 hcv5 hi5 HCv
      go_wp2_with (first
        | (go_at_call 17; refine (HKe _).mono ?_; rintro e w8 ⟨⟨va8, vc8, rfl, hi8⟩, hb8⟩; have T8 := T75.trans (hb8.mono T75.size); obtain ⟨cp9, x9, hcv9, hi9, hb9⟩ := HCw w8; have T9 := T8.trans (hb9.mono T8.size))
        | (go_at_call 51; refine (HHm _ _ _ _ _ _ (hi8.below hb9 rfl) hi9).mono ?_; rintro e w10 ⟨⟨va10, vc10, rfl, hi10⟩, hb10⟩; have T10 := T9.trans (hb10.mono T9.size))
        | (go_at_call 38; refine (HH2 _ _ _ hi10).mono ?_; rintro e w11 ⟨rfl, hb11⟩))
      go_ret2
      exact ⟨rfl, T10.trans (hb11.mono T10.size)⟩
    · obtain ⟨e1, e2⟩ := HT2.out 0 rfl hc0
      rw [e1, e2, show str [] = (⟨#[]⟩ : ByteArray) from rfl]
      have hz : (canonE ⟨m, p, q, hs, bd⟩ ts == 0) = false := by simpa using hc0
      clear HTT HT2 HT3 e1 e2 hc0
      generalize canonE ⟨m, p, q, hs, bd⟩ ts = ce at *
      go_enter Tryz.func14, Tryz.ntmps14
      go_wp2_with (first | (go_at_call 49; refine (HSw _).mono ?_; rintro e w1 ⟨rfl, hb1⟩; have T1 := T0.trans (hb1.mono T0.size); have K1 := K0.on hb1; have c0 := K1.cell 0; have c1 := K1.cell 1; have c2 := K1.cell 2; have c3 := K1.cell 3; have c4 := K1.cell 4) | (go_at_call 11; refine (HCa _ T1).mono ?_; rintro e w2 ⟨rfl, hb2⟩))
      go_ret2
      exact ⟨rfl, T1.trans (hb2.mono T1.size)⟩
  · obtain ⟨e1, e2⟩ := HT3.out hE0
    rw [e1, e2, show str [] = (⟨#[]⟩ : ByteArray) from rfl]
    have hz : (E == 0) = false := by simpa using hE0
    clear HTT HT2 HT3 e1 e2 hE0 hS
    go_enter Tryz.func14, Tryz.ntmps14
    go_wp2_with (go_at_call 49; refine (HSw _).mono ?_; rintro e w1 ⟨rfl, hb1⟩)
    go_ret2
    exact ⟨rfl, T0.trans (hb1.mono T0.size)⟩
end Go.Proofs.YtgjmaeodgcigdaaGreatDoor
namespace Go.Proofs.YtgjmaeodgcigdaaGreatDoor
open Go.RowKit

set_option maxHeartbeats 400000 in
theorem codNear (a b c : Nat) (w : World) (ha : a < 18446744073709551616) (hb : b < 18446744073709551616) :
    Calls Tryz.prog 69 #[.int .u64 (a : Int), .int .u64 (b : Int), .int .u64 (c : Int)] w fun e w' => e = .returned (.bool (nearN a b c)) ∧ w' = w := by
  rcases Nat.lt_trichotomy a b with h1 | h1 | h1
  · have H : Hid (nearN a b c = decide (b - a ≤ c)) := by unfold Hid nearN; rw [if_pos h1]
    have i1 : (a : Int) < (b : Int) := by omega
    have i2 : ¬ (b : Int) < (a : Int) := by omega
    clear h1
    go_enter Tryz.func69, Tryz.ntmps69
    go_wp2
    go_ret
    exact ⟨ret_b (by rw [H.out, decide_eq_decide]; omega), rfl⟩
  · have H : Hid (nearN a b c = decide (a - b ≤ c)) := by unfold Hid nearN; rw [if_neg (by omega)]
    subst h1
    go_enter Tryz.func69, Tryz.ntmps69
    go_wp2
    go_ret
    exact ⟨ret_b (by rw [H.out]; simp), rfl⟩
  · have H : Hid (nearN a b c = decide (a - b ≤ c)) := by unfold Hid nearN; rw [if_neg (by omega)]
    have i1 : (b : Int) < (a : Int) := by omega
    have i2 : ¬ (a : Int) < (b : Int) := by omega
    clear h1
    go_enter Tryz.func69, Tryz.ntmps69
    go_wp2
    go_ret
    exact ⟨ret_b (by rw [H.out, decide_eq_decide]; omega), rfl⟩
end Go.Proofs.YtgjmaeodgcigdaaGreatDoor
namespace Go.Proofs.YtgjmaeodgcigdaaGreatDoor
open Go.RowKit

/-- are two lists of bytes the same? -/
def eqB (l m : List UInt8) : Bool := l == m

/-- are the first k bytes the same? -/
def sameTo (x y : List UInt8) (k : Nat) : Bool := decide (∀ i, i < k → nth x i = nth y i)

theorem sameTo_zero (x y : List UInt8) : sameTo x y 0 = true := by simp [sameTo]
theorem sameTo_succ (x y : List UInt8) (k : Nat) : sameTo x y (k + 1) = (sameTo x y k && decide (nth x k = nth y k)) := by
  unfold sameTo
  rw [Bool.eq_iff_iff]
  simp only [decide_eq_true_eq, Bool.and_eq_true]
  constructor
  · intro h; exact ⟨fun i hi => h i (by omega), h k (by omega)⟩
  · rintro ⟨h1, h2⟩ i hi
    by_cases e : i = k
    · subst e; exact h2
    · exact h1 i (by omega)
theorem sameTo_whole (x y : List UInt8) (h : x.length = y.length) : sameTo x y x.length = eqB x y := by
  unfold sameTo eqB
  rw [Bool.eq_iff_iff]
  simp only [decide_eq_true_eq, beq_iff_eq]
  constructor
  · intro hs
    apply List.ext_getElem h
    intro i h1 h2
    have := hs i h1
    rwa [nth_eq x i h1, nth_eq y i h2] at this
  · rintro rfl i _; rfl
theorem sameTo_no (x y : List UInt8) (k : Nat) (hf : nth x k ≠ nth y k) : eqB x y = false := by
  unfold eqB
  rw [beq_eq_false_iff_ne]
  rintro rfl; exact hf rfl
theorem eqB_len (x y : List UInt8) (h : x.length ≠ y.length) : eqB x y = false := by
  unfold eqB
  rw [beq_eq_false_iff_ne]
  rintro rfl; exact h rfl
theorem eqB_self (x : List UInt8) : eqB x x = true := by simp [eqB]

theorem ret_bool {a b : Bool} (h : a = b) : Ending.returned (.bool a) = .returned (.bool b) := by rw [h]

set_option maxHeartbeats 400000 in
theorem refSame (a0 : Option Addr) (len0 cap0 : Nat) (l : List UInt8) (a1 : Option Addr) (len1 cap1 : Nat) (m : List UInt8) (w : World) (w0 : IsB w a0 len0 cap0 l) (w1 : IsB w a1 len1 cap1 m) :
    Calls Tryz.prog 16 #[.slice a0 len0 cap0, .slice a1 len1 cap1] w fun e w' => e = .returned (.bool (eqB l m)) ∧ ∃ n, w' = w.drewN n := by
  have hl0 := w0.le
  have hl1 := w1.le
  have hm0 := w0.max
  have hm1 := w1.max
  have e0 : Hid (l.length = len0) := w0.len_eq
  have e1 : Hid (m.length = len1) := w1.len_eq
  have c0 : Hid (IsB w a0 len0 cap0 l) := w0
  have c1 : Hid (IsB w a1 len1 cap1 m) := w1
  clear w0 w1
  unfold maxLen at hm0 hm1
  by_cases hne : len0 = len1
  · subst hne
    go_enter Tryz.func16, Tryz.ntmps16
    go_wp2
    go_loopw [5] (fun i w' => ∃ k n : Nat, k ≤ len0 ∧ i = .int .i64 k ∧ Hid (sameTo l m k = true) ∧ w' = w.drewN n) (fun i _ => len0 - (intOf i).toNat)
    case atStart => exact ⟨0, 0, Nat.zero_le _, rfl, sameTo_zero _ _, rfl⟩
    case round =>
      obtain ⟨k, n, hk, rfl, hs, rfl⟩ := hrel
      by_cases hlt : k < len0
      · obtain ⟨b0, o0, rfl, hc0⟩ := c0.out.cells (by omega)
        obtain ⟨b1, o1, rfl, hc1⟩ := c1.out.cells (by omega)
        have g0 := hc0 k hlt
        have g1 := hc1 k hlt
        clear hc0 hc1
        have hlt' : (k : Int) < (len0 : Int) := by omega
        by_cases hq : nth l k = nth m k
        · have hq' : (((nth l k).toNat : Int) != ((nth m k).toNat : Int)) = false := by rw [hq]; simp
          have Hq : Hid (nth l k = nth m k) := hq
          clear hq
          go_wp2
          go_quiet (fail)
          go_wp2
          go_roundw
          case rel => exact ⟨k + 1, _, by omega, by go_num, by unfold Hid; rw [sameTo_succ, hs.out, Hq.out]; simp, rfl⟩
          case measure => simp [intOf]; omega
        · have hq' : (((nth l k).toNat : Int) != ((nth m k).toNat : Int)) = true := by
            rw [bne_iff_ne]; intro h; exact hq ((toNat8_inj _ _).1 h)
          have Hq : Hid (nth l k ≠ nth m k) := hq
          clear hq
          go_wp2
          go_quiet (fail)
          go_wp2
          go_ret
          exact ⟨ret_bool (sameTo_no l m k Hq.out).symm, _, World.drewN_drewN _ _ _⟩
      · go_wp2
        go_ret
        have : k = len0 := by omega
        subst this
        refine ⟨ret_bool ?_, _, rfl⟩
        rw [← sameTo_whole l m (by rw [e0.out, e1.out]), e0.out]; exact hs.out.symm
  · have hne' : ((len0 : Int) != (len1 : Int)) = true := by rw [bne_iff_ne]; omega
    go_enter Tryz.func16, Tryz.ntmps16
    go_wp2
    go_ret
    exact ⟨ret_bool (eqB_len l m (by rw [e0.out, e1.out]; exact hne)).symm, 0, rfl⟩
end Go.Proofs.YtgjmaeodgcigdaaGreatDoor
namespace Go.Proofs.YtgjmaeodgcigdaaGreatDoor
open Go.RowKit

/-- what is gathered of the differences -/
def gath (x y : List UInt8) : Nat → UInt8
  | 0 => 0
  | k + 1 => gath x y k ||| (nth x k ^^^ nth y k)
theorem gath_zero (x y : List UInt8) (k : Nat) : gath x y k = 0 ↔ sameTo x y k = true := by
  induction k with
  | zero => simp [gath, sameTo_zero]
  | succ k ih => rw [gath, or_xor_zero, ih, sameTo_succ]; simp

set_option maxHeartbeats 400000 in
theorem digSame (a0 : Option Addr) (len0 cap0 : Nat) (l : List UInt8) (a1 : Option Addr) (len1 cap1 : Nat) (m : List UInt8) (w : World) (w0 : IsB w a0 len0 cap0 l) (w1 : IsB w a1 len1 cap1 m) :
    Calls Tryz.prog 70 #[.slice a0 len0 cap0, .slice a1 len1 cap1] w fun e w' => e = .returned (.bool (eqB l m)) ∧ ∃ n, w' = w.drewN n := by
  have hl0 := w0.le
  have hl1 := w1.le
  have hm0 := w0.max
  have hm1 := w1.max
  have e0 : Hid (l.length = len0) := w0.len_eq
  have e1 : Hid (m.length = len1) := w1.len_eq
  have c0 : Hid (IsB w a0 len0 cap0 l) := w0
  have c1 : Hid (IsB w a1 len1 cap1 m) := w1
  clear w0 w1
  unfold maxLen at hm0 hm1
  by_cases hne : len0 = len1
  · subst hne
    go_enter Tryz.func70, Tryz.ntmps70
    go_wp2
    go_loopw [5, 14] (fun d i w' => ∃ k n : Nat, k ≤ len0 ∧ i = .int .i64 k ∧ d = .int .u8 ((gath l m k).toNat : Int) ∧ w' = w.drewN n) (fun _ i _ => len0 - (intOf i).toNat)
    case atStart => exact ⟨0, 0, Nat.zero_le _, rfl, rfl, rfl⟩
    case round =>
      obtain ⟨k, n, hk, rfl, rfl, rfl⟩ := hrel
      by_cases hlt : k < len0
      · obtain ⟨b0, o0, rfl, hc0⟩ := c0.out.cells (by omega)
        obtain ⟨b1, o1, rfl, hc1⟩ := c1.out.cells (by omega)
        have g0 := hc0 k hlt
        have g1 := hc1 k hlt
        clear hc0 hc1
        have hlt' : (k : Int) < (len0 : Int) := by omega
        go_wp2
        go_quiet (fail)
        go_wp2
        go_roundw
        case rel => exact ⟨k + 1, _, by omega, by go_num, by rw [bits_xor8, bits_or8]; rfl, rfl⟩
        case measure => simp [intOf]; omega
      · go_wp2
        go_ret
        have : k = len0 := by omega
        subst this
        refine ⟨ret_bool ?_, _, rfl⟩
        rw [← sameTo_whole l m (by rw [e0.out, e1.out]), e0.out, Bool.eq_iff_iff, toNat8_zero]; exact gath_zero l m k
  · have hne' : ((len0 : Int) != (len1 : Int)) = true := by rw [bne_iff_ne]; omega
    go_enter Tryz.func70, Tryz.ntmps70
    go_wp2
    go_ret
    exact ⟨ret_bool (eqB_len l m (by rw [e0.out, e1.out]; exact hne)).symm, 0, rfl⟩
end Go.Proofs.YtgjmaeodgcigdaaGreatDoor
namespace Go.Proofs.YtgjmaeodgcigdaaGreatDoor
open Go.RowKit

theorem ver_claim (sec S : List UInt8) (E F : Int) (T now : Nat) (r : Rq) : verE sec S E F T now r = if claimB r.hs F = false then 20 else if nearN T now 900 = false then 21
  else if ¬ signE E r (auTs (vAu r.hs)) = 0 then signE E r (auTs (vAu r.hs)) else if (signT sec S E r (auTs (vAu r.hs)) == auSg (vAu r.hs)) = false then 20 else 0 := by
  unfold verE claimB
  by_cases h1 : auOk (vAu r.hs) = true
  · rw [if_neg (by rw [h1]; decide), h1]
    by_cases h2 : F = 0
    · rw [if_neg (not_not_intro h2), decide_eq_true h2]
      by_cases h3 : ((vDa r.hs).take 8 == auDt (vAu r.hs)) = true
      · rw [if_neg (by rw [h3]; decide), h3]
        by_cases h4 : (auTs (vAu r.hs)).any isDat = true
        · rw [if_neg (by rw [h4]; decide), h4]; rfl
        · have h4' : (auTs (vAu r.hs)).any isDat = false := by simpa using h4
          rw [if_pos h4', h4']; rfl
      · have h3' : ((vDa r.hs).take 8 == auDt (vAu r.hs)) = false := by simpa using h3
        rw [if_pos h3', h3']; rfl
    · rw [if_pos h2, decide_eq_false h2]; rfl
  · have h1' : auOk (vAu r.hs) = false := by simpa using h1
    rw [if_pos h1', h1']; rfl

set_option maxRecDepth 20000 in
set_option maxHeartbeats 4000000 in
theorem codVerify (sec m p q : List UInt8) (ha : Option Addr) (hn hc : Nat) (hs : List Pr) (ba : Option Addr) (bn bc : Nat) (bd : List UInt8) (now T : Nat) (S : List UInt8) (E F : Int) (w : World)
    (hP : IsP w ha hn hc hs) (hB : IsB w ba bn bc bd) (hm : MxS w) (zs : sec.length ≤ 100000) (zm : m.length ≤ 30000) (zp : p.length ≤ 30000) (zq : q.length ≤ 30000) (zb : bn ≤ 30000) (zh : ∀ i, i < hs.length → (nthP hs i).2.length ≤ 30000)
    (hnow : now < 18446744073709551616) (hT : T < 18446744073709551616) (hF : F = 0 → (vDa hs).length = 16)
    (HRd : ∀ w, Calls Tryz.prog 115 #[.string (str (vDa hs))] w fun e w' => e = .returned (.tuple #[.int .u64 (T : Int), .int .i64 F]) ∧ Below w.heap.size w w')
    (hS : E = 0 → S.length = 16) (HSw : ∀ w, Calls Tryz.prog 49 #[.int .u64 (T : Int)] w fun e w' => e = .returned (.tuple #[.string (str S), .int .i64 E]) ∧ Below w.heap.size w w') :
    Calls Tryz.prog 28 #[.agg #[.string (str m), .string (str p), .string (str q), .slice ha hn hc, .slice ba bn bc], .string (str sec), .int .u64 (now : Int)] w fun e w' => e = .returned (.int .i64 (verE sec S E F T now ⟨m, p, q, hs, bd⟩)) ∧ Below w.heap.size w w' := by
  have T0 : Below w.heap.size w (w.alloc (.cells #[.string (str m), .string (str p), .string (str q), .slice ha hn hc, .slice ba bn bc] 34)) := (Below.refl _ w).alloc (Nat.le_refl _) _
  have K0 := Blk.newAt w w.heap.size 34 _ [.string (str m), .string (str p), .string (str q), .slice ha hn hc, .slice ba bn bc] rfl rfl
  have c0 := K0.cell 0
  have c1 := K0.cell 1
  have c2 := K0.cell 2
  have c3 := K0.cell 3
  have c4 := K0.cell 4
  have HC := codClaim (.string (str m)) (.string (str p)) (.string (str q)) (.slice ba bn bc) ha hn hc hs T F _ (hP.below T0 rfl) (hm.below T0 hm.lt) zh hF HRd
  have HV := ver_claim sec S E F T now ⟨m, p, q, hs, bd⟩
  have HN := fun W => codNear T now 900 W hT hnow
  have zv : (vAu hs).length ≤ 30000 := find_small zh
  obtain ⟨z1, z2, z3, z4, z5, z6, z7⟩ := au_len (vAu hs)
  have zt : ∀ i, i < (auTs (vAu hs)).length → (nthT (auTs (vAu hs)) i).length ≤ 140737488351232 := fun i hi => by
    rw [nthT_eq _ i hi]
    exact Nat.le_trans (cutL_part 59 (auLs (vAu hs)) _ (List.getElem_mem hi)) (by omega)
  have HSi : ∀ W ta tc, Below w.heap.size w W → IsT W ta (auTs (vAu hs)).length tc (auTs (vAu hs)) → Calls Tryz.prog 14 #[.string (str sec), .agg #[.string (str m), .string (str p), .string (str q), .slice ha hn hc, .slice ba bn bc], .slice ta (auTs (vAu hs)).length tc, .int .u64 (T : Int)] W fun e w' => e = .returned (.tuple #[.string (str (signT sec S E ⟨m, p, q, hs, bd⟩ (auTs (vAu hs)))), .int .i64 (signE E ⟨m, p, q, hs, bd⟩ (auTs (vAu hs)))]) ∧ Below W.heap.size W w' := fun W ta tc hW hTs => codSign sec m p q ha hn hc hs ba bn bc bd ta _ tc _ T S E W (hP.below hW rfl) (hB.below hW rfl) hTs zs zm zp zq zb zh zt hS HSw
  have lsg : (signT sec S E ⟨m, p, q, hs, bd⟩ (auTs (vAu hs))).length ≤ 64 := by
    unfold signT signX
    split
    · rw [hexL_length, hm_length]; decide
    · exact Nat.zero_le _
  have HCv1 := fun W => conv_ex W (signT sec S E ⟨m, p, q, hs, bd⟩ (auTs (vAu hs))) (by omega)
  have HCv2 := fun W => conv_ex W (auSg (vAu hs)) (by omega)
  have HSm : ∀ W a n c a1 n1 c1, IsB W a n c (signT sec S E ⟨m, p, q, hs, bd⟩ (auTs (vAu hs))) → IsB W a1 n1 c1 (auSg (vAu hs)) → Calls Tryz.prog 70 #[.slice a n c, .slice a1 n1 c1] W fun e w' => e = .returned (.bool (signT sec S E ⟨m, p, q, hs, bd⟩ (auTs (vAu hs)) == auSg (vAu hs))) ∧ ∃ n, w' = W.drewN n := fun W a n c a1 n1 c1 h1 h2 => by
    exact digSame a n c _ a1 n1 c1 _ W h1 h2
  change verE sec S E F T now ⟨m, p, q, hs, bd⟩ = if claimB hs F = false then 20 else if nearN T now 900 = false then 21 else if ¬ signE E ⟨m, p, q, hs, bd⟩ (auTs (vAu hs)) = 0 then signE E ⟨m, p, q, hs, bd⟩ (auTs (vAu hs)) else if (signT sec S E ⟨m, p, q, hs, bd⟩ (auTs (vAu hs)) == auSg (vAu hs)) = false then 20 else 0 at HV
  have HVh : Hid (verE sec S E F T now ⟨m, p, q, hs, bd⟩ = if claimB hs F = false then 20 else if nearN T now 900 = false then 21 else if ¬ signE E ⟨m, p, q, hs, bd⟩ (auTs (vAu hs)) = 0 then signE E ⟨m, p, q, hs, bd⟩ (auTs (vAu hs)) else if (signT sec S E ⟨m, p, q, hs, bd⟩ (auTs (vAu hs)) == auSg (vAu hs)) = false then 20 else 0) := HV
  clear HV
  generalize verE sec S E F T now ⟨m, p, q, hs, bd⟩ = R at *
  generalize signE E ⟨m, p, q, hs, bd⟩ (auTs (vAu hs)) = sE at *
  generalize (signT sec S E ⟨m, p, q, hs, bd⟩ (auTs (vAu hs)) == auSg (vAu hs)) = bG at *
  generalize signT sec S E ⟨m, p, q, hs, bd⟩ (auTs (vAu hs)) = sgn at *
  generalize nearN T now 900 = bN at *
  generalize claimB hs F = cb at *
  clear hP hB hF hS HSw HRd zt z1 z2 z3 z4 z5 z6 z7 zv zs zm zp zq zb zh lsg hm
  generalize str (auAc (vAu hs)) = xa at *
  generalize str (auDt (vAu hs)) = xt at *
  generalize auSg (vAu hs) = gsg at *
  generalize auTs (vAu hs) = ts at *
  generalize str m = xm at *
  generalize str p = xp at *
  generalize str q = xq at *
  generalize str sec = xs at *
  cases cb with
  | false =>
    have HV : Hid (R = 20) := by unfold Hid; rw [HVh.out]; rfl
    simp only [Bool.false_eq_true, if_false] at HC
    unfold authNone at HC
    clear HVh
    go_enter Tryz.func28, Tryz.ntmps28
    go_wp2_with (go_at_call 68; refine HC.mono ?_; rintro e w1 ⟨rfl, hb1⟩)
    go_ret
    have T1 := T0.trans (hb1.mono T0.size)
    exact ⟨ret_i HV.out.symm, T1.alloc T1.size _⟩
  | true =>
    simp only [if_true] at HC
    go_enter Tryz.func28, Tryz.ntmps28
    go_upto_region 4 with (go_at_call 68; refine HC.mono ?_; rintro e w1 ⟨⟨ta, tc, rfl, hi1⟩, hb1⟩)
    have T1 := T0.trans (hb1.mono T0.size)
    have A2 : Below w1.heap.size w1 (w1.alloc (.cells #[.string xa, .string xt, .slice ta ts.length tc, .string (str gsg)] 46)) := (Below.refl _ w1).alloc (Nat.le_refl _) _
    have X2 := Blk.newAt w1 w1.heap.size 46 _ [.string xa, .string xt, .slice ta ts.length tc, .string (str gsg)] rfl rfl
    have hi2 := hi1.below A2 rfl
    have K2 := (K0.on hb1).on A2
    have T2 := T1.trans (A2.mono T1.size)
    have k0 := K2.cell 0
    have k1 := K2.cell 1
    have k2 := K2.cell 2
    have k3 := K2.cell 3
    have k4 := K2.cell 4
    have x2 := X2.cell 2
    clear HC K0 T0 T1 A2 hi1 hb1 c0 c1 c2 c3 c4
    generalize hW2 : w1.alloc (.cells #[.string xa, .string xt, .slice ta ts.length tc, .string (str gsg)] 46) = W2 at *
    clear hW2
    generalize w1.heap.size = B at *
    cases bN with
    | false =>
      have HV : Hid (R = 21) := by unfold Hid; rw [HVh.out]; rfl
      clear HVh
      go_wp2_with (go_at_call 69; refine (HN _).mono ?_; rintro e w3 ⟨rfl, hww⟩; rw [hww]; clear hww w3)
      go_ret
      exact ⟨ret_i HV.out.symm, T2⟩
    | true =>
      by_cases hs0 : sE = 0
      · subst hs0
        go_upto_region 9 with (first | (go_at_call 69; refine (HN _).mono ?_; rintro e w3 ⟨rfl, hww⟩; rw [hww]; clear hww w3) | (go_at_call 14; refine (HSi _ _ _ T2 hi2).mono ?_; rintro e w6 ⟨rfl, hb6⟩))
        have X6 := X2.on hb6
        have T6 := T2.trans (hb6.mono T2.size)
        clear HSi HN K2 k0 k1 k2 k3 k4 x2 X2 T2 hi2 hb6
        obtain ⟨cp7, w7, hcv7, hi7, hb7⟩ := HCv1 w6
        have X7 := X6.on hb7
        have T7 := T6.trans (hb7.mono T6.size)
        obtain ⟨cp8, w8, hcv8, hi8, hb8⟩ := HCv2 w7
        have T8 := T7.trans (hb8.mono T7.size)
        have x3 : w7.cell? ⟨B, 3, none⟩ = some (.string (str gsg)) := X7.cell 3
        have HSm' := HSm w8 _ _ _ _ _ _ (hi7.below hb8 rfl) hi8
        clear HSm HCv1 HCv2 X6 X7 T6 T7 hi7 hi8 hb7 hb8
        generalize sgn.length = n7 at *
        generalize gsg.length = n8 at *
        cases bG with
        | false =>
          have HV : Hid (R = 20) := by unfold Hid; rw [HVh.out]; rfl
          clear HVh
          go_wp2_with (go_at_call 70; refine HSm'.mono ?_; rintro e w9 ⟨rfl, nn, rfl⟩)
          go_ret
          exact ⟨ret_i HV.out.symm, bel_drewN T8 _⟩
        | true =>
          have HV : Hid (R = 0) := by unfold Hid; rw [HVh.out]; rfl
          clear HVh
          go_wp2_with (go_at_call 70; refine HSm'.mono ?_; rintro e w9 ⟨rfl, nn, rfl⟩)
          go_ret
          exact ⟨ret_i HV.out.symm, bel_drewN T8 _⟩
      · have HV : Hid (R = sE) := by unfold Hid; rw [HVh.out, if_neg (by decide), if_neg (by decide), if_pos hs0]
        have hz : (sE == 0) = false := by simpa using hs0
        clear HVh
        go_wp2_with (first | (go_at_call 69; refine (HN _).mono ?_; rintro e w3 ⟨rfl, hww⟩; rw [hww]; clear hww w3) | (go_at_call 14; refine (HSi _ _ _ T2 hi2).mono ?_; rintro e w6 ⟨rfl, hb6⟩))
        go_ret
        exact ⟨ret_i HV.out.symm, T2.trans (hb6.mono T2.size)⟩
end Go.Proofs.YtgjmaeodgcigdaaGreatDoor
namespace Go.Proofs.YtgjmaeodgcigdaaGreatDoor
open Go.RowKit

/-- all but one block is as it was -/
def Else (R : Nat) (w w' : World) : Prop := ∀ k, k ≠ R → w'.heap[k]? = w.heap[k]?
theorem Else.set (R j : Nat) (w : World) (v : Value) : Else R w (w.setCell ⟨R, j, none⟩ v) := fun _ hk => Below.heap_setCell _ _ _ _ hk
theorem Else.trans {R : Nat} {w w1 w2 : World} (h : Else R w w1) (k : Else R w1 w2) : Else R w w2 := fun i hi => (k i hi).trans (h i hi)
theorem Else.cell {R : Nat} {w w' : World} (h : Else R w w') (p : Addr) (hp : p.block ≠ R) : w'.cell? p = w.cell? p := World.cell?_of_block (w := w) (h p.block hp)
theorem IsT.els {R : Nat} {w w' : World} {a : Option Addr} {n cap : Nat} {l : List (List UInt8)} (h : IsT w a n cap l) (k : Else R w w') (hne : ∀ b off, a = some ⟨b, off, none⟩ → b ≠ R) : IsT w' a n cap l :=
  ⟨h.len_eq, h.le, h.max, h.nil, fun hp => by
    obtain ⟨b, off, e, hc⟩ := h.cells hp
    exact ⟨b, off, e, fun i hi => (k.cell ⟨b, off + i, none⟩ (hne b off e)).trans (hc i hi)⟩⟩
theorem IsP.els {R : Nat} {w w' : World} {a : Option Addr} {n cap : Nat} {l : List Pr} (h : IsP w a n cap l) (k : Else R w w') (hne : ∀ b off, a = some ⟨b, off, none⟩ → b ≠ R) : IsP w' a n cap l :=
  ⟨h.len_eq, h.le, h.max, h.nil, fun hp => by
    obtain ⟨b, off, e, hc⟩ := h.cells hp
    exact ⟨b, off, e, fun i hi => ⟨(k.cell ⟨b, _, none⟩ (hne b off e)).trans (hc i hi).1, (k.cell ⟨b, _, none⟩ (hne b off e)).trans (hc i hi).2⟩⟩⟩
theorem OwnB.els {R : Nat} {w w' : World} {base : Nat} {v : Value} {l : List UInt8} (h : OwnB w base v l) (k : Else R w w') (hR : R < base) : OwnB w' base v l := by
  refine ⟨h.1, ?_⟩
  rcases h.2 with h2 | ⟨g, cap, cur, h3, h4, h5, h6⟩
  · exact .inl h2
  · exact .inr ⟨g, cap, cur, h3, h4, by rw [k g (by omega)]; exact h5, h6⟩
theorem OwnP.els {R : Nat} {w w' : World} {e : TypeId} {base : Nat} {v : Value} {l : List Pr} (h : OwnP e w base v l) (k : Else R w w') (hR : R < base) : OwnP e w' base v l := by
  refine ⟨h.1, ?_⟩
  rcases h.2 with h2 | ⟨g, cap, cur, h3, h4, h5, h6⟩
  · exact .inl h2
  · exact .inr ⟨g, cap, cur, h3, h4, by rw [k g (by omega)]; exact h5, h6⟩
theorem Blk.grown {w w' : World} {row : Option Nat} {B t : Nat} {cs : List Value} (h : Blk w B t cs) (hg : w.grownBy w' row) (hne : ∀ k, row = some k → k ≠ B) : Blk w' B t cs := by
  unfold Blk; rw [hg.block B h.lt (fun e => hne B e.symm rfl)]; exact h

def attH (hs : List Pr) (S : List UInt8) : List Pr := hs ++ [(sDateN, S)]
def attT (hs : List Pr) (S : List UInt8) : List (List UInt8) := nmsL (attH hs S)
def attR (S : List UInt8) (r : Rq) : Rq := ⟨r.m, r.p, r.q, attH r.hs S, r.b⟩
def attX (who sec S : List UInt8) (E : Int) (r : Rq) : List UInt8 := authL who (S.take 8) (attT r.hs S) (signT sec S E (attR S r) (attT r.hs S))
def attE (who sec S : List UInt8) (E : Int) (r : Rq) : Int :=
  if ¬ E = 0 then E else if roomB r.hs = false then 11 else if ¬ signE E (attR S r) (attT r.hs S) = 0 then signE E (attR S r) (attT r.hs S) else if auOk (attX who sec S E r) = false then 20 else 0
def attO (who sec S : List UInt8) (E : Int) (r : Rq) : List Pr := attH r.hs S ++ [(sAuthN, attX who sec S E r)]
def rqNone : Value := .agg #[.string ⟨#[]⟩, .string ⟨#[]⟩, .string ⟨#[]⟩, .slice none 0 0, .slice none 0 0]
theorem nms_length (hs : List Pr) : (nmsL hs).length = hs.length := by unfold nmsL; rw [List.length_mergeSort, List.length_map]
theorem nms_mem {hs : List Pr} {t : List UInt8} (h : t ∈ nmsL hs) : ∃ p ∈ hs, p.1 = t := by
  unfold nmsL at h
  exact List.mem_map.1 ((List.mergeSort_perm _ _).mem_iff.1 h)
/-- a block of an authorization that was laid ahead of a call -/
theorem laid4 {w u x : World} {n : Nat} (hb : Below n u x) (hu : u.heap = (w.alloc (Obj.cells #[.string ⟨#[]⟩, .string ⟨#[]⟩, .slice none 0 0, .string ⟨#[]⟩] 46)).heap) (hn : n = u.heap.size) : Hid (Blk x w.heap.size 46 [.string ⟨#[]⟩, .string ⟨#[]⟩, .slice none 0 0, .string ⟨#[]⟩]) ∧ x.cell? ⟨w.heap.size, 0, none⟩ = some (.string ⟨#[]⟩) ∧ x.frozen? ⟨w.heap.size, 0, none⟩ = false ∧ x.cell? ⟨w.heap.size, 1, none⟩ = some (.string ⟨#[]⟩) ∧ x.frozen? ⟨w.heap.size, 1, none⟩ = false ∧ x.cell? ⟨w.heap.size, 2, none⟩ = some (.slice none 0 0) ∧ x.frozen? ⟨w.heap.size, 2, none⟩ = false ∧ x.cell? ⟨w.heap.size, 3, none⟩ = some (.string ⟨#[]⟩) ∧ x.frozen? ⟨w.heap.size, 3, none⟩ = false := by
  have hlt : w.heap.size < u.heap.size := by rw [hu]; simp
  have h : Blk x w.heap.size 46 [.string ⟨#[]⟩, .string ⟨#[]⟩, .slice none 0 0, .string ⟨#[]⟩] := by unfold Blk; rw [hb.block _ (by omega), hu]; exact heap_alloc_new w _
  exact ⟨h, h.cell 0, h.frozen 0, h.cell 1, h.frozen 1, h.cell 2, h.frozen 2, h.cell 3, h.frozen 3⟩
theorem set4 {x : World} {B : Nat} (h : Blk x B 46 [.string ⟨#[]⟩, .string ⟨#[]⟩, .slice none 0 0, .string ⟨#[]⟩]) (z0 z1 z2 z3 : Value) :
    Blk ((((x.setCell ⟨B, 0, none⟩ z0).setCell ⟨B, 1, none⟩ z1).setCell ⟨B, 2, none⟩ z2).setCell ⟨B, 3, none⟩ z3) B 46 [z0, z1, z2, z3] := (((h.set 0 z0).set 1 z1).set 2 z2).set 3 z3
theorem els4 (x : World) (B : Nat) (z0 z1 z2 z3 : Value) : Else B x ((((x.setCell ⟨B, 0, none⟩ z0).setCell ⟨B, 1, none⟩ z1).setCell ⟨B, 2, none⟩ z2).setCell ⟨B, 3, none⟩ z3) := (((Else.set B 0 x z0).trans (Else.set B 1 _ z1)).trans (Else.set B 2 _ z2)).trans (Else.set B 3 _ z3)
theorem bel4 {w x : World} {n B : Nat} (h : Below n w x) (hB : n ≤ B) (z0 z1 z2 z3 : Value) : Below n w ((((x.setCell ⟨B, 0, none⟩ z0).setCell ⟨B, 1, none⟩ z1).setCell ⟨B, 2, none⟩ z2).setCell ⟨B, 3, none⟩ z3) := (((h.setCell hB z0).setCell hB z1).setCell hB z2).setCell hB z3

theorem OwnP.els2 {R : Nat} {w w' : World} {e : TypeId} {base : Nat} {v : Value} {l : List Pr} (h : OwnP e w base v l) (k : Else R w w') (hR : ∀ i, v.ownBlock = some i → i ≠ R) : OwnP e w' base v l := by
  refine ⟨h.1, ?_⟩
  rcases h.2 with h2 | ⟨g, cap, cur, h3, h4, h5, h6⟩
  · exact .inl h2
  · exact .inr ⟨g, cap, cur, h3, h4, by rw [k g (hR g (by rw [h3]; rfl))]; exact h5, h6⟩
theorem OwnP.toP {w : World} {e : TypeId} {base : Nat} {a : Option Addr} {n c : Nat} {l : List Pr} (h : OwnP e w base (.slice a n c) l) : IsP w a n c l := by
  obtain ⟨a', c', e1, hi⟩ := h.isP
  cases e1; exact hi
theorem OwnB.toB {w : World} {base : Nat} {a : Option Addr} {n c : Nat} {l : List UInt8} (h : OwnB w base (.slice a n c) l) : IsB w a n c l := by
  obtain ⟨a', c', e1, hi⟩ := h.isB
  cases e1; exact hi
theorem els5 (x : World) (B : Nat) (z0 z1 z2 z3 z4 : Value) : Else B x (((((x.setCell ⟨B, 0, none⟩ z0).setCell ⟨B, 1, none⟩ z1).setCell ⟨B, 2, none⟩ z2).setCell ⟨B, 3, none⟩ z3).setCell ⟨B, 4, none⟩ z4) := (els4 x B z0 z1 z2 z3).trans (Else.set B 4 _ z4)
end Go.Proofs.YtgjmaeodgcigdaaGreatDoor
