/- The statements' own example: alive. · stelelaw06.light: what a short request is. · Results that lie in a variable. -/
import Derived.Test.YtgjmaeodgcigdaaGreatDoorC6t
import Derived.Test.YtgjmaeodgcigdaaGreatDoorB37
import Derived.Test.YtgjmaeodgcigdaaGreatDoorB38
import Derived.Test.YtgjmaeodgcigdaaGreatDoorB39
import Derived.Test.YtgjmaeodgcigdaaGreatDoorB25
import Derived.Test.YtgjmaeodgcigdaaGreatDoorB0
import Derived.Laws.ResultCell
import Derived.Laws.Rows
namespace Go.Proofs.YtgjmaeodgcigdaaGreatDoor
open Go.RowKit

theorem show_is {S : List UInt8} {t : Nat} (h : IsTime S t) (w : World) : Calls Tryz.prog 49 #[.int .u64 (t : Int)] w fun e w' => e = .returned (.tuple #[.string (str S), .int .i64 0]) ∧ Below w.heap.size w w' := by
  obtain ⟨S', E, hs, hc⟩ := show_cod t
  rcases hs with ⟨h1, _⟩ | ⟨_, h2, rfl⟩
  · exact absurd h1 (Nat.not_lt.2 h.le)
  · obtain rfl := h.uniq h2
    exact hc w
theorem read_is {S : List UInt8} {t : Nat} (h : IsTime S t) (w : World) : Calls Tryz.prog 115 #[.string (str S)] w fun e w' => e = .returned (.tuple #[.int .u64 (t : Int), .int .i64 0]) ∧ Below w.heap.size w w' := by
  refine (codRead (str S) w).mono ?_
  rintro e w' ⟨he, hb⟩
  rw [str_list] at he
  refine ⟨?_, hb⟩
  rcases he with ⟨t', h1, rfl⟩ | ⟨h1, _⟩
  · rw [h.uniqT h1]
  · exact absurd h (h1 t)
/-- how long an authorization is -/
theorem att_len {who sec S : List UInt8} {t : Nat} {r : Rq} (hS : IsTime S t) (h : attE who sec S 0 r = 0) : (attX who sec S 0 r).length ≤ 2000 := by
  obtain ⟨_, h2, h3⟩ := att_facts hS h
  have h3' := h3
  unfold rightC at h3'
  simp only [Bool.and_eq_true] at h3'
  obtain ⟨g1, g2, g3, g4⟩ := h3'
  have a1 : who.length ≤ 16 := by unfold accessL at g1; rw [Bool.and_eq_true] at g1; exact (of_decide_eq_true g1.2).2
  have a2 := names_facts g3
  have a3 : (signT sec S 0 (attR S r) (attT r.hs S)).length ≤ 64 := by unfold madeL at g4; rw [Bool.and_eq_true] at g4; exact (of_decide_eq_true g4.1).2
  have b1 := joinTo_le [59] (attT r.hs S) 64 a2.1 (attT r.hs S).length (Nat.le_refl _)
  have b2 : (attT r.hs S).length * (64 + 1) ≤ 24 * (64 + 1) := Nat.mul_le_mul_right _ a2.2
  have b3 : ([59] : List UInt8).length = 1 := rfl
  rw [b3] at b1
  have b4 : (joinS [59] (attT r.hs S)).length ≤ 1560 := by unfold joinS; omega
  unfold attX authL scopeL
  simp only [List.length_append, List.length_take]
  have c1 : sCred.length = 28 := rfl
  have c2 : sScope.length = 22 := rfl
  have c3 : sSigned.length = 16 := rfl
  have c4 : sSignat.length = 12 := rfl
  have c5 : ([47] : List UInt8).length = 1 := rfl
  omega
theorem att_vals {who sec S : List UInt8} {t : Nat} {r : Rq} (hS : IsTime S t) (h : attE who sec S 0 r = 0) (zh : ∀ i, i < r.hs.length → (nthP r.hs i).2.length ≤ 30000) : ∀ i, i < (attO who sec S 0 r).length → (nthP (attO who sec S 0 r) i).2.length ≤ 30000 := fun i hi => by
  have hx := att_len hS h
  rw [nthP_eq _ i hi]
  have hm := List.getElem_mem hi
  unfold attO attH at hm
  rcases List.mem_append.1 hm with hm | hm
  · rcases List.mem_append.1 hm with hm | hm
    · obtain ⟨j, hj, e⟩ := List.getElem_of_mem hm
      unfold attO attH at *
      rw [← e, ← nthP_eq r.hs j hj]; exact zh j hj
    · rw [List.mem_singleton] at hm
      unfold attO attH at *
      rw [hm]; show S.length ≤ 30000; have := hS.length; omega
  · rw [List.mem_singleton] at hm
    unfold attO attH at *
    rw [hm]; show (attX who sec S 0 r).length ≤ 30000; omega

theorem exZ1 : ∀ i, i < exH.length → (nthP exH i).1.length ≤ 140737488351232 := fun i hi => by
  have h1 : exH.length = 1 := rfl
  have h2 : i = 0 := by omega
  subst h2; decide
theorem exZ2 : ∀ i, i < exH.length → (nthP exH i).2.length ≤ 30000 := fun i hi => by
  have h1 : exH.length = 1 := rfl
  have h2 : i = 0 := by omega
  subst h2; decide
theorem isB_nil6 (w : World) : IsB w none 0 0 [] := OwnB.toB (OwnB.nil w 0)
def exW (w : World) : World := w.alloc (.cells #[.string ⟨#[104, 111, 115, 116]⟩, .string ⟨#[104]⟩] 68)
theorem exP (w : World) : IsP (exW w) (some ⟨w.heap.size, 0, none⟩) 1 1 exH :=
  ⟨rfl, Nat.le_refl _, by unfold maxLen; decide, fun e => (by cases e), fun _ => ⟨w.heap.size, 0, rfl, fun i hi => by
    have : i = 0 := by omega
    subst this
    have hk : Blk (exW w) w.heap.size 68 [.string ⟨#[104, 111, 115, 116]⟩, .string ⟨#[104]⟩] := Blk.newAt w _ _ _ _ rfl rfl
    exact ⟨hk.cell 0, hk.cell 1⟩⟩⟩

set_option maxRecDepth 20000 in
set_option maxHeartbeats 4000000 in
theorem lawAlive6 (w : World) (hm : MxS w) : Calls Tryz.prog 10 #[] w fun e w' => e = .returned (.bool true) ∧ Below w.heap.size w w' := by
  have T0 : Below w.heap.size w (exW w) := (Below.refl _ w).alloc (Nat.le_refl _) _
  have HA := codAttach [97, 49] [115] [71, 69, 84] [47, 98] [] (some ⟨w.heap.size, 0, none⟩) 1 1 exH none 0 0 [] 1440938160 exS 0 (exW w) (exP w) (isB_nil6 _) (hm.below T0 hm.lt) (by decide) (by decide) (by decide) (by decide) (by decide) (by decide)
    exZ2 exZ1 (fun _ => rfl) (show_is exTime)
  have e0 : attE [97, 49] [115] exS 0 ⟨[71, 69, 84], [47, 98], [], exH, []⟩ = 0 := exAtt
  simp only [e0, if_true] at HA
  obtain ⟨v1, v2, v3⟩ := exVer
  have HV : ∀ W va vn vc ua un uc, MxS W → IsP W va vn vc (attO [97, 49] [115] exS 0 ⟨[71, 69, 84], [47, 98], [], exH, []⟩) → IsB W ua un uc [] → ∀ sec R, sec.length ≤ 10 → verE sec exS 0 0 1440938160 1440938160 ⟨exR.m, exR.p, exR.q, attO [97, 49] [115] exS 0 exR, exR.b⟩ = R → Calls Tryz.prog 28 #[.agg #[.string (str [71, 69, 84]), .string (str [47, 98]), .string (str []), .slice va vn vc, .slice ua un uc], .string (str sec), .int .u64 ((1440938160 : Nat) : Int)] W fun e w' => e = .returned (.int .i64 R) ∧ Below W.heap.size W w' := fun W va vn vc ua un uc hW hPW hBW sec R hsec hR => by
    have h := codVerify sec [71, 69, 84] [47, 98] [] va vn vc _ ua un uc [] 1440938160 1440938160 exS 0 0 W hPW hBW hW (by omega) (by decide) (by decide) (by decide) (by have := hBW.len_eq; simp at this; omega) (att_vals exTime e0 exZ2) (by decide) (by decide) (fun _ => by rw [show attO [97, 49] [115] exS 0 ⟨[71, 69, 84], [47, 98], [], exH, []⟩ = attO [97, 49] [115] exS 0 exR from rfl, v1]; rfl) (fun w => by rw [show attO [97, 49] [115] exS 0 ⟨[71, 69, 84], [47, 98], [], exH, []⟩ = attO [97, 49] [115] exS 0 exR from rfl, v1]; exact read_is exTime w) (fun _ => rfl) (show_is exTime)
    rw [show verE sec exS 0 0 1440938160 1440938160 ⟨[71, 69, 84], [47, 98], [], attO [97, 49] [115] exS 0 ⟨[71, 69, 84], [47, 98], [], exH, []⟩, []⟩ = R from hR] at h
    exact h
  have HMw : Hid (∀ W, Below w.heap.size w W → MxS W) := fun W hW => hm.below hW hm.lt
  clear hm e0
  generalize attO [97, 49] [115] exS 0 ⟨[71, 69, 84], [47, 98], [], exH, []⟩ = aO at *
  have HV1 : ∀ W va vn vc ua un uc, MxS W → IsP W va vn vc aO → IsB W ua un uc [] → Calls Tryz.prog 28 #[.agg #[.string ⟨#[71, 69, 84]⟩, .string ⟨#[47, 98]⟩, .string ⟨#[]⟩, .slice va vn vc, .slice ua un uc], .string ⟨#[115]⟩, .int .u64 1440938160] W fun e w' => e = .returned (.int .i64 0) ∧ Below W.heap.size W w' := fun W va vn vc ua un uc h1 h2 h3 => HV W va vn vc ua un uc h1 h2 h3 [115] 0 (by decide) v2
  have HV2 : ∀ W va vn vc ua un uc, MxS W → IsP W va vn vc aO → IsB W ua un uc [] → Calls Tryz.prog 28 #[.agg #[.string ⟨#[71, 69, 84]⟩, .string ⟨#[47, 98]⟩, .string ⟨#[]⟩, .slice va vn vc, .slice ua un uc], .string ⟨#[116]⟩, .int .u64 1440938160] W fun e w' => e = .returned (.int .i64 20) ∧ Below W.heap.size W w' := fun W va vn vc ua un uc h1 h2 h3 => HV W va vn vc ua un uc h1 h2 h3 [116] 20 (by decide) v3
  have HA' : Calls Tryz.prog 24 #[.agg #[.string ⟨#[71, 69, 84]⟩, .string ⟨#[47, 98]⟩, .string ⟨#[]⟩, .slice (some ⟨w.heap.size, 0, none⟩) 1 1, .slice none 0 0], .string ⟨#[97, 49]⟩, .string ⟨#[115]⟩, .int .u64 1440938160] (w.alloc (.cells #[.string ⟨#[104, 111, 115, 116]⟩, .string ⟨#[104]⟩] 68)) fun e w' => (∃ va vn vc ua un uc, e = .returned (.tuple #[.agg #[.string ⟨#[71, 69, 84]⟩, .string ⟨#[47, 98]⟩, .string ⟨#[]⟩, .slice va vn vc, .slice ua un uc], .int .i64 0]) ∧ IsP w' va vn vc aO ∧ IsB w' ua un uc []) ∧ Below (exW w).heap.size (exW w) w' := HA
  clear HA HV v1 v2 v3
  go_enter Tryz.func10, Tryz.ntmps10
  go_upto_region 2 with (go_at_call 24; refine HA'.mono ?_; rintro e w1 ⟨⟨va, vn, vc, ua, un, uc, rfl, hi1, hb1⟩, hbel1⟩)
  have T1 := T0.trans (hbel1.mono T0.size)
  have A2 : Below w1.heap.size w1 (w1.alloc (.cells #[.string ⟨#[71, 69, 84]⟩, .string ⟨#[47, 98]⟩, .string ⟨#[]⟩, .slice va vn vc, .slice ua un uc] 34)) := (Below.refl _ w1).alloc (Nat.le_refl _) _
  have K2 := Blk.newAt w1 w1.heap.size 34 _ [.string ⟨#[71, 69, 84]⟩, .string ⟨#[47, 98]⟩, .string ⟨#[]⟩, .slice va vn vc, .slice ua un uc] rfl rfl
  have T2 := T1.trans (A2.mono T1.size)
  have hi2 := hi1.below A2 rfl
  have hB2 := hb1.below A2 rfl
  have M2 := HMw.out _ T2
  have k0 := K2.cell 0
  have k1 := K2.cell 1
  have k2 := K2.cell 2
  have k3 := K2.cell 3
  have k4 := K2.cell 4
  clear hi1 hb1 T0 T1 HA' hbel1 A2
  go_wp2_with (go_at_call 28; first
    | (have hmk := T3; refine (HV2 _ _ _ _ _ _ _ (HMw.out _ T3) (hi2.below hb3 rfl) (hB2.below hb3 rfl)).mono ?_; rintro e w4 ⟨rfl, hb4⟩)
    | (refine (HV1 _ _ _ _ _ _ _ M2 hi2 hB2).mono ?_; rintro e w3 ⟨rfl, hb3⟩; have T3 := T2.trans (hb3.mono T2.size); have K3 := K2.on hb3; have d0 := K3.cell 0; have d1 := K3.cell 1; have d2 := K3.cell 2; have d3 := K3.cell 3; have d4 := K3.cell 4))
  go_ret
  exact ⟨rfl, T3.trans (hb4.mono T3.size)⟩
end Go.Proofs.YtgjmaeodgcigdaaGreatDoor
namespace Go.Proofs.YtgjmaeodgcigdaaGreatDoor
open Go.RowKit

def sumH (l : List Pr) : Nat → Nat
  | 0 => 0
  | k + 1 => sumH l k + (nthP l k).1.length + (nthP l k).2.length
theorem sumH_le (l : List Pr) (M : Nat) (h : ∀ i, i < l.length → (nthP l i).1.length ≤ M ∧ (nthP l i).2.length ≤ M) : ∀ k, k ≤ l.length → sumH l k ≤ k * (2 * M) := by
  intro k
  induction k with
  | zero => intro _; exact Nat.zero_le _
  | succ k ih =>
    intro hk
    have h1 := ih (by omega)
    have h2 := h k (by omega)
    rw [sumH, Nat.add_mul, Nat.one_mul]
    omega
theorem sumH_mono (l : List Pr) : ∀ n k, k < n → (nthP l k).1.length ≤ sumH l n ∧ (nthP l k).2.length ≤ sumH l n := by
  intro n
  induction n with
  | zero => intro k h; omega
  | succ n ih =>
    intro k h
    rw [sumH]
    by_cases e : k = n
    · subst e; omega
    · have := ih k (by omega); omega
/-- what is known of a short request -/
structure Short (m p q : List UInt8) (hn bn : Nat) (hs : List Pr) : Prop where
  m : m.length ≤ 20000
  p : p.length ≤ 20000
  q : q.length ≤ 20000
  b : bn ≤ 20000
  n : hn ≤ 100
  h : ∀ i, i < hs.length → (nthP hs i).1.length ≤ 20000 ∧ (nthP hs i).2.length ≤ 20000

def lightB (m p q : List UInt8) (hn bn : Nat) (hs : List Pr) : Bool := decide (hn ≤ 100 ∧ m.length + p.length + q.length + bn + sumH hs hn ≤ 20000)
theorem light_short {m p q : List UInt8} {hn bn : Nat} {hs : List Pr} (h : lightB m p q hn bn hs = true) (hl : hs.length = hn) : Short m p q hn bn hs := by
  obtain ⟨h1, h2⟩ := of_decide_eq_true h
  exact ⟨by omega, by omega, by omega, by omega, h1, fun i hi => by have := sumH_mono hs hn i (by omega); omega⟩

set_option maxRecDepth 20000 in
set_option maxHeartbeats 2000000 in
theorem lawLight6 (m p q : List UInt8) (ha : Option Addr) (hn hc : Nat) (hs : List Pr) (ba : Option Addr) (bn bc : Nat) (w : World) (hP : IsP w ha hn hc hs)
    (zm : m.length ≤ 140737488351232) (zp : p.length ≤ 140737488351232) (zq : q.length ≤ 140737488351232) (zb : bn ≤ 140737488351232) (zh : ∀ i, i < hs.length → (nthP hs i).1.length ≤ 140737488351232 ∧ (nthP hs i).2.length ≤ 140737488351232) :
    Calls Tryz.prog 9 #[.agg #[.string (str m), .string (str p), .string (str q), .slice ha hn hc, .slice ba bn bc]] w fun e w' => e = .returned (.bool (lightB m p q hn bn hs)) ∧ Below w.heap.size w w' := by
  have HL : Hid (hs.length = hn) := hP.len_eq
  have T0 : Below w.heap.size w (w.alloc (.cells #[.string (str m), .string (str p), .string (str q), .slice ha hn hc, .slice ba bn bc] 25)) := (Below.refl _ w).alloc (Nat.le_refl _) _
  have K0 := Blk.newAt w w.heap.size 25 _ [.string (str m), .string (str p), .string (str q), .slice ha hn hc, .slice ba bn bc] rfl rfl
  have c0 := K0.cell 0
  have c1 := K0.cell 1
  have c2 := K0.cell 2
  have c3 := K0.cell 3
  have c4 := K0.cell 4
  have HPw : Hid (∀ W, Below w.heap.size w W → IsP W ha hn hc hs) := fun W hW => hP.below hW rfl
  have hmx : hn ≤ 9223372036854775807 := by have := hP.le; have := hP.max; unfold maxLen at this; omega
  have s1 : (str m).size = m.length := str_size m
  have s2 : (str p).size = p.length := str_size p
  have s3 : (str q).size = q.length := str_size q
  have HR : Hid (lightB m p q hn bn hs = decide (hn ≤ 100 ∧ m.length + p.length + q.length + bn + sumH hs hn ≤ 20000)) := rfl
  generalize lightB m p q hn bn hs = rb at *
  have hb0 : m.length + p.length + q.length + bn ≤ 562949953404928 := by omega
  have w1 : IntKind.i64.wrap ((m.length : Int) + (p.length : Int)) = (m.length : Int) + (p.length : Int) := wrapi64_in _ (by omega) (by omega)
  have w2 : IntKind.i64.wrap ((m.length : Int) + (p.length : Int) + (q.length : Int)) = (m.length : Int) + (p.length : Int) + (q.length : Int) := wrapi64_in _ (by omega) (by omega)
  have w3 : IntKind.i64.wrap ((m.length : Int) + (p.length : Int) + (q.length : Int) + (bn : Int)) = (m.length : Int) + (p.length : Int) + (q.length : Int) + (bn : Int) := wrapi64_in _ (by omega) (by omega)
  clear hP zm zp zq zb
  generalize str m = xm at *
  generalize str p = xp at *
  generalize str q = xq at *
  generalize m.length = lm at *
  generalize p.length = lp at *
  generalize q.length = lq at *
  go_enter Tryz.func9, Tryz.ntmps9
  go_wp2
  go_loopw [3, 4] (fun v i wr => ∃ (k : Nat), k ≤ hn ∧ i = .int .i64 k ∧ ∃ z : Int, v = .int .i64 z ∧ Hid (hn ≤ 100 → z = ((lm + lp + lq + bn + sumH hs k : Nat) : Int)) ∧ Hid (Below w.heap.size w wr) ∧ Hid (Blk wr w.heap.size 25 [.string xm, .string xp, .string xq, .slice ha hn hc, .slice ba bn bc])) (fun _ i _ => hn - (intOf i).toNat)
  case atStart => exact ⟨0, Nat.zero_le _, rfl, _, rfl, fun _ => by simp [sumH], T0, K0⟩
  case round =>
    obtain ⟨k, hk, rfl, z, rfl, HZ, HT1, HK1⟩ := hrel
    have T1 := HT1.out
    have K1 := HK1.out
    clear T0 K0 c0 c1 c2 c3 c4 w1 w2 w3 s1 s2 s3
    by_cases hlt : k < hn
    · obtain ⟨b, off, rfl, hcl⟩ := (HPw.out _ T1).cells (by omega)
      obtain ⟨g1, g2⟩ := hcl k hlt
      have d3 := K1.cell 3
      have hp0 : (0 : Int) ≤ (k : Int) := by omega
      have hp1 : (k : Int) < (hn : Int) := by omega
      obtain ⟨z1, z2⟩ := zh k (by have := HL.out; omega)
      have y1 : (str (nthP hs k).1).size = (nthP hs k).1.length := str_size _
      have y2 : (str (nthP hs k).2).size = (nthP hs k).2.length := str_size _
      have HN : Hid (hn ≤ 100 → IntKind.i64.wrap (IntKind.i64.wrap (z + ((nthP hs k).1.length : Int)) + ((nthP hs k).2.length : Int)) = ((lm + lp + lq + bn + sumH hs (k + 1) : Nat) : Int)) := fun h => by
        have e := HZ.out h
        have hs2 := sumH_le hs 140737488351232 zh k (by have := HL.out; omega)
        have hs3 : k * (2 * 140737488351232) ≤ 100 * (2 * 140737488351232) := Nat.mul_le_mul_right _ (by omega)
        have e1 : IntKind.i64.wrap (z + ((nthP hs k).1.length : Int)) = z + ((nthP hs k).1.length : Int) := wrapi64_in _ (by omega) (by omega)
        have e2 : IntKind.i64.wrap (z + ((nthP hs k).1.length : Int) + ((nthP hs k).2.length : Int)) = z + ((nthP hs k).1.length : Int) + ((nthP hs k).2.length : Int) := wrapi64_in _ (by omega) (by omega)
        rw [e1, e2, e, sumH]
        omega
      clear hcl z1 z2 HZ
      generalize str (nthP hs k).1 = t1 at *
      generalize str (nthP hs k).2 = t2 at *
      generalize (nthP hs k).1.length = l1 at *
      generalize (nthP hs k).2.length = l2 at *
      go_wp2
      go_quiet (fail)
      go_wp2
      go_roundw
      case rel => exact ⟨k + 1, by omega, by go_num, _, rfl, (by unfold Hid; intro h9; have h8 := HN.out h9; simp only [Go.IntWalk.i64_left] at h8; exact h8), bel_drewN T1 _, K1.drewN _⟩
      case measure => simp [intOf]; omega
    · have hkn : k = hn := by omega
      subst hkn
      have d3 := K1.cell 3
      have hge : ¬ (k : Int) < (k : Int) := by omega
      by_cases h100 : k ≤ 100
      · have i100 : (k : Int) ≤ 100 := by omega
        have ez := HZ.out h100
        by_cases hz : z ≤ 20000
        · have HV : Hid (rb = true) := by unfold Hid; rw [HR.out]; exact decide_eq_true ⟨h100, by omega⟩
          clear HR ez
          go_wp2
          go_ret
          exact ⟨ret_bb HV.out.symm, T1⟩
        · have HV : Hid (rb = false) := by unfold Hid; rw [HR.out]; exact decide_eq_false (fun h => hz (by omega))
          clear HR ez
          go_wp2
          go_ret
          exact ⟨ret_bb HV.out.symm, T1⟩
      · have i100 : ¬ (k : Int) ≤ 100 := by omega
        have HV : Hid (rb = false) := by unfold Hid; rw [HR.out]; exact decide_eq_false (fun h => h100 h.1)
        clear HR
        by_cases hz : z ≤ 20000
        · go_wp2
          go_ret
          exact ⟨ret_bb HV.out.symm, T1⟩
        · go_wp2
          go_ret
          exact ⟨ret_bb HV.out.symm, T1⟩
end Go.Proofs.YtgjmaeodgcigdaaGreatDoor
namespace Go.Proofs.YtgjmaeodgcigdaaGreatDoor
open Go.RowKit

theorem results_cell1 {P : Program} {fn : Func} {p : Tmp} {ty : TypeId} (h : fn.results = #[.cell p ty]) (tmps : Array Value) (w : World) (g : Nat) (x : Value)
    (hp : tmps.getD p undef = .pointer (some ⟨g, 0, none⟩)) (hl : (loadVar ty ⟨g, 0, none⟩).run P w = .ok x w) : (results fn tmps).run P w = .ok x w := by
  have q1 : tmps[p]?.getD undef = .pointer (some ⟨g, 0, none⟩) := by simpa using hp
  simp only [results, h]
  simp [q1, asAddr, hl]

theorem results_cellrow {P : Program} {fn : Func} {p : Tmp} {ty : TypeId} (h : fn.results = #[.cell p ty]) (tmps : Array Value) (w : World) (g : Nat) (t : TypeId) (cs : Array Value) (fr : Nat × Nat) (d : TypeDesc)
    (hp : tmps.getD p undef = .pointer (some ⟨g, 0, none⟩)) (hg : w.heap[g]? = some (.cells cs t fr))
    (hu : P.underlying ty = some d) (hd : (match d with | .struct _ | .array _ _ => true | _ => false) = true) (hi : (P.info? ty).map (·.size) = some cs.size) :
    (results fn tmps).run P w = .ok (.agg cs) w := results_cell1 h tmps w g _ hp (run_loadVar_row w g t ty cs fr d hg hu hd hi)
end Go.Proofs.YtgjmaeodgcigdaaGreatDoor
