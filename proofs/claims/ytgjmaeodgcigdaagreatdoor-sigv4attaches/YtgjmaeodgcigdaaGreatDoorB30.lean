/- Plain facts: an authorization is parted as it was joined. · What sigv4.ShowAuth answers. · sigv4.ReadAuth's closure: a text cut at a mark. -/
import Derived.Test.YtgjmaeodgcigdaaGreatDoorB23
import Derived.Test.YtgjmaeodgcigdaaGreatDoorB29
import Derived.Test.YtgjmaeodgcigdaaGreatDoorB4
import Derived.Lib.Split
import Derived.Test.YtgjmaeodgcigdaaGreatDoorB22
import Derived.Deep.RegionHeld3
import Derived.Test.YtgjmaeodgcigdaaGreatDoorShelf1
namespace Go.Proofs.YtgjmaeodgcigdaaGreatDoor

theorem index_mid (x : UInt8) (s b : List UInt8) : ∀ a : List UInt8, x ∉ a → Lib.index (a ++ (x :: s) ++ b) (x :: s) = a.length := by
  intro a
  induction a with
  | nil =>
    intro _
    rw [List.nil_append, List.cons_append, Lib.index, if_pos]
    · rfl
    · rw [List.isPrefixOf_iff_prefix, ← List.cons_append]; exact List.prefix_append _ _
  | cons c a ih =>
    intro h
    have h1 := ih (fun h2 => h (List.mem_cons_of_mem c h2))
    have hc : ¬ x = c := fun e => h (by rw [e]; exact List.mem_cons_self)
    rw [List.cons_append, List.cons_append, Lib.index, if_neg, h1, if_neg]
    · rw [List.length_cons]; omega
    · rw [beq_iff_eq]; omega
    · simp [List.isPrefixOf, hc]
theorem cut_mid {sep : List UInt8} (x : UInt8) (s a b : List UInt8) (hs : sep = x :: s) (h : x ∉ a) : Lib.cut (a ++ sep ++ b) sep = (a, b, true) := by
  subst hs
  unfold Lib.cut
  rw [index_mid x s b a h, if_pos (by omega), Int.toNat_natCast, List.append_assoc, List.take_left, ← List.length_append, ← List.append_assoc, List.drop_left]
theorem upto_mid {sep : List UInt8} (x : UInt8) (s a b : List UInt8) (hs : sep = x :: s) (h : x ∉ a) : uptoI (a ++ sep ++ b) sep = some a.length := by
  subst hs
  refine upto_at ?_ ?_
  · unfold isAt
    rw [List.append_assoc, List.drop_left, List.take_left, Bool.and_eq_true]
    exact ⟨decide_eq_true (by simp), by simp⟩
  · intro i hi
    unfold isAt
    rw [Bool.and_eq_false_iff]
    right
    rw [beq_eq_false_iff_ne]
    intro e
    rw [List.append_assoc, List.drop_append_of_le_length (by omega), List.drop_eq_getElem_cons hi, List.cons_append, List.length_cons, List.take_succ_cons] at e
    injection e with e1 _
    exact h (by rw [← e1]; exact List.getElem_mem hi)
theorem uptoA_mid {sep : List UInt8} (x : UInt8) (s a b : List UInt8) (hs : sep = x :: s) (h : x ∉ a) : uptoA (a ++ sep ++ b) sep = a := by
  unfold uptoA; rw [upto_mid x s a b hs h]; show (a ++ sep ++ b).take a.length = a; rw [List.append_assoc, List.take_left]
theorem uptoB_mid {sep : List UInt8} (x : UInt8) (s a b : List UInt8) (hs : sep = x :: s) (h : x ∉ a) : uptoB (a ++ sep ++ b) sep = b := by
  unfold uptoB; rw [upto_mid x s a b hs h]; show (a ++ sep ++ b).drop (a.length + sep.length) = b; rw [← List.length_append, List.drop_left]

/-- texts joined are parted as they were -/
theorem cut_joinT (c : UInt8) (ts : List (List UInt8)) (h : ∀ t ∈ ts, c ∉ t) : ∀ k, k + 1 ≤ ts.length → cutL c (joinTo [c] ts (k + 1)) = ts.take (k + 1) := by
  have hc : ∀ i, i < ts.length → ∀ a ∈ nthT ts i, a ≠ c := fun i hi a ha e => by
    rw [nthT_eq ts i hi] at ha
    exact h _ (List.getElem_mem hi) (by rw [← e]; exact ha)
  intro k
  induction k with
  | zero =>
    intro hk
    rw [joinTo, joinTo, if_pos rfl, List.nil_append, List.nil_append, cut_one c _ (hc 0 (by omega)), takeT ts 0 (by omega)]; rfl
  | succ k ih =>
    intro hk
    rw [joinTo, if_neg (by omega), cut_sep c _ _ (hc (k + 1) (by omega)), ih (by omega), takeT ts (k + 1) (by omega)]
theorem cut_joinS (c : UInt8) (ts : List (List UInt8)) (h : ∀ t ∈ ts, c ∉ t) (h0 : 0 < ts.length) : cutL c (joinS [c] ts) = ts := by
  unfold joinS
  obtain ⟨k, hk⟩ : ∃ k, ts.length = k + 1 := ⟨ts.length - 1, by omega⟩
  rw [hk, cut_joinT c ts h k (by omega), ← hk, List.take_length]
theorem split_joinT (c : UInt8) : ∀ (ts : List (List UInt8)) (k : Nat), (∀ t ∈ ts, c ∉ t) → 0 < ts.length → ts.length ≤ k + 1 → Lib.splitK [c] 0 k (Lib.join ts [c]) = ts := by
  intro ts
  induction ts with
  | nil => intro k _ h; exact absurd h (Nat.lt_irrefl 0)
  | cons t r ih =>
    intro k h _ hk
    have hidx : ∀ l : List UInt8, c ∉ l → Lib.index l [c] = -1 := by
      intro l
      induction l with
      | nil => intro _; rfl
      | cons d l ih2 =>
        intro h2
        have hd : ¬ c = d := fun e => h2 (by rw [e]; exact List.mem_cons_self)
        rw [Lib.index, if_neg (by simp [List.isPrefixOf, hd]), ih2 (fun h3 => h2 (List.mem_cons_of_mem d h3))]
        rfl
    cases r with
    | nil =>
      rw [Lib.join_one]
      cases k with
      | zero => rfl
      | succ k => rw [Lib.splitK, hidx t (h t List.mem_cons_self)]; rfl
    | cons u r =>
      cases k with
      | zero => simp at hk
      | succ k =>
        have e : Lib.join (t :: u :: r) [c] = t ++ [c] ++ Lib.join (u :: r) [c] := by
          rw [Lib.join_cons, Lib.join_cons]; simp [Lib.joinTail]
        have hi := index_mid c [] (Lib.join (u :: r) [c]) t (h t List.mem_cons_self)
        rw [e, Lib.splitK, hi, if_neg (by rw [beq_iff_eq]; omega), Int.toNat_natCast, Nat.add_zero]
        rw [show t ++ [c] ++ Lib.join (u :: r) [c] = t ++ ([c] ++ Lib.join (u :: r) [c]) from List.append_assoc _ _ _, List.take_left]
        rw [show t ++ ([c] ++ Lib.join (u :: r) [c]) = (t ++ [c]) ++ Lib.join (u :: r) [c] from (List.append_assoc _ _ _).symm, ← List.length_append, List.drop_left]
        rw [ih k (fun x hx => h x (List.mem_cons_of_mem t hx)) (by simp) (by simp at hk ⊢; omega)]
theorem joinS_len (c : UInt8) (ts : List (List UInt8)) : ∀ k, k ≤ (joinTo [c] ts k).length + 1 := by
  intro k
  induction k with
  | zero => omega
  | succ k ih =>
    rw [joinTo, List.length_append, List.length_append]
    by_cases h0 : k = 0
    · rw [if_pos h0]; omega
    · rw [if_neg h0, List.length_cons, List.length_nil]; omega
theorem splitN_join (c : UInt8) (ts : List (List UInt8)) (n : Nat) (h : ∀ t ∈ ts, c ∉ t) (h0 : 0 < ts.length) (hn : ts.length ≤ n) : Lib.splitN (joinS [c] ts) [c] n = ts := by
  unfold Lib.splitN
  have h1 := joinS_len c ts ts.length
  have h2 : ts.length ≤ min n ((joinS [c] ts).length + 1) - 1 + 1 := by unfold joinS; omega
  rw [← join_eq] at h2 ⊢
  exact split_joinT c ts _ h h0 h2

theorem sname_no {t : List UInt8} (h : snameL t = true) (c : UInt8) (hc : snNB c = false) : c ∉ t := fun h1 => by
  unfold snameL at h
  rw [Bool.and_eq_true] at h
  have := List.all_eq_true.1 h.1 c h1
  rw [hc] at this; cases this
theorem join_no (c d : UInt8) (ts : List (List UInt8)) (hd : ¬ c = d) (h : ∀ t ∈ ts, c ∉ t) : ∀ k, k ≤ ts.length → c ∉ joinTo [d] ts k := by
  intro k
  induction k with
  | zero => intro _ h1; cases h1
  | succ k ih =>
    intro hk h1
    rw [joinTo, List.mem_append, List.mem_append] at h1
    rcases h1 with (h1 | h1) | h1
    · exact ih (by omega) h1
    · by_cases h0 : k = 0
      · rw [if_pos h0] at h1; cases h1
      · rw [if_neg h0, List.mem_singleton] at h1; exact hd h1
    · rw [nthT_eq ts k (by omega)] at h1; exact h _ (List.getElem_mem _) h1

theorem hv_hx (c : UInt8) : isHv c = hxB c := by
  unfold isHv hxB hvN
  have := c.toNat_lt
  rw [Bool.eq_iff_iff, decide_eq_true_eq, decide_eq_true_eq]
  split
  · constructor <;> intro <;> omega
  · split
    · constructor <;> intro <;> omega
    · constructor <;> intro <;> omega
theorem sb_nth (l : List UInt8) (k : Nat) : sb (str l) (k : Int) = nth l k := by unfold sb; rw [str_list]; rfl
theorem hex_same (l : List UInt8) : (decide (unE (str l) = 0) && decide ((unR (str l)).length = 32)) = madeL hxB 64 64 l := by
  have hz := str_size l
  rw [Bool.eq_iff_iff, Bool.and_eq_true, decide_eq_true_eq, decide_eq_true_eq]
  unfold madeL
  rw [Bool.and_eq_true, decide_eq_true_eq, List.all_eq_true]
  unfold unE unR
  by_cases hg : goodS (str l) = true
  · rw [if_pos hg, if_pos hg, unL_length, hz]
    have hg2 := hg
    unfold goodS at hg2
    rw [Bool.and_eq_true, beq_iff_eq, hz] at hg2
    constructor
    · rintro ⟨_, h1⟩
      refine ⟨by omega, fun c hc => ?_⟩
      obtain ⟨i, hi, e⟩ := List.getElem_of_mem hc
      have h2 := of_decide_eq_true hg2.2 (i / 2) (by omega)
      rw [← hv_hx]
      rcases Nat.mod_two_eq_zero_or_one i with h3 | h3
      · have h4 := h2.1
        rw [show 2 * ((i / 2 : Nat) : Int) = ((i : Nat) : Int) by omega, sb_nth, nth_eq l i hi, e] at h4
        exact h4
      · have h4 := h2.2
        rw [show 2 * ((i / 2 : Nat) : Int) + 1 = ((i : Nat) : Int) by omega, sb_nth, nth_eq l i hi, e] at h4
        exact h4
    · rintro ⟨h1, _⟩
      exact ⟨rfl, by omega⟩
  · rw [if_neg hg]
    constructor
    · rintro ⟨h1, _⟩; cases h1
    · rintro ⟨h1, h2⟩
      exfalso
      apply hg
      unfold goodS
      rw [Bool.and_eq_true, beq_iff_eq, hz]
      refine ⟨by omega, decide_eq_true fun i hi => ?_⟩
      have a1 : 2 * i < l.length := by omega
      have a2 : 2 * i + 1 < l.length := by omega
      rw [show 2 * (i : Int) = ((2 * i : Nat) : Int) by omega, show ((2 * i : Nat) : Int) + 1 = ((2 * i + 1 : Nat) : Int) by omega, sb_nth, sb_nth, hv_hx, hv_hx, nth_eq l _ a1, nth_eq l _ a2]
      exact ⟨h2 _ (List.getElem_mem a1), h2 _ (List.getElem_mem a2)⟩
theorem right_same (ac dt : List UInt8) (ts : List (List UInt8)) (sg : List UInt8) : rightL ac dt ts sg = rightC ac dt ts sg := by
  unfold rightL rightC
  rw [← hex_same]
  have hd : madeL dtB 8 8 dt = (decide (dt.length = 8) && dt.all dtB) := by
    unfold madeL
    rw [show decide (8 ≤ dt.length ∧ dt.length ≤ 8) = decide (dt.length = 8) from by rw [Bool.eq_iff_iff, decide_eq_true_eq, decide_eq_true_eq]; omega]
  rw [hd]
  cases dt.all dtB <;> cases accessL ac <;> cases decide (dt.length = 8) <;> cases namesL ts <;> cases decide (unE (str sg) = 0) <;> rfl

def cuA (l sep : List UInt8) : List UInt8 := (Lib.cut l sep).1
def cuB (l sep : List UInt8) : List UInt8 := (Lib.cut l sep).2.1
def caR1 (l : List UInt8) : List UInt8 := cuB l sCred
def caAc (l : List UInt8) : List UInt8 := cuA (caR1 l) [47]
def caR2 (l : List UInt8) : List UInt8 := cuB (caR1 l) [47]
def caDt (l : List UInt8) : List UInt8 := cuA (caR2 l) [47]
def caR3 (l : List UInt8) : List UInt8 := cuB (caR2 l) [47]
def caR4 (l : List UInt8) : List UInt8 := cuB (caR3 l) sSigned
def caLs (l : List UInt8) : List UInt8 := cuA (caR4 l) sSignat
def caSg (l : List UInt8) : List UInt8 := cuB (caR4 l) sSignat
def caTs (l : List UInt8) : List (List UInt8) := Lib.splitN (caLs l) [59] 25
def caOk (l : List UInt8) : Bool := rightC (caAc l) (caDt l) (caTs l) (caSg l) && (authL (caAc l) (caDt l) (caTs l) (caSg l) == l)

theorem cuA_mid {sep : List UInt8} (x : UInt8) (s a b : List UInt8) (hs : sep = x :: s) (h : x ∉ a) : cuA (a ++ sep ++ b) sep = a := by unfold cuA; rw [cut_mid x s a b hs h]
theorem cuB_mid {sep : List UInt8} (x : UInt8) (s a b : List UInt8) (hs : sep = x :: s) (h : x ∉ a) : cuB (a ++ sep ++ b) sep = b := by unfold cuB; rw [cut_mid x s a b hs h]

def sLoc3 : List UInt8 := [108, 111, 99, 97, 108, 47, 115, 51, 47, 97, 119, 115, 52, 95, 114, 101, 113, 117, 101, 115, 116]
theorem right_facts {ac dt : List UInt8} {ts : List (List UInt8)} {sg : List UInt8} (h : rightC ac dt ts sg = true) : (47 : UInt8) ∉ ac ∧ (47 : UInt8) ∉ dt ∧ (∀ t ∈ ts, (59 : UInt8) ∉ t ∧ (44 : UInt8) ∉ t) ∧ 0 < ts.length ∧ ts.length ≤ 24 := by
  unfold rightC at h
  simp only [Bool.and_eq_true] at h
  obtain ⟨h1, h2, h3, h4⟩ := h
  refine ⟨fun hc => ?_, fun hc => ?_, fun t ht => ?_, ?_⟩
  · unfold accessL at h1
    rw [Bool.and_eq_true] at h1
    have := List.all_eq_true.1 h1.1 47 hc
    revert this; decide
  · unfold madeL at h2
    rw [Bool.and_eq_true] at h2
    have := List.all_eq_true.1 h2.2 47 hc
    revert this; decide
  · unfold namesL at h3
    rw [Bool.and_eq_true, Bool.and_eq_true] at h3
    have := List.all_eq_true.1 h3.1.1 t ht
    exact ⟨sname_no this 59 (by decide), sname_no this 44 (by decide)⟩
  · unfold namesL at h3
    rw [Bool.and_eq_true, Bool.and_eq_true] at h3
    have := of_decide_eq_true h3.2
    omega
theorem ca_back {ac dt : List UInt8} {ts : List (List UInt8)} {sg : List UInt8} (h : rightC ac dt ts sg = true) :
    caAc (authL ac dt ts sg) = ac ∧ caDt (authL ac dt ts sg) = dt ∧ caTs (authL ac dt ts sg) = ts ∧ caSg (authL ac dt ts sg) = sg := by
  obtain ⟨h1, h2, h3, h4, h5⟩ := right_facts h
  have hj : (44 : UInt8) ∉ joinS [59] ts := join_no 44 59 ts (by decide) (fun t ht => (h3 t ht).2) _ (Nat.le_refl _)
  have e1 : caR1 (authL ac dt ts sg) = ac ++ [47] ++ (dt ++ [47] ++ (sLoc3 ++ sSigned ++ (joinS [59] ts ++ sSignat ++ sg))) := by
    unfold caR1
    rw [show authL ac dt ts sg = [] ++ sCred ++ (ac ++ [47] ++ (dt ++ [47] ++ (sLoc3 ++ sSigned ++ (joinS [59] ts ++ sSignat ++ sg)))) from by unfold authL scopeL; simp [sScope, sLoc3]]
    exact cuB_mid 65 _ [] _ rfl (by simp)
  have e2 : caR2 (authL ac dt ts sg) = dt ++ [47] ++ (sLoc3 ++ sSigned ++ (joinS [59] ts ++ sSignat ++ sg)) := by
    unfold caR2; rw [e1]; exact cuB_mid 47 [] _ _ rfl h1
  have e3 : caR3 (authL ac dt ts sg) = sLoc3 ++ sSigned ++ (joinS [59] ts ++ sSignat ++ sg) := by
    unfold caR3; rw [e2]; exact cuB_mid 47 [] _ _ rfl h2
  have e4 : caR4 (authL ac dt ts sg) = joinS [59] ts ++ sSignat ++ sg := by
    unfold caR4; rw [e3]; exact cuB_mid 44 _ _ _ rfl (by decide)
  refine ⟨?_, ?_, ?_, ?_⟩
  · unfold caAc; rw [e1]; exact cuA_mid 47 [] _ _ rfl h1
  · unfold caDt; rw [e2]; exact cuA_mid 47 [] _ _ rfl h2
  · unfold caTs caLs; rw [e4, show cuA (joinS [59] ts ++ sSignat ++ sg) sSignat = joinS [59] ts from cuA_mid 44 _ _ _ rfl hj]; exact splitN_join 59 ts 25 (fun t ht => (h3 t ht).1) h4 (by omega)
  · unfold caSg; rw [e4]; exact cuB_mid 44 _ _ _ rfl hj
theorem au_back {ac dt : List UInt8} {ts : List (List UInt8)} {sg : List UInt8} (h : rightC ac dt ts sg = true) :
    auAc (authL ac dt ts sg) = ac ∧ auDt (authL ac dt ts sg) = dt ∧ auTs (authL ac dt ts sg) = ts ∧ auSg (authL ac dt ts sg) = sg ∧ auOk (authL ac dt ts sg) = true := by
  obtain ⟨h1, h2, h3, h4, h5⟩ := right_facts h
  have hj : (44 : UInt8) ∉ joinS [59] ts := join_no 44 59 ts (by decide) (fun t ht => (h3 t ht).2) _ (Nat.le_refl _)
  have e0 : authL ac dt ts sg = [] ++ sCred ++ (ac ++ [47] ++ (dt ++ sLocAll ++ (joinS [59] ts ++ sSignat ++ sg))) := by unfold authL scopeL; simp [sScope, sLocAll, sSigned]
  have i0 : uptoI (authL ac dt ts sg) sCred = some 0 := by rw [e0]; exact upto_mid 65 _ [] _ rfl (by simp)
  have a0 : uptoA (authL ac dt ts sg) sCred = [] := by rw [e0]; exact uptoA_mid 65 _ [] _ rfl (by simp)
  have e1 : auR1 (authL ac dt ts sg) = ac ++ [47] ++ (dt ++ sLocAll ++ (joinS [59] ts ++ sSignat ++ sg)) := by
    unfold auR1; rw [e0]; exact uptoB_mid 65 _ [] _ rfl (by simp)
  have i1 : uptoI (auR1 (authL ac dt ts sg)) [47] = some ac.length := by rw [e1]; exact upto_mid 47 [] _ _ rfl h1
  have e2 : auR2 (authL ac dt ts sg) = dt ++ sLocAll ++ (joinS [59] ts ++ sSignat ++ sg) := by
    unfold auR2; rw [e1]; exact uptoB_mid 47 [] _ _ rfl h1
  have i2 : uptoI (auR2 (authL ac dt ts sg)) sLocAll = some dt.length := by rw [e2]; exact upto_mid 47 _ _ _ rfl h2
  have e3 : auR3 (authL ac dt ts sg) = joinS [59] ts ++ sSignat ++ sg := by
    unfold auR3; rw [e2]; exact uptoB_mid 47 _ _ _ rfl h2
  have i3 : uptoI (auR3 (authL ac dt ts sg)) sSignat = some (joinS [59] ts).length := by rw [e3]; exact upto_mid 44 _ _ _ rfl hj
  have f1 : auAc (authL ac dt ts sg) = ac := by unfold auAc; rw [e1]; exact uptoA_mid 47 [] _ _ rfl h1
  have f2 : auDt (authL ac dt ts sg) = dt := by unfold auDt; rw [e2]; exact uptoA_mid 47 _ _ _ rfl h2
  have f3 : auTs (authL ac dt ts sg) = ts := by unfold auTs auLs; rw [e3, show uptoA (joinS [59] ts ++ sSignat ++ sg) sSignat = joinS [59] ts from uptoA_mid 44 _ _ _ rfl hj]; exact cut_joinS 59 ts (fun t ht => (h3 t ht).1) h4
  have f4 : auSg (authL ac dt ts sg) = sg := by unfold auSg; rw [e3]; exact uptoB_mid 44 _ _ _ rfl hj
  refine ⟨f1, f2, f3, f4, ?_⟩
  unfold auOk
  rw [f1, f2, f3, f4, i0, i1, i2, i3, a0, right_same, h]
  simp
/-- both ways of reading tell the same -/
theorem ca_au (l : List UInt8) : caOk l = auOk l ∧ (auOk l = true → caAc l = auAc l ∧ caDt l = auDt l ∧ caTs l = auTs l ∧ caSg l = auSg l) := by
  by_cases hc : caOk l = true
  · have hc2 := hc
    unfold caOk at hc2
    rw [Bool.and_eq_true, beq_iff_eq] at hc2
    obtain ⟨f1, f2, f3, f4, f5⟩ := au_back hc2.1
    rw [hc2.2] at f1 f2 f3 f4 f5
    exact ⟨by rw [hc, f5], fun _ => ⟨f1.symm, f2.symm, f3.symm, f4.symm⟩⟩
  · have hau : auOk l = false := by
      cases ha : auOk l with
      | false => rfl
      | true =>
        exfalso
        apply hc
        unfold auOk at ha
        simp only [Bool.and_eq_true, beq_iff_eq] at ha
        have hr := ha.1.2
        rw [right_same] at hr
        obtain ⟨f1, f2, f3, f4⟩ := ca_back hr
        rw [ha.2] at f1 f2 f3 f4
        unfold caOk
        rw [f1, f2, f3, f4, hr, ha.2]
        simp
    exact ⟨by rw [hau]; simpa using hc, fun h => by rw [hau] at h; cases h⟩
end Go.Proofs.YtgjmaeodgcigdaaGreatDoor
namespace Go.Proofs.YtgjmaeodgcigdaaGreatDoor
open Go.RowKit

set_option maxRecDepth 20000 in
set_option maxHeartbeats 2000000 in
theorem codShowAuth (ac dt sg : List UInt8) (ta : Option Addr) (tn tc : Nat) (ts : List (List UInt8)) (w : World) (hT : IsT w ta tn tc ts) (zn : tn ≤ 1000) (zt : ∀ i, i < ts.length → (nthT ts i).length ≤ 100000) (za : ac.length ≤ 100000) (zd : dt.length ≤ 100000) (zs : sg.length ≤ 100000) :
    Calls Tryz.prog 22 #[.agg #[.string (str ac), .string (str dt), .slice ta tn tc, .string (str sg)]] w fun e w' => e = .returned (.string (str (authL ac dt ts sg))) ∧ Below w.heap.size w w' := by
  have T0 : Below w.heap.size w (w.alloc (.cells #[.string (str ac), .string (str dt), .slice ta tn tc, .string (str sg)] 46)) := (Below.refl _ w).alloc (Nat.le_refl _) _
  have K0 := Blk.newAt w w.heap.size 46 _ [.string (str ac), .string (str dt), .slice ta tn tc, .string (str sg)] rfl rfl
  have c0 := K0.cell 0
  have c1 := K0.cell 1
  have c2 := K0.cell 2
  have c3 := K0.cell 3
  have HSc := fun W => codScope dt W (by omega)
  have ha : (str ac).size ≤ 100000 := by rw [str_size]; exact za
  have hs : (str sg).size ≤ 100000 := by rw [str_size]; exact zs
  have hd : (str (scopeL dt)).size ≤ 100022 := by rw [str_size]; unfold scopeL; rw [List.length_append, show sScope.length = 22 from rfl]; omega
  have hj : (str (joinS [59] ts)).size ≤ 100001000 := by
    rw [str_size]
    have l5 := joinTo_le [59] ts 100000 zt ts.length (Nat.le_refl _)
    have h3 : ([59] : List UInt8).length = 1 := rfl
    rw [h3] at l5
    have hn := hT.len_eq
    have l5' : ts.length * (100000 + 1) ≤ 1000 * (100000 + 1) := Nat.mul_le_mul_right _ (by omega)
    unfold joinS; omega
  have HJ : ∀ W, Below w.heap.size w W → Calls Tryz.prog 37 #[.slice ta tn tc, .string ⟨#[59]⟩] W fun e w' => e = .returned (.string (str (joinS [59] ts))) ∧ Below W.heap.size W w' := fun W hW => codJoinT [59] ta tn tc ts W (hT.below hW rfl) zn (by rw [str_size] at hj; omega)
  have HTx : Hid ((⟨#[65, 87, 83, 52, 45, 72, 77, 65, 67, 45, 83, 72, 65, 50, 53, 54, 32, 67, 114, 101, 100, 101, 110, 116, 105, 97, 108, 61]⟩ : ByteArray) ++ str ac ++ ⟨#[47]⟩ ++ str (scopeL dt) ++ ⟨#[44, 32, 83, 105, 103, 110, 101, 100, 72, 101, 97, 100, 101, 114, 115, 61]⟩ ++ str (joinS [59] ts) ++ ⟨#[44, 32, 83, 105, 103, 110, 97, 116, 117, 114, 101, 61]⟩ ++ str sg = str (authL ac dt ts sg)) := by
    unfold Hid
    rw [show (⟨#[65, 87, 83, 52, 45, 72, 77, 65, 67, 45, 83, 72, 65, 50, 53, 54, 32, 67, 114, 101, 100, 101, 110, 116, 105, 97, 108, 61]⟩ : ByteArray) = str sCred from rfl, show (⟨#[47]⟩ : ByteArray) = str [47] from rfl, show (⟨#[44, 32, 83, 105, 103, 110, 101, 100, 72, 101, 97, 100, 101, 114, 115, 61]⟩ : ByteArray) = str sSigned from rfl, show (⟨#[44, 32, 83, 105, 103, 110, 97, 116, 117, 114, 101, 61]⟩ : ByteArray) = str sSignat from rfl, str_append2, str_append2, str_append2, str_append2, str_append2, str_append2, str_append2]
    rfl
  clear hT zt za zd zs zn
  generalize str ac = xa at *
  generalize str dt = xd at *
  generalize str sg = xs at *
  generalize str (scopeL dt) = xsc at *
  generalize str (joinS [59] ts) = xj at *
  have y1 : ¬ 9223372036854775807 < 28 + xa.size := by omega
  have y2 : ¬ 9223372036854775807 < 28 + xa.size + 1 := by omega
  have y3 : ¬ 9223372036854775807 < 28 + xa.size + 1 + xsc.size := by omega
  have y4 : ¬ 9223372036854775807 < 28 + xa.size + 1 + xsc.size + 16 := by omega
  have y5 : ¬ 9223372036854775807 < 28 + xa.size + 1 + xsc.size + 16 + xj.size := by omega
  have y6 : ¬ 9223372036854775807 < 28 + xa.size + 1 + xsc.size + 16 + xj.size + 12 := by omega
  have y7 : ¬ 9223372036854775807 < 28 + xa.size + 1 + xsc.size + 16 + xj.size + 12 + xs.size := by omega
  clear ha hs hd hj
  have HKP : ∀ w', Below (w.alloc (.cells #[.string xa, .string xd, .slice ta tn tc, .string xs] 46)).heap.size (w.alloc (.cells #[.string xa, .string xd, .slice ta tn tc, .string xs] 46)) w' → Below (w.alloc (.cells #[.string xa, .string xd, .slice ta tn tc, .string xs] 46)).heap.size (w.alloc (.cells #[.string xa, .string xd, .slice ta tn tc, .string xs] 46)) w' ∧ w'.cell? ⟨w.heap.size, 0, none⟩ = some (.string xa) ∧ w'.cell? ⟨w.heap.size, 1, none⟩ = some (.string xd) ∧ w'.cell? ⟨w.heap.size, 2, none⟩ = some (.slice ta tn tc) ∧ w'.cell? ⟨w.heap.size, 3, none⟩ = some (.string xs) := fun w' hb => ⟨hb, (K0.on hb).cell 0, (K0.on hb).cell 1, (K0.on hb).cell 2, (K0.on hb).cell 3⟩
  clear K0 c0 c1 c2 c3
  go_enter Tryz.func22, Tryz.ntmps22
  go_wp2
  generalize w.alloc (.cells #[.string xa, .string xd, .slice ta tn tc, .string xs] 46) = W0 at *
  go_region_held3 (fun w' => Below W0.heap.size W0 w' ∧ w'.cell? ⟨w.heap.size, 0, none⟩ = some (.string xa) ∧ w'.cell? ⟨w.heap.size, 1, none⟩ = some (.string xd) ∧ w'.cell? ⟨w.heap.size, 2, none⟩ = some (.slice ta tn tc) ∧ w'.cell? ⟨w.heap.size, 3, none⟩ = some (.string xs))
    (first | exact HKP _ ((Below.refl _ W0).drew) | assumption | (have hq0 := ‹Below _ _ _ ∧ _›; exact HKP _ (hq0.1.trans (hbx.mono hq0.1.size))))
    (first | (go_at_call 50; refine (HSc _).mono ?_; rintro e w1 ⟨rfl, hbx⟩) | (go_at_call 37; have hq0 := ‹Below _ _ _ ∧ _›; refine (HJ _ (T0.trans (hq0.1.mono T0.size))).mono ?_; rintro e w2 ⟨rfl, hbx⟩; clear hq0))
  all_goals
    have hq9 := ‹Below _ _ _ ∧ _›
    go_wp2
    go_ret
    exact ⟨ret_s HTx.out, T0.trans (hq9.1.mono T0.size)⟩

end Go.Proofs.YtgjmaeodgcigdaaGreatDoor
namespace Go.Proofs.YtgjmaeodgcigdaaGreatDoor
open Go.RowKit

/-- what the library's search reads -/
def MxS (w : World) : Prop := ∃ m : Int, w.cell? ⟨0, 0, none⟩ = some (.int .i64 m)
theorem MxS.below {n : Nat} {w w' : World} (h : MxS w) (hb : Below n w w') (hn : 0 < n) : MxS w' := by
  obtain ⟨m, hm⟩ := h
  exact ⟨m, (hb.cell (p := ⟨0, 0, none⟩) hn).trans hm⟩
theorem MxS.lt {w : World} (h : MxS w) : 0 < w.heap.size := by obtain ⟨m, hm⟩ := h; exact cell_lt hm
def auZ : List Value := [.string ⟨#[]⟩, .string ⟨#[]⟩, .slice none 0 0, .string ⟨#[]⟩]
/-- ReadAuth on its way: what is left, and what was read -/
structure St (w0 w : World) (r : List UInt8) (c : List Value) : Prop where
  res : Blk w w0.heap.size 46 auZ
  left : Blk w (w0.heap.size + 1) 9 [.string (str r)]
  au : Blk w (w0.heap.size + 1 + 1) 46 c
  mx : MxS w
  pos : 0 < w0.heap.size
  bel : Below w0.heap.size w0 w
theorem MxS.set {w : World} (h : MxS w) (B j : Nat) (v : Value) (hB : ¬ B = 0) : MxS (w.setCell ⟨B, j, none⟩ v) := by
  obtain ⟨m, hm⟩ := h
  exact ⟨m, by rw [World.cell?_setCell_other _ _ _ _ (fun e => hB (by first | (injection e with e1; omega) | (injection e with e1; exact e1.symm) | (injection e)))]; exact hm⟩
theorem St.put {w0 w : World} {r : List UInt8} {c : List Value} (h : St w0 w r c) (j : Nat) (v : Value) : St w0 (w.setCell ⟨w0.heap.size + 1 + 1, j, none⟩ v) r (c.set j v) :=
  ⟨h.res.other _ _ (by show w0.heap.size ≠ w0.heap.size + 1 + 1; omega), h.left.other _ _ (by show w0.heap.size + 1 ≠ w0.heap.size + 1 + 1; omega), h.au.set j v, h.mx.set _ _ _ (by have := h.pos; omega), h.pos, h.bel.setCell (p := ⟨w0.heap.size + 1 + 1, j, none⟩) (by show w0.heap.size ≤ w0.heap.size + 1 + 1; omega) v⟩
theorem St.alloc {w0 w : World} {r : List UInt8} {c : List Value} (h : St w0 w r c) (o : Obj) : St w0 (w.alloc o) r c :=
  ⟨h.res.alloc o, h.left.alloc o, h.au.alloc o, h.mx.below ((Below.refl _ w).alloc (Nat.le_refl _) o) h.mx.lt, h.pos, h.bel.alloc h.bel.size o⟩

set_option maxRecDepth 20000 in
set_option maxHeartbeats 1000000 in
theorem codUp (sep : List UInt8) {w0 w : World} {r : List UInt8} {c : List Value} (h : St w0 w r c) (hr : r.length ≤ 1000000) :
    Calls Tryz.prog 56 #[.string (str sep), .pointer (some ⟨w0.heap.size + 1, 0, none⟩)] w fun e w' => e = .returned (.string (str (cuA r sep))) ∧ St w0 w' (cuB r sep) c := by
  obtain ⟨m, hm⟩ := h.mx
  have HC := Tryz.strings_Cut (str r) (str sep) m w (by rw [str_size]; omega) hm
  rw [str_list, str_list] at HC
  change Calls Tryz.prog 57 _ _ fun e w' => e = .returned (.tuple #[.string (str (cuA r sep)), .string (str (cuB r sep)), .bool (Lib.cut r sep).2.2]) ∧ _ at HC
  have HS : Hid (∀ n, St w0 ((w.drewN n).setCell ⟨w0.heap.size + 1, 0, none⟩ (.string (str (cuB r sep)))) (cuB r sep) c) := fun n => by
    have hpos := h.pos
    exact ⟨(h.res.drewN n).other _ _ (by show w0.heap.size ≠ w0.heap.size + 1; omega), (h.left.drewN n).set 0 _, (h.au.drewN n).other _ _ (by show w0.heap.size + 1 + 1 ≠ w0.heap.size + 1; omega), MxS.set (w := w.drewN n) ⟨m, hm⟩ _ _ _ (by omega), hpos, (bel_drewN h.bel n).setCell (p := ⟨w0.heap.size + 1, 0, none⟩) (by show w0.heap.size ≤ w0.heap.size + 1; omega) _⟩
  have c0 := h.left.cell 0
  have g0 : ∀ n, (w.drewN n).cell? ⟨w0.heap.size + 1, 0, none⟩ = some (.string (str r)) := fun n => (h.left.drewN n).cell 0
  have f0 : ∀ n, (w.drewN n).frozen? ⟨w0.heap.size + 1, 0, none⟩ = false := fun n => (h.left.drewN n).frozen 0
  clear h hm
  generalize str sep = s1 at *
  generalize (Lib.cut r sep).2.2 = b1 at *
  generalize cuA r sep = xa at *
  generalize cuB r sep = xb at *
  go_enter Tryz.func56, Tryz.ntmps56
  go_wp2_with (go_at_call 57; refine HC.mono ?_; rintro e w1 ⟨rfl, nn, rfl⟩; have gn := g0 nn; have fn := f0 nn)
  go_ret
  exact ⟨rfl, HS.out _⟩
end Go.Proofs.YtgjmaeodgcigdaaGreatDoor
