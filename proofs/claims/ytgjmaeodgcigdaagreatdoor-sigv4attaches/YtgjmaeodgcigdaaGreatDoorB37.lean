/- Plain facts: what was signed is verified. · The example of the statements: what is signed with one secret isn't what another one signs. · The example of the statements: what Attach and Verify tell of it. · What clock's leap, daysAhead and yearOf answer. · What clock's monthDays and Civil answer. -/
import Derived.Test.YtgjmaeodgcigdaaGreatDoorB35
import Derived.Test.YtgjmaeodgcigdaaGreatDoorB24
import Derived.OwnWalk
namespace Go.Proofs.YtgjmaeodgcigdaaGreatDoor

theorem find_app (l m : List Pr) (nm : List UInt8) : findL (l ++ m) nm = (findL l nm).or (findL m nm) := by
  unfold findL
  rw [List.find?_append]
  cases l.find? (fun p => p.1 == nm) <;> rfl
theorem find_one (a v nm : List UInt8) : findL [(a, v)] nm = if a = nm then some v else none := by
  unfold findL
  by_cases h : a = nm
  · subst h; rw [if_pos rfl, List.find?_cons_of_pos (by simp)]; rfl
  · have h2 : ¬ ((a, v).1 == nm) = true := by rw [beq_iff_eq]; exact h
    rw [if_neg h, List.find?_cons_of_neg (p := fun p : Pr => p.1 == nm) (a := (a, v)) h2]; rfl
theorem find_isSome {l : List Pr} {p : Pr} (h : p ∈ l) : (findL l p.1).isSome = true := by
  unfold findL
  rw [Option.isSome_map, List.find?_isSome]
  exact ⟨p, h, by simp⟩
theorem room_facts {hs : List Pr} (h : roomB hs = true) : findL hs sAuthN = none ∧ findL hs sDateN = none ∧ hs.length ≤ 22 := by
  unfold roomB at h
  simp only [Bool.and_eq_true, Bool.not_eq_true', decide_eq_true_eq] at h
  obtain ⟨h1, h2, h3⟩ := h
  refine ⟨?_, ?_, h3⟩
  · cases hh : findL hs sAuthN with
    | none => rfl
    | some v => rw [hh] at h1; cases h1
  · cases hh : findL hs sDateN with
    | none => rfl
    | some v => rw [hh] at h2; cases h2
theorem vAu_att {hs : List Pr} (h : roomB hs = true) (S X : List UInt8) : vAu (attH hs S ++ [(sAuthN, X)]) = X := by
  obtain ⟨h1, h2, _⟩ := room_facts h
  unfold vAu attH
  rw [find_app, find_app, h1, find_one, find_one, if_neg (by decide), if_pos rfl]
  rfl
theorem vDa_att {hs : List Pr} (h : roomB hs = true) (S X : List UInt8) : vDa (attH hs S ++ [(sAuthN, X)]) = S := by
  obtain ⟨h1, h2, _⟩ := room_facts h
  unfold vDa attH
  rw [find_app, find_app, h2, find_one, find_one, if_pos rfl]
  rfl
theorem find_att {hs : List Pr} {S X t : List UInt8} (h : t ∈ attT hs S) : findL (attH hs S ++ [(sAuthN, X)]) t = findL (attH hs S) t := by
  obtain ⟨p, hp, e⟩ := nms_mem h
  have h1 := find_isSome hp
  rw [e] at h1
  rw [find_app]
  cases hf : findL (attH hs S) t with
  | none => rw [hf] at h1; cases h1
  | some v => rfl
theorem lines_att (hs : List Pr) (S X : List UInt8) : ∀ k, k ≤ (attT hs S).length → linesTo (attH hs S ++ [(sAuthN, X)]) (attT hs S) k = linesTo (attH hs S) (attT hs S) k := by
  intro k
  induction k with
  | zero => intro _; rfl
  | succ k ih =>
    intro hk
    rw [linesTo, linesTo, ih (by omega)]
    unfold lineT
    rw [find_att (by rw [nthT_eq _ k (by omega)]; exact List.getElem_mem _)]
theorem has_att (hs : List Pr) (S X : List UInt8) : hasAll (attH hs S ++ [(sAuthN, X)]) (attT hs S) = hasAll (attH hs S) (attT hs S) := by
  unfold hasAll
  rw [Bool.eq_iff_iff, List.all_eq_true, List.all_eq_true]
  constructor
  · intro h t ht; have := h t ht; rw [find_att ht] at this; exact this
  · intro h t ht; rw [find_att ht]; exact h t ht
theorem sign_att (sec S S2 X : List UInt8) (E : Int) (m p q bd : List UInt8) (hs : List Pr) :
    signE E ⟨m, p, q, attH hs S ++ [(sAuthN, X)], bd⟩ (attT hs S) = signE E ⟨m, p, q, attH hs S, bd⟩ (attT hs S) ∧
    signT sec S2 E ⟨m, p, q, attH hs S ++ [(sAuthN, X)], bd⟩ (attT hs S) = signT sec S2 E ⟨m, p, q, attH hs S, bd⟩ (attT hs S) := by
  have e1 : canonE ⟨m, p, q, attH hs S ++ [(sAuthN, X)], bd⟩ (attT hs S) = canonE ⟨m, p, q, attH hs S, bd⟩ (attT hs S) := by
    unfold canonE; dsimp only; rw [has_att]
  have e2 : canonX ⟨m, p, q, attH hs S ++ [(sAuthN, X)], bd⟩ (attT hs S) = canonX ⟨m, p, q, attH hs S, bd⟩ (attT hs S) := by
    unfold canonX; dsimp only; rw [lines_att hs S X _ (Nat.le_refl _)]
  have e3 : signE E ⟨m, p, q, attH hs S ++ [(sAuthN, X)], bd⟩ (attT hs S) = signE E ⟨m, p, q, attH hs S, bd⟩ (attT hs S) := by
    unfold signE; rw [e1]
  refine ⟨e3, ?_⟩
  unfold signT signX
  rw [e3, e2]

theorem hx_dg (n : Nat) (h : n < 16) : hxB (dg n) = true := by
  have : ∀ k : Fin 16, hxB (dg k.val) = true := by decide
  exact this ⟨n, h⟩
theorem hex_all (l : List UInt8) : (hexL l).all hxB = true := by
  induction l with
  | nil => rfl
  | cons c l ih =>
    have hc := c.toNat_lt
    show (dg (hiN c) :: dg (loN c) :: hexL l).all hxB = true
    rw [List.all_cons, List.all_cons, ih, hx_dg (hiN c) (by unfold hiN; omega), hx_dg (loN c) (by unfold loN; omega)]
    rfl
theorem sign_made {sec S : List UInt8} {r : Rq} {ts : List (List UInt8)} (h : signE 0 r ts = 0) : madeL hxB 64 64 (signT sec S 0 r ts) = true := by
  unfold signT
  rw [if_pos h]
  unfold signX madeL
  rw [hex_all, hexL_length, hm_length]
  rfl
theorem time8 {S : List UInt8} {t : Nat} (h : IsTime S t) : madeL dtB 8 8 (S.take 8) = true := by
  obtain ⟨n, y, m, d, hh, i, c, _, _, _, _, _, rfl, _⟩ := h
  have e : (txt y m d hh i c).take 8 = dgs 4 y ++ (dgs 2 m ++ dgs 2 d) := by
    unfold txt
    rw [show dgs 4 y ++ (dgs 2 m ++ (dgs 2 d ++ (84 :: (dgs 2 hh ++ (dgs 2 i ++ (dgs 2 c ++ [90])))))) = (dgs 4 y ++ (dgs 2 m ++ dgs 2 d)) ++ (84 :: (dgs 2 hh ++ (dgs 2 i ++ (dgs 2 c ++ [90])))) from by simp]
    rw [List.take_append_of_le_length (by simp [dgs_length]), List.take_of_length_le (by simp [dgs_length])]
  rw [e]
  unfold madeL
  have a1 : (dgs 4 y).all dtB = true := dgs_all 4 y
  have a2 : (dgs 2 m).all dtB = true := dgs_all 2 m
  have a3 : (dgs 2 d).all dtB = true := dgs_all 2 d
  rw [List.all_append, List.all_append, a1, a2, a3]
  simp [dgs_length]
theorem count_no {c : UInt8} {l : List UInt8} (h : c ∉ l) : l.count c = 0 := List.count_eq_zero.2 h
theorem made_no {p : UInt8 → Bool} {lo hi : Nat} {l : List UInt8} (h : madeL p lo hi l = true) {c : UInt8} (hc : p c = false) : c ∉ l := fun h1 => by
  unfold madeL at h
  rw [Bool.and_eq_true] at h
  have := List.all_eq_true.1 h.2 c h1
  rw [hc] at this; cases this
/-- a text that is an authorization, joined of parts of which all but the first are right: so is that one -/
theorem right_who {who dt : List UInt8} {ts : List (List UInt8)} {sg : List UInt8} (hd : madeL dtB 8 8 dt = true) (ht : namesL ts = true) (hg : madeL hxB 64 64 sg = true) (h : auOk (authL who dt ts sg) = true) : rightC who dt ts sg = true := by
  have ha := h
  unfold auOk at ha
  simp only [Bool.and_eq_true, beq_iff_eq] at ha
  have hr := ha.1.2
  have hx := ha.2
  rw [right_same] at hr
  generalize auAc (authL who dt ts sg) = ac' at *
  generalize auDt (authL who dt ts sg) = dt' at *
  generalize auTs (authL who dt ts sg) = ts' at *
  generalize auSg (authL who dt ts sg) = sg' at *
  have hno : ∀ {a d : List UInt8} {s : List (List UInt8)} {g : List UInt8}, (47 : UInt8) ∉ d → (∀ t ∈ s, (47 : UInt8) ∉ t) → (47 : UInt8) ∉ g → (authL a d s g).count 47 = a.count 47 + 4 := fun {a d s g} h1 h2 h3 => by
    unfold authL scopeL
    have hj : (47 : UInt8) ∉ joinS [59] s := join_no 47 59 s (by decide) h2 _ (Nat.le_refl _)
    simp only [List.count_append]
    rw [count_no h1, count_no hj, count_no h3, show sCred.count 47 = 0 from by decide, show sScope.count 47 = 3 from by decide, show sSigned.count 47 = 0 from by decide, show sSignat.count 47 = 0 from by decide, show ([47] : List UInt8).count 47 = 1 from by decide]
    omega
  obtain ⟨f1, f2, f3, f4, f5⟩ := right_facts hr
  have hr2 := hr
  unfold rightC at hr2
  simp only [Bool.and_eq_true] at hr2
  have hnm : ∀ {s : List (List UInt8)}, namesL s = true → ∀ t ∈ s, (47 : UInt8) ∉ t := fun {s} h t ht => by
    unfold namesL at h
    rw [Bool.and_eq_true, Bool.and_eq_true] at h
    exact sname_no (List.all_eq_true.1 h.1.1 t ht) 47 (by decide)
  have c1 := hno (a := who) (made_no hd (by decide)) (hnm ht) (made_no hg (by decide))
  have c2 := hno (a := ac') f2 (hnm hr2.2.2.1) (made_no hr2.2.2.2 (by decide))
  rw [← hx, c2, count_no f1] at c1
  have hw : (47 : UInt8) ∉ who := List.count_eq_zero.1 (by omega)
  have e1 : who = ac' := by
    have a1 : auAc (authL who dt ts sg) = who := by
      have e1 : auR1 (authL who dt ts sg) = who ++ [47] ++ (dt ++ sLocAll ++ (joinS [59] ts ++ sSignat ++ sg)) := by
        unfold auR1
        rw [show authL who dt ts sg = [] ++ sCred ++ (who ++ [47] ++ (dt ++ sLocAll ++ (joinS [59] ts ++ sSignat ++ sg))) from by unfold authL scopeL; simp [sScope, sLocAll, sSigned]]
        exact uptoB_mid 65 _ [] _ rfl (by simp)
      unfold auAc; rw [e1]; exact uptoA_mid 47 [] _ _ rfl hw
    have a2 := (au_back hr).1
    rw [hx, a1] at a2
    exact a2
  unfold rightC
  rw [e1, hr2.1, hd, ht, hg]
  rfl
theorem att_facts {who sec S : List UInt8} {t : Nat} {r : Rq} (hS : IsTime S t) (h : attE who sec S 0 r = 0) :
    roomB r.hs = true ∧ signE 0 (attR S r) (attT r.hs S) = 0 ∧ rightC who (S.take 8) (attT r.hs S) (signT sec S 0 (attR S r) (attT r.hs S)) = true := by
  unfold attE at h
  rw [if_neg (by decide)] at h
  by_cases h1 : roomB r.hs = true
  · rw [if_neg (by rw [h1]; decide)] at h
    by_cases h2 : signE 0 (attR S r) (attT r.hs S) = 0
    · rw [if_neg (not_not_intro h2)] at h
      refine ⟨h1, h2, ?_⟩
      have h3 : auOk (attX who sec S 0 r) = true := by
        cases hh : auOk (attX who sec S 0 r) with
        | true => rfl
        | false => rw [hh] at h; cases h
      have hnm : namesL (attT r.hs S) = true := by
        cases hh : namesL (attT r.hs S) with
        | true => rfl
        | false =>
          unfold signE at h2
          rw [if_pos rfl, (canon_no1 (r := attR S r) hh).1] at h2
          cases h2
      exact right_who (time8 hS) hnm (sign_made h2) h3
    · rw [if_pos h2] at h; exact absurd h h2
  · have h1' : roomB r.hs = false := by simpa using h1
    rw [if_pos h1'] at h; cases h
theorem att_dat (hs : List Pr) (S : List UInt8) : (attT hs S).any isDat = true := by
  rw [List.any_eq_true]
  refine ⟨sDateN, ?_, by decide⟩
  unfold attT nmsL attH
  rw [(List.mergeSort_perm _ _).mem_iff, List.mem_map]
  exact ⟨(sDateN, S), by simp, rfl⟩
/-- what Verify tells of a request that was signed -/
theorem att_ver {who sec S : List UInt8} {t : Nat} {r : Rq} (sec2 : List UInt8) (T now : Nat) (hS : IsTime S t) (h : attE who sec S 0 r = 0) :
    vDa (attO who sec S 0 r) = S ∧ verE sec2 S 0 0 T now ⟨r.m, r.p, r.q, attO who sec S 0 r, r.b⟩ = if nearN T now 900 = false then 21 else if (signT sec2 S 0 (attR S r) (attT r.hs S) == signT sec S 0 (attR S r) (attT r.hs S)) = false then 20 else 0 := by
  obtain ⟨h1, h2, h3⟩ := att_facts hS h
  have e1 : vDa (attO who sec S 0 r) = S := vDa_att h1 S _
  have e2 : vAu (attO who sec S 0 r) = attX who sec S 0 r := vAu_att h1 S _
  refine ⟨e1, ?_⟩
  obtain ⟨f1, f2, f3, f4, f5⟩ := au_back h3
  have f2' : auDt (attX who sec S 0 r) = S.take 8 := f2
  have f3' : auTs (attX who sec S 0 r) = attT r.hs S := f3
  have f4' : auSg (attX who sec S 0 r) = signT sec S 0 (attR S r) (attT r.hs S) := f4
  have f5' : auOk (attX who sec S 0 r) = true := f5
  obtain ⟨g1, _⟩ := sign_att sec2 S S (attX who sec S 0 r) 0 r.m r.p r.q r.b r.hs
  obtain ⟨_, g2⟩ := sign_att sec2 S S (attX who sec S 0 r) 0 r.m r.p r.q r.b r.hs
  have g1' : signE 0 ⟨r.m, r.p, r.q, attO who sec S 0 r, r.b⟩ (attT r.hs S) = signE 0 (attR S r) (attT r.hs S) := g1
  have g2' : signT sec2 S 0 ⟨r.m, r.p, r.q, attO who sec S 0 r, r.b⟩ (attT r.hs S) = signT sec2 S 0 (attR S r) (attT r.hs S) := g2
  rw [ver_claim]
  dsimp only
  unfold claimB
  rw [e1, e2, f2', f3', f4', f5', g1', g2', h2, att_dat]
  simp
end Go.Proofs.YtgjmaeodgcigdaaGreatDoor
namespace Go.Proofs.YtgjmaeodgcigdaaGreatDoor

def exS : List UInt8 := [50, 48, 49, 53, 48, 56, 51, 48, 84, 49, 50, 51, 54, 48, 48, 90]
def exH : List Pr := [([104, 111, 115, 116], [104])]
def exR : Rq := ⟨[71, 69, 84], [47, 98], [], exH, []⟩
def exT : List (List UInt8) := [[104, 111, 115, 116], sDateN]
def exC : List UInt8 := [71, 69, 84, 10, 47, 98, 10, 10, 104, 111, 115, 116, 58, 104, 10, 120, 45, 97, 109, 122, 45, 100, 97, 116, 101, 58, 50, 48, 49, 53, 48, 56, 51, 48, 84, 49, 50, 51, 54, 48, 48, 90, 10, 10, 104, 111, 115, 116, 59, 120, 45, 97, 109, 122, 45, 100, 97, 116, 101, 10, 101, 51, 98, 48, 99, 52, 52, 50, 57, 56, 102, 99, 49, 99, 49, 52, 57, 97, 102, 98, 102, 52, 99, 56, 57, 57, 54, 102, 98, 57, 50, 52, 50, 55, 97, 101, 52, 49, 101, 52, 54, 52, 57, 98, 57, 51, 52, 99, 97, 52, 57, 53, 57, 57, 49, 98, 55, 56, 53, 50, 98, 56, 53, 53]
def exX : List UInt8 := [102, 101, 53, 51, 54, 102, 54, 54, 55, 99, 51, 53, 101, 102, 48, 101, 48, 52, 57, 56, 99, 57, 100, 101, 48, 54, 99, 97, 100, 53, 57, 50, 50, 56, 56, 102, 56, 56, 57, 102, 53, 50, 54, 98, 53, 51, 57, 101, 48, 98, 101, 98, 102, 48, 51, 57, 55, 50, 101, 53, 57, 51, 53, 55]
theorem exNames : attT exH exS = exT := by
  unfold attT nmsL
  rw [List.mergeSort_of_pairwise]
  · rfl
  · show List.Pairwise _ [[104, 111, 115, 116], sDateN]
    rw [List.pairwise_pair]
    decide
set_option maxRecDepth 100000 in
theorem exCanon : canonX (attR exS exR) exT = exC := by decide +kernel
set_option maxRecDepth 100000 in
theorem exHash : hexL (sha256L exC) = exX := by decide +kernel
def exS1 : List UInt8 := [210, 133, 255, 165, 170, 203, 195, 235, 16, 198, 108, 58, 82, 128, 182, 102, 85, 97, 233, 183, 188, 176, 41, 246, 163, 6, 17, 67, 244, 190, 17, 99]
set_option maxRecDepth 100000 in
theorem exKS1 : hmL sha256L (sAws ++ [115]) (exS.take 8) = exS1 := by decide +kernel
def exS2 : List UInt8 := [243, 232, 125, 214, 189, 45, 49, 252, 135, 239, 160, 3, 28, 86, 32, 236, 77, 182, 2, 74, 63, 80, 59, 175, 235, 160, 49, 93, 52, 60, 152, 23]
set_option maxRecDepth 100000 in
theorem exKS2 : hmL sha256L exS1 sLocal = exS2 := by decide +kernel
def exS3 : List UInt8 := [178, 207, 243, 4, 28, 84, 56, 175, 169, 45, 5, 72, 69, 38, 217, 20, 33, 71, 32, 178, 228, 151, 3, 86, 71, 168, 24, 73, 139, 183, 83, 222]
set_option maxRecDepth 100000 in
theorem exKS3 : hmL sha256L exS2 sS3 = exS3 := by decide +kernel
def exS4 : List UInt8 := [27, 103, 128, 36, 228, 118, 133, 31, 59, 162, 96, 250, 223, 23, 255, 38, 144, 6, 3, 103, 27, 89, 67, 123, 16, 47, 79, 134, 220, 230, 128, 54]
set_option maxRecDepth 100000 in
theorem exKS4 : hmL sha256L exS3 sReq = exS4 := by decide +kernel
def exSF : List UInt8 := [178, 145, 67, 75, 52, 204, 147, 1, 94, 107, 41, 59, 244, 96, 91, 237, 64, 55, 71, 72, 253, 109, 182, 160, 108, 136, 181, 193, 61, 119, 162, 243]
set_option maxRecDepth 100000 in
theorem exFS : hmL sha256L exS4 (sAlg ++ exS ++ [10] ++ scopeL (exS.take 8) ++ [10] ++ exX) = exSF := by decide +kernel
theorem exSigS : signX [115] exS (attR exS exR) exT = hexL exSF := by
  unfold signX signText keyL
  rw [exCanon, exHash, exKS1, exKS2, exKS3, exKS4, exFS]
def exT1 : List UInt8 := [115, 44, 209, 17, 52, 195, 232, 78, 85, 47, 159, 229, 153, 179, 190, 57, 180, 231, 17, 188, 81, 117, 69, 65, 213, 46, 111, 26, 63, 208, 117, 2]
set_option maxRecDepth 100000 in
theorem exKT1 : hmL sha256L (sAws ++ [116]) (exS.take 8) = exT1 := by decide +kernel
def exT2 : List UInt8 := [208, 104, 146, 235, 221, 34, 209, 59, 45, 12, 161, 213, 202, 120, 178, 58, 162, 108, 109, 66, 32, 254, 120, 94, 175, 224, 23, 226, 118, 87, 197, 189]
set_option maxRecDepth 100000 in
theorem exKT2 : hmL sha256L exT1 sLocal = exT2 := by decide +kernel
def exT3 : List UInt8 := [161, 26, 189, 144, 74, 80, 96, 220, 203, 187, 130, 176, 246, 234, 97, 249, 151, 68, 142, 120, 42, 190, 9, 45, 43, 108, 71, 87, 142, 44, 50, 224]
set_option maxRecDepth 100000 in
theorem exKT3 : hmL sha256L exT2 sS3 = exT3 := by decide +kernel
def exT4 : List UInt8 := [108, 138, 254, 26, 233, 215, 152, 227, 243, 72, 190, 93, 23, 61, 58, 108, 39, 9, 50, 118, 68, 204, 184, 37, 33, 224, 215, 110, 103, 203, 253, 95]
set_option maxRecDepth 100000 in
theorem exKT4 : hmL sha256L exT3 sReq = exT4 := by decide +kernel
def exTF : List UInt8 := [17, 78, 138, 186, 32, 254, 17, 219, 178, 245, 234, 202, 67, 25, 209, 40, 144, 178, 216, 95, 108, 116, 216, 236, 148, 242, 129, 217, 200, 32, 96, 239]
set_option maxRecDepth 100000 in
theorem exFT : hmL sha256L exT4 (sAlg ++ exS ++ [10] ++ scopeL (exS.take 8) ++ [10] ++ exX) = exTF := by decide +kernel
theorem exSigT : signX [116] exS (attR exS exR) exT = hexL exTF := by
  unfold signX signText keyL
  rw [exCanon, exHash, exKT1, exKT2, exKT3, exKT4, exFT]
set_option maxRecDepth 100000 in
theorem exSignE : signE 0 (attR exS exR) exT = 0 := by decide +kernel
theorem exDiffer : (signT [116] exS 0 (attR exS exR) (attT exR.hs exS) == signT [115] exS 0 (attR exS exR) (attT exR.hs exS)) = false := by
  show (signT [116] exS 0 (attR exS exR) (attT exH exS) == signT [115] exS 0 (attR exS exR) (attT exH exS)) = false
  rw [exNames]
  unfold signT
  rw [if_pos exSignE, if_pos exSignE, exSigS, exSigT]
  decide +kernel
end Go.Proofs.YtgjmaeodgcigdaaGreatDoor
namespace Go.Proofs.YtgjmaeodgcigdaaGreatDoor

theorem exDate : IsDate 735839 2015 8 30 := ⟨by decide, by decide, by decide, by decide, by decide, by decide, by decide⟩
theorem exTime : IsTime exS 1440938160 := ⟨735839, 2015, 8, 30, 12, 36, 0, exDate, by decide, by decide, by decide, by decide, by decide, by decide⟩
theorem exAtt : attE [97, 49] [115] exS 0 exR = 0 := by
  have h1 : roomB exR.hs = true := by decide
  have h2 : signE 0 (attR exS exR) (attT exR.hs exS) = 0 := by
    show signE 0 (attR exS exR) (attT exH exS) = 0
    rw [exNames]; exact exSignE
  have h3 : rightC [97, 49] (exS.take 8) (attT exR.hs exS) (signT [115] exS 0 (attR exS exR) (attT exR.hs exS)) = true := by
    unfold rightC
    rw [sign_made h2]
    show (accessL [97, 49] && (madeL dtB 8 8 (exS.take 8) && (namesL (attT exH exS) && true))) = true
    rw [exNames]
    decide
  have h4 : auOk (attX [97, 49] [115] exS 0 exR) = true := (au_back h3).2.2.2.2
  unfold attE
  rw [if_neg (by decide), if_neg (by rw [h1]; decide), if_neg (not_not_intro h2), if_neg (by rw [h4]; decide)]
/-- the request that the example signs is verified with its secret, and with no other -/
theorem exVer : vDa (attO [97, 49] [115] exS 0 exR) = exS ∧ verE [115] exS 0 0 1440938160 1440938160 ⟨exR.m, exR.p, exR.q, attO [97, 49] [115] exS 0 exR, exR.b⟩ = 0 ∧ verE [116] exS 0 0 1440938160 1440938160 ⟨exR.m, exR.p, exR.q, attO [97, 49] [115] exS 0 exR, exR.b⟩ = 20 := by
  obtain ⟨e1, e2⟩ := att_ver [115] 1440938160 1440938160 exTime exAtt
  obtain ⟨_, e3⟩ := att_ver [116] 1440938160 1440938160 exTime exAtt
  refine ⟨e1, ?_, ?_⟩
  · rw [e2, if_neg (by decide), if_neg (by simp)]
  · rw [e3, if_neg (by decide), if_pos exDiffer]
end Go.Proofs.YtgjmaeodgcigdaaGreatDoor
namespace Go.Proofs.YtgjmaeodgcigdaaGreatDoor
open Go.RowKit

set_option maxHeartbeats 400000 in
theorem codLeap (y : Nat) (w : World) (hy : y ≤ 10000) :
    Calls Tryz.prog 165 #[.int .i64 (y : Int)] w fun e w' => e = .returned (.bool (leapY y)) ∧ w' = w := by
  by_cases h4 : y % 4 = 0
  · by_cases h100 : y % 100 = 0
    · by_cases h400 : y % 400 = 0
      · have H : Hid (leapY y = true) := leap_yes y ⟨h4, .inr h400⟩
        have e4 : (y : Int) % 4 = 0 := by omega
        have e100 : (y : Int) % 100 = 0 := by omega
        have e400 : (y : Int) % 400 = 0 := by omega
        clear h4 h100 h400
        go_enter Tryz.func165, Tryz.ntmps165
        go_wp2
        go_ret
        exact ⟨ret_b H.out.symm, rfl⟩
      · have H : Hid (leapY y = false) := leap_no y (by omega)
        have e4 : (y : Int) % 4 = 0 := by omega
        have e100 : (y : Int) % 100 = 0 := by omega
        have e400 : ¬ (y : Int) % 400 = 0 := by omega
        clear h4 h100 h400
        go_enter Tryz.func165, Tryz.ntmps165
        go_wp2
        go_ret
        exact ⟨ret_b (by rw [H.out]; simpa using e400), rfl⟩
    · have H : Hid (leapY y = true) := leap_yes y ⟨h4, .inl h100⟩
      have e4 : (y : Int) % 4 = 0 := by omega
      have e100 : ¬ (y : Int) % 100 = 0 := by omega
      clear h4 h100
      go_enter Tryz.func165, Tryz.ntmps165
      go_wp2
      go_ret
      exact ⟨ret_b H.out.symm, rfl⟩
  · have H : Hid (leapY y = false) := leap_no y (by omega)
    have e4 : ¬ (y : Int) % 4 = 0 := by omega
    clear h4
    go_enter Tryz.func165, Tryz.ntmps165
    go_wp2
    go_ret
    exact ⟨ret_b H.out.symm, rfl⟩

/-- the year that a day falls into, by four centuries, centuries, four years, years -/
theorem year_parts (a c q k r : Nat) (hc : c ≤ 3) (hq : q ≤ 24) (hk : k ≤ 3) (hr : r < 365 ∨ (k = 3 ∧ r = 365 ∧ (q < 24 ∨ c = 3))) :
    aheadY (1 + a * 400 + c * 100 + q * 4 + k) = a * 146097 + c * 36524 + q * 1461 + k * 365 ∧ r < 365 + lday (1 + a * 400 + c * 100 + q * 4 + k) := by
  constructor
  · unfold aheadY
    have e : 1 + a * 400 + c * 100 + q * 4 + k - 1 = a * 400 + c * 100 + q * 4 + k := by omega
    have e4 : (a * 400 + c * 100 + q * 4 + k) / 4 = a * 100 + c * 25 + q := by omega
    have e100 : (a * 400 + c * 100 + q * 4 + k) / 100 = a * 4 + c := by omega
    have e400 : (a * 400 + c * 100 + q * 4 + k) / 400 = a := by omega
    rw [e, e4, e100, e400]; omega
  · rcases hr with hr | ⟨rfl, rfl, h⟩
    · omega
    · have hl : leapY (1 + a * 400 + c * 100 + q * 4 + 3) = true := leap_yes _ (by omega)
      unfold lday; rw [hl]; decide
/-- a day is in one year alone -/
theorem year_one (n y z : Nat) (hy : 1 ≤ y) (hz : 1 ≤ z) (h1 : aheadY y ≤ n) (h2 : n < aheadY y + 365 + lday y) (h3 : aheadY z ≤ n) (h4 : n < aheadY z + 365 + lday z) : y = z := by
  rcases Nat.lt_trichotomy y z with h | h | h
  · have := aheadY_lt y z hy h; omega
  · exact h
  · have := aheadY_lt z y hz h; omega

theorem ret2i {a b a' b' : Int} (h1 : a = a') (h2 : b = b') :
    Ending.returned (.tuple #[.int .i64 a, .int .i64 b]) = .returned (.tuple #[.int .i64 a', .int .i64 b']) := by rw [h1, h2]

set_option maxHeartbeats 1000000 in
theorem codYear (n y : Nat) (w : World) (hn : n ≤ 3652058) (y1 : 1 ≤ y) (h1 : aheadY y ≤ n) (h2 : n < aheadY y + 365 + lday y) :
    Calls Tryz.prog 136 #[.int .i64 (n : Int)] w fun e w' => e = .returned (.tuple #[.int .i64 (y : Int), .int .i64 ((n - aheadY y : Nat) : Int)]) ∧ w' = w := by
  obtain ⟨a, ha⟩ : ∃ a : Nat, a = n / 146097 := ⟨_, rfl⟩
  obtain ⟨s, hs⟩ : ∃ s : Nat, s = n % 146097 := ⟨_, rfl⟩
  obtain ⟨c0, hc0⟩ : ∃ c : Nat, c = s / 36524 := ⟨_, rfl⟩
  obtain ⟨c, hc⟩ : ∃ c : Nat, c = min c0 3 := ⟨_, rfl⟩
  obtain ⟨u, hu⟩ : ∃ u : Nat, u = s - c * 36524 := ⟨_, rfl⟩
  obtain ⟨q, hq⟩ : ∃ q : Nat, q = u / 1461 := ⟨_, rfl⟩
  obtain ⟨v, hv⟩ : ∃ v : Nat, v = u % 1461 := ⟨_, rfl⟩
  obtain ⟨k0, hk0⟩ : ∃ k : Nat, k = v / 365 := ⟨_, rfl⟩
  obtain ⟨k, hk⟩ : ∃ k : Nat, k = min k0 3 := ⟨_, rfl⟩
  obtain ⟨r, hr⟩ : ∃ r : Nat, r = v - k * 365 := ⟨_, rfl⟩
  have P := year_parts a c q k r (by omega) (by omega) (by omega) (by omega)
  have E := year_one n y (1 + a * 400 + c * 100 + q * 4 + k) y1 (by omega) h1 h2 (by omega) (by omega)
  have HY : Hid ((y : Int) = 1 + a * 400 + c * 100 + q * 4 + k) := by unfold Hid; omega
  have HR : Hid (((n - aheadY y : Nat) : Int) = v - k * 365) := by unfold Hid; rw [E, P.1]; omega
  clear P E h1 h2
  have i1 : (n : Int) / 146097 = (a : Int) := by omega
  have i2 : (n : Int) % 146097 = (s : Int) := by omega
  have i3 : (s : Int) / 36524 = (c0 : Int) := by omega
  have i4 : (s : Int) - (c : Int) * 36524 = (u : Int) := by omega
  have i5 : (u : Int) / 1461 = (q : Int) := by omega
  have i6 : (u : Int) % 1461 = (v : Int) := by omega
  have i7 : (v : Int) / 365 = (k0 : Int) := by omega
  have b1 : a ≤ 100 := by omega
  have b2 : s < 146097 := by omega
  have b3 : c0 ≤ 4 := by omega
  have b4 : u < 146097 := by omega
  have b5 : q ≤ 100 := by omega
  have b6 : v < 1461 := by omega
  have b7 : k0 ≤ 4 := by omega
  have b8 : c ≤ 3 := by omega
  have b9 : k ≤ 3 := by omega
  clear ha hs hc0 hu hq hv hk0 hr
  by_cases c1 : (3 : Int) < (c0 : Int)
  · have hc' : c = 3 := by omega
    subst hc'
    clear hc
    by_cases c2 : (3 : Int) < (k0 : Int)
    · have hk' : k = 3 := by omega
      subst hk'
      clear hk
      go_enter Tryz.func136, Tryz.ntmps136
      go_wp2
      go_ret2
      exact ⟨ret2i (by have := HY.out; omega) (by have := HR.out; omega), rfl⟩
    · have hk' : k = k0 := by omega
      subst hk'
      clear hk
      go_enter Tryz.func136, Tryz.ntmps136
      go_wp2
      go_ret2
      exact ⟨ret2i (by have := HY.out; omega) (by have := HR.out; omega), rfl⟩
  · have hc' : c = c0 := by omega
    subst hc'
    clear hc
    by_cases c2 : (3 : Int) < (k0 : Int)
    · have hk' : k = 3 := by omega
      subst hk'
      clear hk
      go_enter Tryz.func136, Tryz.ntmps136
      go_wp2
      go_ret2
      exact ⟨ret2i (by have := HY.out; omega) (by have := HR.out; omega), rfl⟩
    · have hk' : k = k0 := by omega
      subst hk'
      clear hk
      go_enter Tryz.func136, Tryz.ntmps136
      go_wp2
      go_ret2
      exact ⟨ret2i (by have := HY.out; omega) (by have := HR.out; omega), rfl⟩
end Go.Proofs.YtgjmaeodgcigdaaGreatDoor
namespace Go.Proofs.YtgjmaeodgcigdaaGreatDoor
open Go.RowKit

/-- the days of the months, by the leap day -/
def mdV (k : Nat) : List Value := [.int .i64 31, .int .i64 (28 + k : Nat), .int .i64 31, .int .i64 30, .int .i64 31, .int .i64 30, .int .i64 31, .int .i64 31, .int .i64 30, .int .i64 31, .int .i64 30, .int .i64 31]
def mdAt (k j : Nat) : Nat := if j = 1 then 28 + k else if j = 3 ∨ j = 5 ∨ j = 8 ∨ j = 10 then 30 else 31
theorem mdAt_dim (y j : Nat) : mdAt (lday y) j = dim y (j + 1) := by
  by_cases h : j = 1
  · subst h; rfl
  · have h' : ¬ j + 1 = 2 := by omega
    by_cases h2 : j = 3 ∨ j = 5 ∨ j = 8 ∨ j = 10
    · have h2' : j + 1 = 4 ∨ j + 1 = 6 ∨ j + 1 = 9 ∨ j + 1 = 11 := by omega
      rw [mdAt, dim, if_neg h, if_pos h2, if_neg h', if_pos h2']
    · have h2' : ¬ (j + 1 = 4 ∨ j + 1 = 6 ∨ j + 1 = 9 ∨ j + 1 = 11) := by omega
      rw [mdAt, dim, if_neg h, if_neg h2, if_neg h', if_neg h2']
theorem mdV_at (k j : Nat) (h : j < 12) : (mdV k)[j]? = some (.int .i64 (mdAt k j : Int)) := by
  match j, h with
  | 0, _ => rfl
  | 1, _ => rfl
  | 2, _ => rfl
  | 3, _ => rfl
  | 4, _ => rfl
  | 5, _ => rfl
  | 6, _ => rfl
  | 7, _ => rfl
  | 8, _ => rfl
  | 9, _ => rfl
  | 10, _ => rfl
  | 11, _ => rfl
theorem info12 : (Tryz.prog.info? 183).map (·.size) = some 12 := by kernel_rfl

set_option maxHeartbeats 1000000 in
theorem codMonths (y : Nat) (w : World) (hy : y ≤ 10000) :
    Calls Tryz.prog 137 #[.int .i64 (y : Int)] w fun e w' => e = .returned (.agg (mdV (lday y)).toArray) ∧ Below w.heap.size w w' := by
  cases hl : leapY y with
  | true =>
    have H2 : Hid (lday y = 1) := by unfold Hid lday; rw [hl]; rfl
    go_enter Tryz.func137, Tryz.ntmps137
    go_wp2_with (go_at_call 165; refine (codLeap y _ hy).mono ?_; rintro e w' ⟨rfl, hww⟩; rw [hww, hl]; clear hww w')
    refine bodyPost_ret (v := .agg (mdV 1).toArray) ?_ rfl ⟨by rw [H2.out], ((Below.refl _ _).alloc (Nat.le_refl _) _).alloc (by simp) _⟩
    exact results_cell_row Tryz.results137 _ _ w.heap.size 183 (mdV 1).toArray (0, 0) _ rfl (by rw [Below.heap_alloc _ _ _ (by simp), heap_alloc_new]; rfl) Tryz.underlying183 rfl info12
  | false =>
    have H2 : Hid (lday y = 0) := by unfold Hid lday; rw [hl]; rfl
    go_enter Tryz.func137, Tryz.ntmps137
    go_wp2_with (go_at_call 165; refine (codLeap y _ hy).mono ?_; rintro e w' ⟨rfl, hww⟩; rw [hww, hl]; clear hww w')
    refine bodyPost_ret (v := .agg (mdV 0).toArray) ?_ rfl ⟨by rw [H2.out], ((Below.refl _ _).alloc (Nat.le_refl _) _).alloc (by simp) _⟩
    exact results_cell_row Tryz.results137 _ _ w.heap.size 183 (mdV 0).toArray (0, 0) _ rfl (by rw [Below.heap_alloc _ _ _ (by simp), heap_alloc_new]; rfl) Tryz.underlying183 rfl info12

theorem ixm (k j : Nat) (h : j < 12) (u : World) : (Instr.index 183 (.agg (mdV k).toArray) (.int .i64 (j : Int))).run Tryz.prog u = .ok (.int .i64 (mdAt k j : Int)) u := by
  obtain rfl | rfl | rfl | rfl | rfl | rfl | rfl | rfl | rfl | rfl | rfl | rfl : j = 0 ∨ j = 1 ∨ j = 2 ∨ j = 3 ∨ j = 4 ∨ j = 5 ∨ j = 6 ∨ j = 7 ∨ j = 8 ∨ j = 9 ∨ j = 10 ∨ j = 11 := by omega
  all_goals kernel_rfl

set_option maxHeartbeats 400000 in
theorem codCivil_out (day : Int) (w : World) (h : day < -719162 ∨ 2932896 < day) :
    Calls Tryz.prog 100 #[.int .i64 day] w fun e w' => e = .returned (.tuple #[.int .i64 0, .int .i64 0, .int .i64 0]) ∧ Below w.heap.size w w' := by
  by_cases h1 : day < -719162
  · clear h
    go_enter Tryz.func100, Tryz.ntmps100
    go_wp2
    go_ret3
    exact ⟨rfl, Below.refl _ _⟩
  · have h2 : 2932896 < day := by omega
    clear h
    go_enter Tryz.func100, Tryz.ntmps100
    go_wp2
    go_ret3
    exact ⟨rfl, Below.refl _ _⟩

set_option maxHeartbeats 1000000 in
theorem codCivil_in (n y m d : Nat) (w : World) (h : IsDate n y m d) :
    Calls Tryz.prog 100 #[.int .i64 ((n : Int) - 719162)] w fun e w' => e = .returned (.tuple #[.int .i64 (y : Int), .int .i64 (m : Int), .int .i64 (d : Int)]) ∧ Below w.heap.size w w' := by
  have hn : n ≤ 3652058 := h.le
  have H : Hid (IsDate n y m d) := h
  have y1 := h.y1
  have y2 := h.y2
  have hah : aheadY y ≤ n := h.inYear.1
  have Hu : Hid (n < aheadY y + 365 + lday y) := h.inYear.2
  clear h
  obtain ⟨r, hr⟩ : ∃ r : Nat, r = n - aheadY y := ⟨_, rfl⟩
  have Hr : Hid (r + aheadY y = n) := by unfold Hid; omega
  have Hr2 : Hid (n - aheadY y = r) := hr.symm
  have hr2 : r ≤ 366 := by have := Hu.out; have := lday_le y; omega
  have hah' : Hid (aheadY y ≤ n) := hah
  clear hr hah
  have e0 : (n : Int) - 719162 - -719162 = (n : Int) := by omega
  go_enter Tryz.func100, Tryz.ntmps100
  go_wp2_with (go_at_call 136; (try rw [e0]); refine (codYear n y _ hn y1 hah'.out Hu.out).mono ?_; rintro e w' ⟨rfl, hww⟩; rw [hww, Hr2.out]; clear hww w')
  refine (codMonths y w (by omega)).mono ?_
  rintro e x ⟨rfl, hbel⟩
  have ixm' := fun j (hj : j < 12) u => ixm (lday y) j hj u
  generalize hL : (mdV (lday y)).toArray = L at *
  clear hL
  go_wp2_with fail
  go_loopw [3, 5, 22] (fun mm nn jj w' => ∃ k j q : Nat, j + 1 ≤ m ∧ k ≤ 366 ∧ Hid (k + cumM y (j + 1) + aheadY y = n) ∧ mm = .int .i64 ((j + 1 : Nat) : Int) ∧ nn = .int .i64 (k : Int) ∧ jj = .int .i64 (j : Int) ∧ w' = x.drewN q) (fun nn _ _ _ => 13 - (intOf nn).toNat)
  case atStart => exact ⟨r, 0, 0, H.out.m1, hr2, by unfold Hid; rw [cumM_one]; exact Hr.out, rfl, rfl, rfl, rfl⟩
  case round =>
    obtain ⟨k, j, q, j2, k2, he, rfl, rfl, rfl, rfl⟩ := hrel
    have m2 := H.out.m2
    have hj12 : j < 12 := by omega
    have hm := mdAt_dim y j
    have hd28 := dim_pos y (j + 1)
    have hd31 := dim_le y (j + 1)
    rw [← hm] at hd28 hd31
    have Hm : Hid (mdAt (lday y) j = dim y (j + 1)) := hm
    clear hm
    have hix := ixm' j hj12
    clear ixm'
    by_cases hj : j + 1 < m
    · have hge : mdAt (lday y) j ≤ k := by
        rw [Hm.out]
        have h1 := cumM_lt y (j + 1) m (by omega) hj
        have h2 := H.out.eq
        have h3 := H.out.d1
        have h4 := he.out
        omega
      have he2 : Hid (k - mdAt (lday y) j + cumM y (j + 1 + 1) + aheadY y = n) := by unfold Hid; rw [cumM_succ y (j + 1) (by omega), ← Hm.out]; have := he.out; omega
      generalize mdAt (lday y) j = z at *
      go_wp2
      go_roundw
      case rel => exact ⟨k - z, j + 1, q, by omega, by omega, he2, by go_num, by go_num, by go_num, rfl⟩
      case measure => simp [intOf]; omega
    · have hjm : j + 1 = m := by omega
      have hlt : k < mdAt (lday y) j := by
        rw [Hm.out, hjm]
        have h2 := H.out.eq
        have h3 := H.out.d2
        have h4 := he.out
        rw [hjm] at h4
        omega
      have hd : Hid (k + 1 = d) := by
        have h2 := H.out.eq
        have h4 := he.out
        rw [hjm] at h4
        unfold Hid
        omega
      have Hjm : Hid (j + 1 = m) := hjm
      clear hjm
      generalize mdAt (lday y) j = z at *
      go_wp2
      go_ret3
      exact ⟨ret3 rfl (by rw [← Hjm.out]) (by rw [← hd.out]; omega), bel_drewN hbel q⟩
end Go.Proofs.YtgjmaeodgcigdaaGreatDoor
