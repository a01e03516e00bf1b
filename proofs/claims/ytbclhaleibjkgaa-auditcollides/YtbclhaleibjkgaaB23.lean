/- What a kind's digest answers, of any parts; and sha256. · What digest.Sha256 answers. -/
import Derived.Test.YtbclhaleibjkgaaB21
import Derived.Test.YtbclhaleibjkgaaMix256
namespace Go.Proofs.Ytbclhaleibjkgaa
open Go.RowKit

/-- a slice of slices of bytes -/
structure IsPs (w : World) (a : Option Addr) (n cap : Nat) (ls : List (List UInt8)) : Prop where
  len_eq : ls.length = n
  max : n ≤ cap ∧ cap ≤ maxLen
  cells : 0 < n → ∃ b off, a = some ⟨b, off, none⟩ ∧ ∀ i, i < n → ∃ ai ci, w.cell? ⟨b, off + i, none⟩ = some (.slice ai (ls.getD i []).length ci) ∧ IsB w ai (ls.getD i []).length ci (ls.getD i [])

theorem take_flat (ls : List (List UInt8)) (k : Nat) (h : k < ls.length) : (ls.take (k + 1)).flatten = (ls.take k).flatten ++ ls.getD k [] := by
  rw [List.take_succ_eq_append_getElem h, List.flatten_append]
  simp [List.getElem?_eq_getElem h]
theorem flat_le (ls : List (List UInt8)) (k : Nat) : (ls.take k).flatten.length ≤ ls.flatten.length := by
  have : ls.flatten = (ls.take k).flatten ++ (ls.drop k).flatten := by rw [← List.flatten_append, List.take_append_drop]
  rw [this, List.length_append]; omega

attribute [local go_sem ↓] zv83

set_option maxRecDepth 20000 in
set_option maxHeartbeats 400000 in
theorem digDigest (mf : Nat) (mix : List UInt32 → List UInt8 → List UInt32) (s : S8) (hok : MixOK mf mix) (size : Nat) (hsz : size ≤ 32)
    (a : Option Addr) (n cap : Nat) (ls : List (List UInt8)) (w : World) (hp : IsPs w a n cap ls) (hn : ls.flatten.length < 4294967296) :
    Calls Try.prog 54 #[.agg (kcOf size s mf).toArray, .slice a n cap] w fun e w' => ∃ v, e = .returned v ∧ OwnB w' w.heap.size v (hashL mix s.list size ls.flatten) ∧ Below w.heap.size w w' := by
  have HP : Hid (IsPs w a n cap ls) := hp
  have hm1 := hp.max.1
  have hm2 := hp.max.2
  unfold maxLen at hm2
  clear hp
  have Bk : Blk (w.alloc (.cells (kcOf size s mf).toArray 73)) w.heap.size 73 (kcOf size s mf) := Blk.new w _ _
  go_enter Try.func54, Try.ntmps54
  go_wp2_with (refine wpList_load_row rfl 73 _ rfl _ rfl _ _ _ _ Bk Try.underlying73 rfl info10 ?_)
  refine (digBegin size s mf _).mono ?_
  rintro e w1 ⟨rfl, bel1⟩
  have hbel1 : Below w.heap.size w w1 := ((Below.refl _ _).alloc (Nat.le_refl _) _).trans (bel1.mono (by simp))
  clear bel1 Bk
  have Bz : Blk (w1.alloc (.cells zeros83.toArray 95)) w1.heap.size 95 zeros83 := Blk.new w1 _ _
  go_wp2_with (refine wpList_store_row rfl 95 _ _ rfl w1.heap.size (rc (kcOf size s mf) s.list (List.replicate 64 0) 0).toArray rfl rfl _ _ Bz info83 rfl (all_oneCell_toArray (oneCells83 size s mf)) ?_)
  have hg1 : w.heap.size ≤ w1.heap.size := hbel1.size
  refine wp_named (fun w2 => Blk w2 w1.heap.size 95 (rc (kcOf size s mf) s.list (List.replicate 64 0) 0) ∧ Below w.heap.size w w2) ⟨Bz.row _, bel_row (hbel1.alloc hbel1.size _) hg1 _⟩ ?_
  clear Bz hbel1
  rintro w2 ⟨B2, hbel2⟩
  generalize w1.heap.size = R at *
  go_wp2
  go_loopw [12] (fun c wr => ∃ (k : Nat) (ws : List UInt32) (buf : List UInt8), k ≤ n ∧ c = .int .i64 k ∧ Hid (ws.length = 8) ∧ Blk wr R 95 (rc (kcOf size s mf) ws buf (ls.take k).flatten.length) ∧ Hid (Inv mix s.list (ls.take k).flatten (ls.take k).flatten.length ws buf) ∧ Below w.heap.size w wr) (fun c _ => n - (intOf c).toNat)
  case atStart => exact ⟨0, s.list, List.replicate 64 0, Nat.zero_le _, rfl, rfl, by simpa using B2, Inv.start_ mix s.list _ _ rfl, hbel2⟩
  case round =>
    clear B2 hbel2
    obtain ⟨k, ws, buf, hk, rfl, hw8, hB, hI, hbel⟩ := hrel
    by_cases hlt : k < n
    · obtain ⟨b, off, rfl, hcell⟩ := HP.out.cells (by omega)
      obtain ⟨ai, ci, hc, hB1⟩ := hcell k hlt
      have hlt' : (k : Int) < (n : Int) := by omega
      have hb : b < w.heap.size := cell_lt hc
      have hc' := (hbel.cell (p := ⟨b, off + k, none⟩) hb).trans hc
      have HB1 : Hid (IsB wr ai (ls.getD k []).length ci (ls.getD k [])) := hB1.below hbel rfl
      have HG : Hid (0 < (ls.getD k []).length → ∀ b' off', ai = some ⟨b', off', none⟩ → b' ≠ R) := by
        intro h b' off' e
        obtain ⟨b2, o2, e2, hc2⟩ := hB1.cells h
        have := cell_lt (hc2 0 h)
        rw [e] at e2
        injection e2 with e2
        injection e2 with e3 _
        rw [e3]
        show b2 ≠ R
        have h3 : b2 < w.heap.size := this
        omega
      have HF : Hid ((ls.take (k + 1)).flatten = (ls.take k).flatten ++ ls.getD k []) := take_flat ls k (by rw [HP.out.len_eq]; exact hlt)
      have HFL : Hid ((ls.take (k + 1)).flatten.length ≤ ls.flatten.length) := flat_le ls (k + 1)
      have HBk : Hid (Blk wr R 95 (rc (kcOf size s mf) ws buf (ls.take k).flatten.length)) := hB
      clear hcell hc hB1 hB
      generalize ls.getD k [] = l at *
      go_wp2_with fail
      have hadd := digAdd mf mix s.list hok (kcOf size s mf) rfl rfl R 95 ws buf (ls.take k).flatten l ai l.length ci wr hw8.out HBk.out hI.out HB1.out HG.out (by have := HFL.out; rw [HF.out, List.length_append] at this; omega)
      refine hadd.mono ?_
      rintro e w3 ⟨rfl, ws', buf', hw8', b3, hI3, hg3⟩
      have hbel3 : Below w.heap.size w w3 := hbel.grown hg3 hbel.size (fun j hj => by injection hj with hj; omega)
      clear hadd hg3 hbel HBk HB1 HG hc'
      have HL : Hid ((ls.take k).flatten.length + l.length = (ls.take (k + 1)).flatten.length) := by unfold Hid; rw [HF.out, List.length_append]
      have H3 : Hid (Blk w3 R 95 (rc (kcOf size s mf) ws' buf' (ls.take (k + 1)).flatten.length)) := by unfold Hid; rw [← HL.out]; exact b3
      have H4 : Hid (Inv mix s.list (ls.take (k + 1)).flatten (ls.take (k + 1)).flatten.length ws' buf') := by unfold Hid; rw [← HL.out, HF.out]; exact hI3
      clear b3 hI3
      go_wp2
      go_roundw
      case rel => exact ⟨k + 1, ws', buf', by omega, by go_num, hw8', H3.out, H4.out, hbel3⟩
      case measure => simp [intOf]; omega
    · have HA : Hid ((ls.take k).flatten = ls.flatten) := by unfold Hid; rw [List.take_of_length_le (by rw [HP.out.len_eq]; omega)]
      rw [HA.out] at hB hI
      obtain ⟨A, hA⟩ : ∃ A, A = ls.flatten := ⟨_, rfl⟩
      have HAA : Hid (A = ls.flatten) := hA
      rw [← hA] at hB hI hn
      clear hA
      have hsz83 : Hid ((Try.prog.info? 95).map (·.size) = some (rc (kcOf size s mf) ws buf A.length).toArray.size) := by
        unfold Hid; rw [info83, List.size_toArray, rc_length _ _ _ _ rfl hw8.out hI.out.size]
      go_wp2_with (refine wpList_load_row rfl 95 _ rfl _ rfl _ _ _ _ hB Try.underlying95 rfl hsz83.out ?_)
      refine (digSum mf mix s.list hok size hsz (kcOf size s mf) rfl rfl rfl ws buf A wr hw8.out hI.out hn).mono ?_
      rintro e w3 ⟨v, rfl, hown, hbel3⟩
      have hbel4 : Below w.heap.size w w3 := hbel.trans (hbel3.mono hbel.size)
      have hsz1 : w.heap.size ≤ wr.heap.size := hbel.size
      clear hB
      go_wp2
      go_ret
      rw [HAA.out] at hown
      exact ⟨_, rfl, hown.base hsz1, hbel4⟩
end Go.Proofs.Ytbclhaleibjkgaa
namespace Go.Proofs.Ytbclhaleibjkgaa
open Go.RowKit

def s256 : S8 := ⟨0x6a09e667, 0xbb67ae85, 0x3c6ef372, 0xa54ff53a, 0x510e527f, 0x9b05688c, 0x1f83d9ab, 0x5be0cd19⟩
def mix256L (ws : List UInt32) (bl : List UInt8) : List UInt32 := (mixS (S8.of ws) bl).list

theorem list8 (ws : List UInt32) (h : ws.length = 8) : (S8.of ws).list = ws := by
  match ws, h with
  | [_, _, _, _, _, _, _, _], _ => rfl

theorem callf {f : Nat} {fn : Func} (hf : Try.prog.funcs[f]? = some fn) (hn : (fn.name == "runtime.NumGoroutine") = false) (hb : fn.body.isNone = false) (args : Array Value) (w : World) : (callFunc f args).run Try.prog w = .ok (.enter f args) w := by
  have h1 : fn.name ≠ "runtime.NumGoroutine" := by simpa using hn
  have h2 : fn.body ≠ none := by intro e; rw [e] at hb; cases hb
  simp [callFunc, hf, h1, h2]

theorem mixOK256 : MixOK 68 mix256L := by
  refine ⟨fun _ _ => rfl, fun args w => ?_, fun ws bl w h8 h64 => ?_⟩
  · exact callf Try.func68 (by kernel_rfl) (by kernel_rfl) args w
  · have := digMix256 (S8.of ws) bl h64 w
    rw [list8 ws h8] at this
    exact this

/-- SHA-256 of bytes -/
def sha256L (A : List UInt8) : List UInt8 := hashL mix256L s256.list 32 A
theorem sha256L_length (l : List UInt8) : (sha256L l).length = 32 := by unfold sha256L hashL; rw [outB_length]

theorem zero10 : (Try.prog.info? 73).map (·.zero) = some (some (.agg (.int .i64 0 :: (wv (List.replicate 8 0) ++ [.nilFunc])).toArray)) := by kernel_rfl

theorem oneKc (size : Int) (s : S8) (mf : Nat) : ∀ u ∈ kcOf size s mf, u.oneCell' = true := by
  intro u h
  unfold kcOf at h
  rcases List.mem_cons.1 h with rfl | h
  · rfl
  · rcases List.mem_append.1 h with h | h
    · exact wv_one _ u h
    · rcases List.mem_cons.1 h with rfl | h
      · rfl
      · cases h

set_option maxRecDepth 20000 in
set_option maxHeartbeats 400000 in
theorem digKind256 (w : World) :
    Calls Try.prog 53 #[] w fun e w' => e = .returned (.agg (kcOf (32 : Nat) s256 68).toArray) ∧ Below w.heap.size w w' := by
  have Bz : Blk (w.alloc (.cells (.int .i64 0 :: (wv (List.replicate 8 0) ++ [.nilFunc])).toArray 73)) w.heap.size 73 (.int .i64 0 :: (wv (List.replicate 8 0) ++ [.nilFunc])) := Blk.new w _ _
  go_enter Try.func53, Try.ntmps53
  go_wp2_with (refine wpList_store_row rfl 73 _ _ rfl w.heap.size (kcOf (32 : Nat) s256 68).toArray rfl rfl _ _ Bz info10 rfl (all_oneCell_toArray (oneKc _ _ _)) ?_)
  refine bodyPost_ret (v := .agg (kcOf (32 : Nat) s256 68).toArray) ?_ rfl ⟨rfl, bel_row ((Below.refl _ _).alloc (Nat.le_refl _) _) (Nat.le_refl _) _⟩
  exact results_cell_row Try.results53 _ _ _ _ _ _ _ rfl (Bz.row (kcOf (32 : Nat) s256 68)) Try.underlying73 rfl info10

theorem IsPs.one {w : World} (B : Nat) (a : Option Addr) (len cap : Nat) (l : List UInt8) (hb : w.cell? ⟨B, 0, none⟩ = some (.slice a len cap)) (h : IsB w a len cap l) : IsPs w (some ⟨B, 0, none⟩) 1 1 [l] := by
  refine ⟨rfl, ⟨Nat.le_refl _, by decide⟩, fun _ => ⟨B, 0, rfl, fun i hi => ?_⟩⟩
  have : i = 0 := by omega
  subst this
  have e : ([l] : List (List UInt8)).getD 0 [] = l := rfl
  rw [e, h.len_eq]
  exact ⟨a, cap, hb, h⟩

set_option maxRecDepth 20000 in
set_option maxHeartbeats 400000 in
theorem digSha256 (a : Option Addr) (len cap : Nat) (l : List UInt8) (w : World) (h : IsB w a len cap l) (hn : len < 4294967296) :
    Calls Try.prog 34 #[.slice a len cap] w fun e w' => ∃ v, e = .returned v ∧ OwnB w' w.heap.size v (sha256L l) ∧ Below w.heap.size w w' := by
  have H : Hid (IsB w a len cap l) := h
  clear h
  go_enter Try.func34, Try.ntmps34
  go_wp2_with fail
  refine (digKind256 _).mono ?_
  rintro e w1 ⟨rfl, bel1⟩
  have H1 : Hid (IsB w1 a len cap l) := H.out.below bel1 rfl
  go_wp2_with fail
  refine (digDigest 68 mix256L s256 mixOK256 32 (by omega) _ _ _ [l] _ (by exact IsPs.one _ _ _ _ _ (by simp) (H1.out.below ((Below.refl _ _).alloc (Nat.le_refl _) _) rfl)) (by simp [H1.out.len_eq]; omega)).mono ?_
  rintro e w2 ⟨v, rfl, hown, bel2⟩
  have e1 : ([l] : List (List UInt8)).flatten = l := by simp
  rw [e1] at hown
  have hb : Below w.heap.size w w2 := (bel1.alloc bel1.size _).trans (bel2.mono (by have := bel1.size; simp; omega))
  have ho : OwnB w2 w.heap.size v (sha256L l) := hown.base (by have := bel1.size; simp; omega)
  clear hown bel1 bel2
  go_wp2
  go_ret
  exact ⟨_, rfl, ho, hb⟩
end Go.Proofs.Ytbclhaleibjkgaa
