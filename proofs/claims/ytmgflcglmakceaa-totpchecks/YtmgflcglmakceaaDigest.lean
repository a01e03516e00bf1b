/- What a kind's digest answers, of any parts; and sha256. -/
import Derived.Test.YtmgflcglmakceaaJ24
namespace Go.Proofs.Ytmgflcglmakceaa
open Go.RowKit

/-- a slice of slices of bytes -/
structure IsPs (w : World) (a : Option Addr) (n cap : Nat) (ls : List (List UInt8)) : Prop where
  len_eq : ls.length = n
  max : n ≤ cap ∧ cap ≤ maxLen
  cells : 0 < n → ∃ b off, a = some ⟨b, off, none⟩ ∧ ∀ i, i < n → ∃ ai ci, w.cell? ⟨b, off + i, none⟩ = some (.slice ai (ls.getD i []).length ci) ∧ IsB w ai (ls.getD i []).length ci (ls.getD i [])

theorem take_flat (ls : List (List UInt8)) (k : Nat) (h : k < ls.length) : (ls.take (k + 1)).flatten = (ls.take k).flatten ++ ls.getD k [] := by
  rw [List.take_succ_eq_append_getElem h, List.flatten_append]
  simp [List.getElem?_eq_getElem h]
theorem flat_le (ls : List (List UInt8)) (k : Nat) : (ls.take k).flatten.length ≤ ls.flatten.length := by
  have : ls.flatten = (ls.take k).flatten ++ (ls.drop k).flatten := by rw [← List.flatten_append, List.take_append_drop]
  rw [this, List.length_append]; omega

attribute [local go_sem ↓] zv83

set_option maxRecDepth 20000 in
set_option maxHeartbeats 400000 in
theorem digDigest (mf : Nat) (mix : List UInt32 → List UInt8 → List UInt32) (s : S8) (hok : MixOK mf mix) (size : Nat) (hsz : size ≤ 32)
    (a : Option Addr) (n cap : Nat) (ls : List (List UInt8)) (w : World) (hp : IsPs w a n cap ls) (hn : ls.flatten.length < 4294967296) :
    Calls Try.prog 35 #[.agg (kcOf size s mf).toArray, .slice a n cap] w fun e w' => ∃ v, e = .returned v ∧ OwnB w' w.heap.size v (hashL mix s.list size ls.flatten) ∧ Below w.heap.size w w' := by
  have HP : Hid (IsPs w a n cap ls) := hp
  have hm1 := hp.max.1
  have hm2 := hp.max.2
  unfold maxLen at hm2
  clear hp
  have Bk : Blk (w.alloc (.cells (kcOf size s mf).toArray 53)) w.heap.size 53 (kcOf size s mf) := Blk.new w _ _
  go_enter Try.func35, Try.ntmps35
  go_wp2_with (refine wpList_load_row rfl 53 _ rfl _ rfl _ _ _ _ Bk Try.underlying53 rfl info10 ?_)
  refine (digBegin size s mf _).mono ?_
  rintro e w1 ⟨rfl, bel1⟩
  have hbel1 : Below w.heap.size w w1 := ((Below.refl _ _).alloc (Nat.le_refl _) _).trans (bel1.mono (by simp))
  clear bel1 Bk
  have Bz : Blk (w1.alloc (.cells zeros83.toArray 69)) w1.heap.size 69 zeros83 := Blk.new w1 _ _
  go_wp2_with (refine wpList_store_row rfl 69 _ _ rfl w1.heap.size (rc (kcOf size s mf) s.list (List.replicate 64 0) 0).toArray rfl rfl _ _ Bz info83 rfl (all_oneCell_toArray (oneCells83 size s mf)) ?_)
  have hg1 : w.heap.size ≤ w1.heap.size := hbel1.size
  refine wp_named (fun w2 => Blk w2 w1.heap.size 69 (rc (kcOf size s mf) s.list (List.replicate 64 0) 0) ∧ Below w.heap.size w w2) ⟨Bz.row _, bel_row (hbel1.alloc hbel1.size _) hg1 _⟩ ?_
  clear Bz hbel1
  rintro w2 ⟨B2, hbel2⟩
  generalize w1.heap.size = R at *
  go_wp2
  go_loopw [12] (fun c wr => ∃ (k : Nat) (ws : List UInt32) (buf : List UInt8), k ≤ n ∧ c = .int .i64 k ∧ Hid (ws.length = 8) ∧ Blk wr R 69 (rc (kcOf size s mf) ws buf (ls.take k).flatten.length) ∧ Hid (Inv mix s.list (ls.take k).flatten (ls.take k).flatten.length ws buf) ∧ Below w.heap.size w wr) (fun c _ => n - (intOf c).toNat)
  case atStart => exact ⟨0, s.list, List.replicate 64 0, Nat.zero_le _, rfl, rfl, by simpa using B2, Inv.start_ mix s.list _ _ rfl, hbel2⟩
  case round =>
    clear B2 hbel2
    obtain ⟨k, ws, buf, hk, rfl, hw8, hB, hI, hbel⟩ := hrel
    by_cases hlt : k < n
    · obtain ⟨b, off, rfl, hcell⟩ := HP.out.cells (by omega)
      obtain ⟨ai, ci, hc, hB1⟩ := hcell k hlt
      have hlt' : (k : Int) < (n : Int) := by omega
      have hb : b < w.heap.size := cell_lt hc
      have hc' := (hbel.cell (p := ⟨b, off + k, none⟩) hb).trans hc
      have HB1 : Hid (IsB wr ai (ls.getD k []).length ci (ls.getD k [])) := hB1.below hbel rfl
      have HG : Hid (0 < (ls.getD k []).length → ∀ b' off', ai = some ⟨b', off', none⟩ → b' ≠ R) := by
        intro h b' off' e
        obtain ⟨b2, o2, e2, hc2⟩ := hB1.cells h
        have := cell_lt (hc2 0 h)
        rw [e] at e2
        injection e2 with e2
        injection e2 with e3 _
        rw [e3]
        show b2 ≠ R
        have h3 : b2 < w.heap.size := this
        omega
      have HF : Hid ((ls.take (k + 1)).flatten = (ls.take k).flatten ++ ls.getD k []) := take_flat ls k (by rw [HP.out.len_eq]; exact hlt)
      have HFL : Hid ((ls.take (k + 1)).flatten.length ≤ ls.flatten.length) := flat_le ls (k + 1)
      have HBk : Hid (Blk wr R 69 (rc (kcOf size s mf) ws buf (ls.take k).flatten.length)) := hB
      clear hcell hc hB1 hB
      generalize ls.getD k [] = l at *
      go_wp2_with fail
      have hadd := digAdd mf mix s.list hok (kcOf size s mf) rfl rfl R 69 ws buf (ls.take k).flatten l ai l.length ci wr hw8.out HBk.out hI.out HB1.out HG.out (by have := HFL.out; rw [HF.out, List.length_append] at this; omega)
      refine hadd.mono ?_
      rintro e w3 ⟨rfl, ws', buf', hw8', b3, hI3, hg3⟩
      have hbel3 : Below w.heap.size w w3 := hbel.grown hg3 hbel.size (fun j hj => by injection hj with hj; omega)
      clear hadd hg3 hbel HBk HB1 HG hc'
      have HL : Hid ((ls.take k).flatten.length + l.length = (ls.take (k + 1)).flatten.length) := by unfold Hid; rw [HF.out, List.length_append]
      have H3 : Hid (Blk w3 R 69 (rc (kcOf size s mf) ws' buf' (ls.take (k + 1)).flatten.length)) := by unfold Hid; rw [← HL.out]; exact b3
      have H4 : Hid (Inv mix s.list (ls.take (k + 1)).flatten (ls.take (k + 1)).flatten.length ws' buf') := by unfold Hid; rw [← HL.out, HF.out]; exact hI3
      clear b3 hI3
      go_wp2
      go_roundw
      case rel => exact ⟨k + 1, ws', buf', by omega, by go_num, hw8', H3.out, H4.out, hbel3⟩
      case measure => simp [intOf]; omega
    · have HA : Hid ((ls.take k).flatten = ls.flatten) := by unfold Hid; rw [List.take_of_length_le (by rw [HP.out.len_eq]; omega)]
      rw [HA.out] at hB hI
      obtain ⟨A, hA⟩ : ∃ A, A = ls.flatten := ⟨_, rfl⟩
      have HAA : Hid (A = ls.flatten) := hA
      rw [← hA] at hB hI hn
      clear hA
      have hsz83 : Hid ((Try.prog.info? 69).map (·.size) = some (rc (kcOf size s mf) ws buf A.length).toArray.size) := by
        unfold Hid; rw [info83, List.size_toArray, rc_length _ _ _ _ rfl hw8.out hI.out.size]
      go_wp2_with (refine wpList_load_row rfl 69 _ rfl _ rfl _ _ _ _ hB Try.underlying69 rfl hsz83.out ?_)
      refine (digSum mf mix s.list hok size hsz (kcOf size s mf) rfl rfl rfl ws buf A wr hw8.out hI.out hn).mono ?_
      rintro e w3 ⟨v, rfl, hown, hbel3⟩
      have hbel4 : Below w.heap.size w w3 := hbel.trans (hbel3.mono hbel.size)
      have hsz1 : w.heap.size ≤ wr.heap.size := hbel.size
      clear hB
      go_wp2
      go_ret
      rw [HAA.out] at hown
      exact ⟨_, rfl, hown.base hsz1, hbel4⟩
end Go.Proofs.Ytmgflcglmakceaa
