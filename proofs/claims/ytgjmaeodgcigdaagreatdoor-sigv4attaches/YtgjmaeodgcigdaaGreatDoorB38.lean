/- What clock's digits answers: two digits for each number. · What clock's Show answers. · What clock's Day answers. · What clock's pairs answers: the seven numbers of fourteen digits. -/
import Derived.Test.YtgjmaeodgcigdaaGreatDoorB8
import Derived.Test.YtgjmaeodgcigdaaGreatDoorB2
import Derived.Test.YtgjmaeodgcigdaaGreatDoorB24
import Derived.Laws.IdiomStrings
import Derived.Test.YtgjmaeodgcigdaaGreatDoorB37
import Derived.Test.YtgjmaeodgcigdaaGreatDoorB5
import Derived.Test.YtgjmaeodgcigdaaGreatDoorB0
import Derived.Laws.ResultCell
import Derived.OwnWalk
import Derived.BigRegion
namespace Go.Proofs.YtgjmaeodgcigdaaGreatDoor
open Go.RowKit

def nthN (l : List Nat) (i : Nat) : Nat := l.getD i 0
theorem nthN_eq (l : List Nat) (i : Nat) (h : i < l.length) : nthN l i = l[i] := by
  unfold nthN; rw [List.getD_eq_getElem?_getD, List.getElem?_eq_getElem h]; rfl
/-- two digits for each number -/
def dg2 : List Nat → List UInt8
  | [] => []
  | n :: l => dgs 2 n ++ dg2 l
theorem dg2_append (l m : List Nat) : dg2 (l ++ m) = dg2 l ++ dg2 m := by
  induction l with
  | nil => rfl
  | cons x l ih => simp only [List.cons_append, dg2, ih, List.append_assoc]
theorem dg2_length (l : List Nat) : (dg2 l).length = 2 * l.length := by
  induction l with
  | nil => rfl
  | cons x l ih => simp only [dg2, List.length_append, List.length_cons, ih, dgs_length]; omega
theorem dgs_two (n : Nat) : dgs 2 n = [dgt (n / 10), dgt n] := rfl
theorem dg2_take (l : List Nat) (k : Nat) (h : k < l.length) : dg2 (l.take (k + 1)) = dg2 (l.take k) ++ [dgt (nthN l k / 10), dgt (nthN l k)] := by
  rw [nthN_eq l k h, ← List.take_append_getElem h, dg2_append]; rfl

set_option maxHeartbeats 800000 in
theorem codDigits (B : Nat) (ns : List Nat) (w : World) (hB : B < w.heap.size) (hn : ∀ n ∈ ns, n < 100) (hl : ns.length ≤ 100)
    (hc : ∀ i, i < ns.length → w.cell? ⟨B, i, none⟩ = some (.int .i64 (nthN ns i : Int))) :
    Calls Tryz.prog 101 #[.slice (some ⟨B, 0, none⟩) ns.length ns.length] w fun e w' => e = .returned (.string ⟨(dg2 ns).toArray⟩) ∧ Below w.heap.size w w' := by
  obtain ⟨len, hlen⟩ : ∃ len, ns.length = len := ⟨_, rfl⟩
  rw [hlen] at hl hc ⊢
  have HL : Hid (ns.length = len) := hlen
  have HC : Hid (∀ i, i < len → w.cell? ⟨B, i, none⟩ = some (.int .i64 (nthN ns i : Int))) := hc
  have HN : Hid (∀ i, i < len → nthN ns i < 100) := fun i hi => by rw [nthN_eq ns i (by omega)]; exact hn _ (List.getElem_mem _)
  clear hlen hc hn
  go_enter Tryz.func101, Tryz.ntmps101
  go_wp2_with (at_make; refine make_own8 _ rfl _ _ rfl w.heap.size .i64 .i64 _ (2 * len) rfl rfl (by omega) (by omega) (Nat.le_refl _) ?_; intro w1 hown1 hgrow1)
  go_loopw [3, 12] (fun v i wr => ∃ k : Nat, k ≤ len ∧ i = .int .i64 k ∧ OwnB wr w.heap.size v (dg2 (ns.take k)) ∧ Below w.heap.size w wr) (fun _ i _ => len - (intOf i).toNat)
  case atStart => exact ⟨0, Nat.zero_le _, rfl, hown1, (Below.refl _ _).grown hgrow1 (Nat.le_refl _) (fun k h => by cases h)⟩
  case round =>
    obtain ⟨k, hk, rfl, hown, hbel⟩ := hrel
    by_cases hlt : k < len
    · have g0 := HC.out k hlt
      have g1 := (hbel.cell (p := ⟨B, k, none⟩) hB).trans g0
      clear hown1 hgrow1 g0
      have hlt' : (k : Int) < (len : Int) := by omega
      have hn1 := HN.out k hlt
      have HT : Hid (dg2 (ns.take (k + 1)) = dg2 (ns.take k) ++ [dgt (nthN ns k / 10), dgt (nthN ns k)]) := dg2_take ns k (by rw [HL.out]; exact hlt)
      have HK : Hid ((dg2 (ns.take k)).length = 2 * k) := by unfold Hid; rw [dg2_length, List.length_take, HL.out]; omega
      generalize nthN ns k = n at *
      obtain ⟨c1, hc1⟩ : ∃ c, c = dgt (n / 10) := ⟨_, rfl⟩
      obtain ⟨c2, hc2⟩ : ∃ c, c = dgt n := ⟨_, rfl⟩
      have i1 : 48 + (n : Int) / 10 = (c1.toNat : Int) := by rw [hc1, dgt_toNat]; omega
      have i2 : 48 + (n : Int) % 10 = (c2.toNat : Int) := by rw [hc2, dgt_toNat]; omega
      have i3 := wrap8_nat c1.toNat c1.toNat_lt
      have i4 := wrap8_nat c2.toNat c2.toNat_lt
      rw [← hc1, ← hc2] at HT
      clear hc1 hc2
      have HB := hown.blk
      go_wp2_with (at_builtin; refine list_app1 _ rfl _ _ rfl w.heap.size _ (dg2 (ns.take k)) rfl (hown.alloc _) wr.heap.size 2 [c1, c2] rfl rfl (heap_alloc_new wr _) (by rw [HK.out]; omega) (by have := hbel.size; simp; omega) ?_; intro v1 w1 hown1 hgrow)
      go_roundw
      case rel => exact ⟨k + 1, by omega, by go_num, by rw [HT.out]; exact hown1, (hbel.alloc hbel.size _).grown hgrow (by have := hbel.size; simp; omega) (fun j hj => (HB j hj).1)⟩
      case measure => simp [intOf]; omega
    · have hcv := conv_own wr w.heap.size _ _ hown
      go_wp2
      go_ret
      have : k = len := by omega
      subst this
      exact ⟨ret_str (by rw [List.take_of_length_le (by rw [HL.out]; exact Nat.le_refl _)]), hbel⟩
end Go.Proofs.YtgjmaeodgcigdaaGreatDoor
namespace Go.Proofs.YtgjmaeodgcigdaaGreatDoor
open Go.RowKit

theorem dgt_mod (a b : Nat) (h : a % 10 = b % 10) : dgt a = dgt b := by unfold dgt; rw [h]
theorem dgs_four (y : Nat) : dgs 4 y = dgs 2 (y / 100) ++ dgs 2 (y % 100) := by
  show (((([] ++ [dgt (y / 10 / 10 / 10)]) ++ [dgt (y / 10 / 10)]) ++ [dgt (y / 10)]) ++ [dgt y]) = (([] ++ [dgt (y / 100 / 10)]) ++ [dgt (y / 100)]) ++ (([] ++ [dgt (y % 100 / 10)]) ++ [dgt (y % 100)])
  rw [dgt_mod (y / 10 / 10 / 10) (y / 100 / 10) (by omega), dgt_mod (y / 10 / 10) (y / 100) (by omega), dgt_mod (y % 100 / 10) (y / 10) (by omega), dgt_mod (y % 100) y (by omega)]
  rfl
theorem txt_parts (y m d h i c : Nat) : txt y m d h i c = dg2 [y / 100, y % 100, m, d] ++ (84 :: (dg2 [h, i, c] ++ [90])) := by
  unfold txt; rw [dgs_four]; simp only [dg2, List.append_nil, List.append_assoc]
theorem join4 (p q : List UInt8) : (ByteArray.mk p.toArray ++ ByteArray.mk #[84] ++ ByteArray.mk q.toArray ++ ByteArray.mk #[90]) = ByteArray.mk (p ++ (84 :: (q ++ [90]))).toArray := by
  have e1 : (#[84] : Array UInt8) = [84].toArray := rfl
  have e2 : (#[90] : Array UInt8) = [90].toArray := rfl
  rw [e1, e2]
  simp only [ByteArray.mk_append_mk]
  simp only [List.append_assoc, List.cons_append, List.nil_append]

set_option maxHeartbeats 400000 in
theorem codShow_out (t : Nat) (w : World) (h : 253402300799 < t) :
    Calls Tryz.prog 49 #[.int .u64 (t : Int)] w fun e w' => e = .returned (.tuple #[.string ⟨#[]⟩, .int .i64 6]) ∧ Below w.heap.size w w' := by
  have h' : (253402300799 : Int) < (t : Int) := by omega
  clear h
  go_enter Tryz.func49, Tryz.ntmps49
  go_wp2
  go_ret2
  exact ⟨rfl, Below.refl _ _⟩

/-- numbers in a block of their own -/
theorem nums4 (w : World) (a b c d : Nat) : ∀ i, i < 4 → (w.alloc (Obj.cells #[.int .i64 (a : Int), .int .i64 (b : Int), .int .i64 (c : Int), .int .i64 (d : Int)] 3)).cell? ⟨w.heap.size, i, none⟩ = some (.int .i64 (nthN [a, b, c, d] i : Int)) := by
  intro i hi
  rw [cell_of_row _ _ i _ _ _ (heap_alloc_new w _)]
  obtain rfl | rfl | rfl | rfl : i = 0 ∨ i = 1 ∨ i = 2 ∨ i = 3 := by omega
  all_goals rfl
theorem nums3 (w : World) (a b c : Nat) : ∀ i, i < 3 → (w.alloc (Obj.cells #[.int .i64 (a : Int), .int .i64 (b : Int), .int .i64 (c : Int)] 3)).cell? ⟨w.heap.size, i, none⟩ = some (.int .i64 (nthN [a, b, c] i : Int)) := by
  intro i hi
  rw [cell_of_row _ _ i _ _ _ (heap_alloc_new w _)]
  obtain rfl | rfl | rfl : i = 0 ∨ i = 1 ∨ i = 2 := by omega
  all_goals rfl

set_option maxHeartbeats 1000000 in
theorem codShow_in (t y m d : Nat) (w : World) (ht : t ≤ 253402300799) (hd : IsDate (t / 86400 + 719162) y m d) :
    Calls Tryz.prog 49 #[.int .u64 (t : Int)] w fun e w' => e = .returned (.tuple #[.string ⟨(txt y m d (t % 86400 / 3600) (t % 86400 / 60 % 60) (t % 86400 % 60)).toArray⟩, .int .i64 0]) ∧ Below w.heap.size w w' := by
  have H : Hid (IsDate (t / 86400 + 719162) y m d) := hd
  have y2 := hd.y2
  have m2 := hd.m2
  have d2 : d ≤ 31 := by have := hd.d2; have := dim_le y m; omega
  clear hd
  have ht' : ¬ (253402300799 : Int) < (t : Int) := by omega
  obtain ⟨n, hn⟩ : ∃ n : Nat, n = t / 86400 := ⟨_, rfl⟩
  obtain ⟨s, hs⟩ : ∃ s : Nat, s = t % 86400 := ⟨_, rfl⟩
  have hn1 : (t : Int) / 86400 = (n : Int) := by omega
  have hs1 : (t : Int) % 86400 = (s : Int) := by omega
  have hn2 : n ≤ 2932896 := by omega
  have hs2 : s < 86400 := by omega
  rw [← hs]
  rw [← hn] at H
  clear hn hs ht
  obtain ⟨a, ha⟩ : ∃ a : Nat, a = s / 3600 := ⟨_, rfl⟩
  obtain ⟨b, hb⟩ : ∃ b : Nat, b = s / 60 % 60 := ⟨_, rfl⟩
  obtain ⟨c, hc⟩ : ∃ c : Nat, c = s % 60 := ⟨_, rfl⟩
  have ha1 : (s : Int) / 3600 = (a : Int) := by omega
  have hb1 : (s : Int) % 3600 / 60 = (b : Int) := by omega
  have hc1 : (s : Int) % 60 = (c : Int) := by omega
  have ha2 : a < 24 := by omega
  have hb2 : b < 60 := by omega
  have hc2 : c < 60 := by omega
  rw [← ha, ← hb, ← hc]
  clear ha hb hc
  obtain ⟨f, hf⟩ : ∃ f : Nat, f = y / 100 := ⟨_, rfl⟩
  obtain ⟨g, hg⟩ : ∃ g : Nat, g = y % 100 := ⟨_, rfl⟩
  have hf1 : (y : Int) / 100 = (f : Int) := by omega
  have hg1 : (y : Int) % 100 = (g : Int) := by omega
  have hf2 : f < 100 := by omega
  have hg2 : g < 100 := by omega
  have HT : Hid (txt y m d a b c = dg2 [f, g, m, d] ++ (84 :: (dg2 [a, b, c] ++ [90]))) := by unfold Hid; rw [txt_parts, hf, hg]
  clear hf hg
  generalize txt y m d a b c = T at *
  have L1 : (dg2 [f, g, m, d]).length = 8 := dg2_length _
  have L2 : (dg2 [a, b, c]).length = 6 := dg2_length _
  have q1 : ∀ n ∈ [f, g, m, d], n < 100 := by simp only [List.mem_cons, List.not_mem_nil, or_false]; omega
  have q2 : ∀ n ∈ [a, b, c], n < 100 := by simp only [List.mem_cons, List.not_mem_nil, or_false]; omega
  have Q1 : Hid (∀ n ∈ [f, g, m, d], n < 100) := q1
  have Q2 : Hid (∀ n ∈ [a, b, c], n < 100) := q2
  clear q1 q2
  go_enter Tryz.func49, Tryz.ntmps49
  go_wp2_with fail
  have hnn : ((n + 719162 : Nat) : Int) - 719162 = (n : Int) := by omega
  have hCiv := codCivil_in (n + 719162) y m d w H.out
  rw [hnn] at hCiv
  clear hnn
  refine hCiv.mono ?_
  rintro e x0 ⟨rfl, B0⟩
  clear hCiv
  go_wp2_with fail
  refine (codDigits x0.heap.size [f, g, m, d] _ (by simp) Q1.out (by simp) (nums4 x0 f g m d)).mono ?_
  rintro e x1 ⟨rfl, c1⟩
  have B1 := (B0.alloc B0.size (Obj.cells #[.int .i64 (f : Int), .int .i64 (g : Int), .int .i64 (m : Int), .int .i64 (d : Int)] 3)).trans (c1.mono (by have := B0.size; simp; omega))
  clear B0 c1
  generalize dg2 [f, g, m, d] = D1 at *
  go_wp2_with fail
  refine (codDigits x1.heap.size [a, b, c] _ (by simp) Q2.out (by simp) (nums3 x1 a b c)).mono ?_
  rintro e x2 ⟨rfl, c2⟩
  have B2 := (B1.alloc B1.size (Obj.cells #[.int .i64 (a : Int), .int .i64 (b : Int), .int .i64 (c : Int)] 3)).trans (c2.mono (by have := B1.size; simp; omega))
  clear B1 c2
  generalize dg2 [a, b, c] = D2 at *
  go_wp2_with fail
  go_ret2
  rw [HT.out]
  exact ⟨congrArg (fun z => Ending.returned (.tuple #[.string z, .int .i64 0])) (join4 _ _), B2⟩

/-- what Show answers: the text of the time, or that there is none -/
def ShownAs (t : Nat) (S : List UInt8) (E : Int) : Prop := (253402300799 < t ∧ S = [] ∧ E = 6) ∨ (t ≤ 253402300799 ∧ IsTime S t ∧ E = 0)

theorem show_cod (t : Nat) : ∃ S E, ShownAs t S E ∧
    (∀ w, Calls Tryz.prog 49 #[.int .u64 (t : Int)] w fun e w' => e = .returned (.tuple #[.string ⟨S.toArray⟩, .int .i64 E]) ∧ Below w.heap.size w w') := by
  by_cases h : 253402300799 < t
  · exact ⟨[], 6, .inl ⟨h, rfl, rfl⟩, fun w => codShow_out t w h⟩
  · obtain ⟨y, m, d, hd⟩ := exists_date (t / 86400 + 719162) (by omega)
    exact ⟨_, 0, .inr ⟨by omega, IsTime.of hd, rfl⟩, fun w => codShow_in t y m d w (by omega) hd⟩
end Go.Proofs.YtgjmaeodgcigdaaGreatDoor
namespace Go.Proofs.YtgjmaeodgcigdaaGreatDoor
open Go.RowKit

set_option maxHeartbeats 400000 in
theorem codAhead (y : Nat) (w : World) (h1 : 1 ≤ y) (hy : y ≤ 10000) :
    Calls Tryz.prog 183 #[.int .i64 (y : Int)] w fun e w' => e = .returned (.int .i64 (aheadY y : Int)) ∧ w' = w := by
  obtain ⟨n, hn⟩ : ∃ n, y = n + 1 := ⟨y - 1, by omega⟩
  subst hn
  have H : Hid (aheadY (n + 1) = 365 * n + n / 4 - n / 100 + n / 400) := by unfold Hid aheadY; rw [Nat.add_sub_cancel]
  have hle : n / 100 ≤ n / 4 := by omega
  go_enter Tryz.func183, Tryz.ntmps183
  go_wp2
  go_ret
  refine ⟨ret_i ?_, rfl⟩
  rw [H.out]; omega

set_option maxRecDepth 20000 in
theorem sl12 (G p : Nat) (hp : p < 12) (w : World) : (Instr.sliceAt 183 (.pointer (some ⟨G, 0, none⟩)) none (some (.int .i64 (p : Int))) none).run Tryz.prog w = .ok (.slice (some ⟨G, 0, none⟩) p 12) w := by
  have hn : Tryz.prog.arrayLen 183 = 12 := by kernel_rfl
  have he : Tryz.prog.elem 183 = 3 := by kernel_rfl
  rw [run_sliceAt_array_h w 183 ⟨G, 0, none⟩ (by rw [he, hn]; exact Tryz.underlying183) .i64 (p : Int) (by omega) (by rw [hn]; omega), hn]
  rfl

theorem mdV_all (k : Nat) : (mdV k).toArray.all (·.oneCell') = true := by simp [mdV, Value.oneCell']

set_option maxHeartbeats 1000000 in
theorem codDay_far (y m d : Int) (w : World) (h : y < 1 ∨ 9999 < y ∨ m < 1 ∨ 12 < m) :
    Calls Tryz.prog 147 #[.int .i64 y, .int .i64 m, .int .i64 d] w fun e w' => e = .returned (.tuple #[.int .i64 0, .int .i64 6]) ∧ Below w.heap.size w w' := by
  by_cases c1 : y < 1
  · clear h
    go_enter Tryz.func147, Tryz.ntmps147
    go_wp2
    go_ret2
    exact ⟨rfl, Below.refl _ _⟩
  by_cases c2 : 9999 < y
  · clear h
    go_enter Tryz.func147, Tryz.ntmps147
    go_wp2
    go_ret2
    exact ⟨rfl, Below.refl _ _⟩
  by_cases c3 : m < 1
  · clear h
    go_enter Tryz.func147, Tryz.ntmps147
    go_wp2
    go_ret2
    exact ⟨rfl, Below.refl _ _⟩
  have c4 : 12 < m := by omega
  clear h
  go_enter Tryz.func147, Tryz.ntmps147
  go_wp2
  go_ret2
  exact ⟨rfl, Below.refl _ _⟩

set_option maxHeartbeats 1000000 in
theorem codDay_out (y m d : Int) (w : World) (h : NoDate y m d) :
    Calls Tryz.prog 147 #[.int .i64 y, .int .i64 m, .int .i64 d] w fun e w' => e = .returned (.tuple #[.int .i64 0, .int .i64 6]) ∧ Below w.heap.size w w' := by
  by_cases hf : y < 1 ∨ 9999 < y ∨ m < 1 ∨ 12 < m
  · exact codDay_far y m d w hf
  obtain ⟨Y, rfl⟩ : ∃ Y : Nat, y = Y := ⟨y.toNat, by omega⟩
  obtain ⟨M, rfl⟩ : ∃ M : Nat, m = ((M + 1 : Nat) : Int) := ⟨m.toNat - 1, by omega⟩
  have y1 : 1 ≤ Y := by omega
  have y2 : Y ≤ 9999 := by omega
  have m2 : M < 12 := by omega
  have hd : d < 1 ∨ (mdAt (lday Y) M : Int) < d := by
    rw [mdAt_dim]
    unfold NoDate at h
    rw [Int.toNat_natCast, Int.toNat_natCast] at h
    omega
  clear h hf
  have Hd : Hid (d < 1 ∨ (mdAt (lday Y) M : Int) < d) := hd
  clear hd
  by_cases c5 : d < 1
  · go_enter Tryz.func147, Tryz.ntmps147
    go_wp2_with fail
    refine (codMonths Y w (by omega)).mono ?_
    rintro e x ⟨rfl, hbel⟩
    have b0 : Blk (x.alloc (.cells #[.int .i64 0, .int .i64 0, .int .i64 0, .int .i64 0, .int .i64 0, .int .i64 0, .int .i64 0, .int .i64 0, .int .i64 0, .int .i64 0, .int .i64 0, .int .i64 0] 183)) x.heap.size 183 (List.replicate 12 (Value.int .i64 0)) := Blk.newAt x _ _ _ _ rfl rfl
    obtain ⟨x2, hx2⟩ : ∃ x2, x2 = (x.alloc (.cells #[.int .i64 0, .int .i64 0, .int .i64 0, .int .i64 0, .int .i64 0, .int .i64 0, .int .i64 0, .int .i64 0, .int .i64 0, .int .i64 0, .int .i64 0, .int .i64 0] 183)).setRow x.heap.size (mdV (lday Y)).toArray := ⟨_, rfl⟩
    have B2 : Below w.heap.size w x2 := by rw [hx2]; exact bel_row (hbel.alloc hbel.size _) hbel.size _
    go_wp2_with (refine wpList_store_row rfl _ _ _ rfl _ (mdV (lday Y)).toArray rfl rfl _ _ b0 info12 rfl (mdV_all _) ?_; rw [← hx2]; clear hx2 b0)
    go_ret2
    exact ⟨rfl, B2⟩
  · have c6 : (mdAt (lday Y) M : Int) < d := by have := Hd.out; omega
    go_enter Tryz.func147, Tryz.ntmps147
    go_wp2_with fail
    refine (codMonths Y w (by omega)).mono ?_
    rintro e x ⟨rfl, hbel⟩
    have b0 : Blk (x.alloc (.cells #[.int .i64 0, .int .i64 0, .int .i64 0, .int .i64 0, .int .i64 0, .int .i64 0, .int .i64 0, .int .i64 0, .int .i64 0, .int .i64 0, .int .i64 0, .int .i64 0] 183)) x.heap.size 183 (List.replicate 12 (Value.int .i64 0)) := Blk.newAt x _ _ _ _ rfl rfl
    obtain ⟨x2, hx2⟩ : ∃ x2, x2 = (x.alloc (.cells #[.int .i64 0, .int .i64 0, .int .i64 0, .int .i64 0, .int .i64 0, .int .i64 0, .int .i64 0, .int .i64 0, .int .i64 0, .int .i64 0, .int .i64 0, .int .i64 0] 183)).setRow x.heap.size (mdV (lday Y)).toArray := ⟨_, rfl⟩
    have B2 : Below w.heap.size w x2 := by rw [hx2]; exact bel_row (hbel.alloc hbel.size _) hbel.size _
    have hc : x2.cell? ⟨x.heap.size, M, none⟩ = some (.int .i64 (mdAt (lday Y) M : Int)) := by rw [hx2, (b0.row (mdV (lday Y))).cell]; exact mdV_at _ _ m2
    generalize mdAt (lday Y) M = z at *
    go_wp2_with (refine wpList_store_row rfl _ _ _ rfl _ (mdV (lday Y)).toArray rfl rfl _ _ b0 info12 rfl (mdV_all _) ?_; rw [← hx2]; clear hx2 b0)
    go_ret2
    exact ⟨rfl, B2⟩

set_option maxHeartbeats 1000000 in
theorem codDay_in (n y m d : Nat) (w : World) (h : IsDate n y m d) :
    Calls Tryz.prog 147 #[.int .i64 (y : Int), .int .i64 (m : Int), .int .i64 (d : Int)] w fun e w' => e = .returned (.tuple #[.int .i64 ((n : Int) - 719162), .int .i64 0]) ∧ Below w.heap.size w w' := by
  have H : Hid (IsDate n y m d) := h
  have y1 := h.y1
  have y2 := h.y2
  have m1 := h.m1
  have m2 := h.m2
  have d1 := h.d1
  have d2 := h.d2
  have d3 := dim_le y m
  have a1 : aheadY y ≤ 3652058 := by have := h.inYear.1; have := h.le; omega
  clear h
  obtain ⟨M, rfl⟩ : ∃ M, m = M + 1 := ⟨m - 1, by omega⟩
  have m3 : M < 12 := by omega
  clear m1 m2
  rw [← mdAt_dim] at d2 d3
  have d4 : d ≤ 31 := by omega
  go_enter Tryz.func147, Tryz.ntmps147
  go_wp2_with fail
  refine (codMonths y w (by omega)).mono ?_
  rintro e x ⟨rfl, hbel⟩
  have b0 : Blk (x.alloc (.cells #[.int .i64 0, .int .i64 0, .int .i64 0, .int .i64 0, .int .i64 0, .int .i64 0, .int .i64 0, .int .i64 0, .int .i64 0, .int .i64 0, .int .i64 0, .int .i64 0] 183)) x.heap.size 183 (List.replicate 12 (Value.int .i64 0)) := Blk.newAt x _ _ _ _ rfl rfl
  obtain ⟨x2, hx2⟩ : ∃ x2, x2 = (x.alloc (.cells #[.int .i64 0, .int .i64 0, .int .i64 0, .int .i64 0, .int .i64 0, .int .i64 0, .int .i64 0, .int .i64 0, .int .i64 0, .int .i64 0, .int .i64 0, .int .i64 0] 183)).setRow x.heap.size (mdV (lday y)).toArray := ⟨_, rfl⟩
  have B2 : Below w.heap.size w x2 := by rw [hx2]; exact bel_row (hbel.alloc hbel.size _) hbel.size _
  have HC : Hid (∀ j, j < 12 → x2.cell? ⟨x.heap.size, j, none⟩ = some (.int .i64 (mdAt (lday y) j : Int))) := by intro j hj; rw [hx2, (b0.row (mdV (lday y))).cell]; exact mdV_at _ _ hj
  have hc := HC.out M m3
  have hsl := sl12 x.heap.size M m3
  have Hz : Hid (mdAt (lday y) M = mdAt (lday y) M) := rfl
  generalize mdAt (lday y) M = z at d2 d3 hc
  go_wp2_with (first | (go_at_call 183; refine (codAhead y _ (by omega) (by omega)).mono ?_; rintro e w' ⟨rfl, hww⟩; rw [hww]; clear hww w') | (refine wpList_store_row rfl _ _ _ rfl _ (mdV (lday y)).toArray rfl rfl _ _ b0 info12 rfl (mdV_all _) ?_; rw [← hx2]; clear hx2 b0))
  clear hc d2 d3 hsl
  generalize x.heap.size = B at *
  go_loopw [9, 48] (fun nn kk w' => ∃ k q : Nat, k ≤ M ∧ cumM y (k + 1) ≤ 366 ∧ nn = .int .i64 ((aheadY y + cumM y (k + 1) + d : Nat) - 719163 : Int) ∧ kk = .int .i64 (k : Int) ∧ w' = x2.drewN q) (fun _ kk _ => M - (intOf kk).toNat)
  case atStart => exact ⟨0, 0, by omega, by rw [cumM_one]; omega, by rw [cumM_one]; go_num, rfl, rfl⟩
  case round =>
    obtain ⟨k, q, k2, hcu, rfl, rfl, rfl⟩ := hrel
    by_cases hk : k < M
    · have hs := cumM_succ y (k + 1) (by omega)
      have hc := HC.out k (by omega)
      rw [← mdAt_dim] at hs
      have hd31 : mdAt (lday y) k ≤ 31 := by rw [mdAt_dim]; exact dim_le y (k + 1)
      have Hc : Hid (cumM y (k + 1 + 1) ≤ 366) := by
        have h1 := cumM_mono y (k + 1 + 1) 13 (by omega) (by omega)
        rw [cumM_13] at h1
        have := lday_le y
        unfold Hid
        omega
      have Hs : Hid (cumM y (k + 1 + 1) = cumM y (k + 1) + mdAt (lday y) k) := hs
      clear hs
      generalize mdAt (lday y) k = z2 at *
      go_wp2
      go_roundw
      case rel => exact ⟨k + 1, _, by omega, Hc.out, by rw [Hs.out]; go_num, by go_num, rfl⟩
      case measure => simp [intOf]; omega
    · have ek : k = M := by omega
      subst ek
      have he : Hid ((n : Int) + 1 = aheadY y + cumM y (k + 1) + d) := by have := H.out.eq; unfold Hid; omega
      go_wp2
      go_ret2
      exact ⟨ret2 (by have := he.out; omega) rfl, bel_drewN B2 _⟩
end Go.Proofs.YtgjmaeodgcigdaaGreatDoor
namespace Go.Proofs.YtgjmaeodgcigdaaGreatDoor
open Go.RowKit
attribute [local go_sem ↓] ixs

def dv (l : List UInt8) (i : Nat) : Nat := (nth l i).toNat - 48
/-- the number at place j, of the first k signs -/
def pn (l : List UInt8) (k j : Nat) : Nat := if 2 * j + 1 < k then 10 * dv l (2 * j) + dv l (2 * j + 1) else if 2 * j < k then dv l (2 * j) else 0
def iv (n : Nat) : Value := .int .i64 (n : Int)
def pv (l : List UInt8) (k : Nat) : List Value := [iv (pn l k 0), iv (pn l k 1), iv (pn l k 2), iv (pn l k 3), iv (pn l k 4), iv (pn l k 5), iv (pn l k 6)]
theorem pv_at (l : List UInt8) (k j : Nat) (h : j < 7) : (pv l k)[j]? = some (.int .i64 (pn l k j : Int)) := by
  obtain rfl | rfl | rfl | rfl | rfl | rfl | rfl : j = 0 ∨ j = 1 ∨ j = 2 ∨ j = 3 ∨ j = 4 ∨ j = 5 ∨ j = 6 := by omega
  all_goals rfl
theorem pv_step (l : List UInt8) (k : Nat) (h : k < 14) : (pv l k).set (k / 2) (iv (10 * pn l k (k / 2) + dv l k)) = pv l (k + 1) := by
  obtain rfl | rfl | rfl | rfl | rfl | rfl | rfl | rfl | rfl | rfl | rfl | rfl | rfl | rfl : k = 0 ∨ k = 1 ∨ k = 2 ∨ k = 3 ∨ k = 4 ∨ k = 5 ∨ k = 6 ∨ k = 7 ∨ k = 8 ∨ k = 9 ∨ k = 10 ∨ k = 11 ∨ k = 12 ∨ k = 13 := by omega
  all_goals simp [pv, pn]
theorem pv_zero (l : List UInt8) : pv l 0 = List.replicate 7 (.int .i64 0) := rfl
theorem pv_all (l : List UInt8) (k : Nat) : (pv l k).toArray.all (·.oneCell') = true := by simp [pv, iv, Value.oneCell']
theorem info7 : (Tryz.prog.info? 189).map (·.size) = some 7 := by kernel_rfl
theorem pn_lt (l : List UInt8) (k j : Nat) (h : ∀ i, i < k → dv l i < 10) : pn l k j < 100 := by
  unfold pn
  by_cases h1 : 2 * j + 1 < k
  · rw [if_pos h1]; have := h (2 * j) (by omega); have := h (2 * j + 1) h1; omega
  · rw [if_neg h1]
    by_cases h2 : 2 * j < k
    · rw [if_pos h2]; have := h (2 * j) h2; omega
    · rw [if_neg h2]; omega

theorem results_row_tmp {P : Program} {fn : Func} {p u : Tmp} {ty : TypeId} (h : fn.results = #[.cell p ty, .tmp u]) (tmps : Array Value) (w : World) (g : Nat) (t : TypeId) (cs : Array Value) (fr : Nat × Nat) (d : TypeDesc)
    (hp : tmps.getD p undef = .pointer (some ⟨g, 0, none⟩)) (hg : w.heap[g]? = some (.cells cs t fr))
    (hu : P.underlying ty = some d) (hd : (match d with | .struct _ | .array _ _ => true | _ => false) = true) (hi : (P.info? ty).map (·.size) = some cs.size) :
    (results fn tmps).run P w = .ok (.tuple #[.agg cs, tmps.getD u undef]) w := by
  rw [results_cell_tmp h, hp]
  simp [asAddr, run_loadVar_row w g t ty cs fr d hg hu hd hi, Result.andThen]

set_option maxHeartbeats 1000000 in
theorem codPairs_yes (s : ByteArray) (w : World) (hs : s.size = 14) (hd : ∀ i, i < 14 → isDg (nth s.data.toList i) = true) :
    Calls Tryz.prog 146 #[.string s] w fun e w' => e = .returned (.tuple #[.agg (pv s.data.toList 14).toArray, .bool true]) ∧ Below w.heap.size w w' := by
  obtain ⟨l, hl⟩ : ∃ l, l = s.data.toList := ⟨_, rfl⟩
  rw [← hl] at hd ⊢
  have Hl : Hid (l = s.data.toList) := hl
  have HD : Hid (∀ i, i < 14 → 48 ≤ (nth l i).toNat ∧ (nth l i).toNat ≤ 57) := fun i hi => of_decide_eq_true (hd i hi)
  clear hl hd
  have b0 : Blk ((w.alloc (.cells #[.int .i64 0, .int .i64 0, .int .i64 0, .int .i64 0, .int .i64 0, .int .i64 0, .int .i64 0] 189)).alloc (.cells #[.int .i64 0, .int .i64 0, .int .i64 0, .int .i64 0, .int .i64 0, .int .i64 0, .int .i64 0] 189)) (w.heap.size + 1) 189 (pv l 0) := Blk.newAt _ _ _ _ _ (by simp) rfl
  have b1 : Blk ((w.alloc (.cells #[.int .i64 0, .int .i64 0, .int .i64 0, .int .i64 0, .int .i64 0, .int .i64 0, .int .i64 0] 189)).alloc (.cells #[.int .i64 0, .int .i64 0, .int .i64 0, .int .i64 0, .int .i64 0, .int .i64 0, .int .i64 0] 189)) w.heap.size 189 (pv l 0) := (Blk.newAt w w.heap.size _ _ _ rfl rfl).alloc _
  go_enter Tryz.func146, Tryz.ntmps146
  go_wp2
  go_loopw [8] (fun i wr => ∃ k : Nat, k ≤ 14 ∧ i = .int .i64 (k : Int) ∧ Blk wr (w.heap.size + 1) 189 (pv l k) ∧ Blk wr w.heap.size 189 (pv l 0) ∧ Below w.heap.size w wr) (fun i _ => 14 - (intOf i).toNat)
  case atStart => exact ⟨0, by omega, rfl, b0, b1, ((Below.refl _ _).alloc (Nat.le_refl _) _).alloc (by simp) _⟩
  case round =>
    obtain ⟨k, hk, rfl, hblk, hblk1, hbel⟩ := hrel
    clear b0 b1
    by_cases hlt : k < 14
    · have hb0 : (0 : Int) ≤ (k : Int) := by omega
      have hb1 : (k : Int) < (s.size : Int) := by omega
      have hlt' : (k : Int) < 14 := by omega
      have hc1 := (HD.out k hlt).1
      have hc2 := (HD.out k hlt).2
      have hcn : nth l k = sb s (k : Int) := by rw [Hl.out]; rfl
      have hdv : Hid (dv l k = (sb s (k : Int)).toNat - 48) := by unfold Hid dv; rw [hcn]
      rw [hcn] at hc1 hc2
      clear hcn
      have i1 : ¬ ((sb s (k : Int)).toNat : Int) < 48 := by omega
      have i2 : ¬ (57 : Int) < ((sb s (k : Int)).toNat : Int) := by omega
      have Hc2 : Hid (48 ≤ (sb s (k : Int)).toNat) := hc1
      clear hc1
      obtain ⟨j, hj⟩ : ∃ j : Nat, j = k / 2 := ⟨_, rfl⟩
      have i3 : (k : Int) / 2 = (j : Int) := by omega
      have i4 : (j : Int) < 7 := by omega
      have hcell := hblk.cell j
      rw [pv_at l k j (by omega)] at hcell
      have hfr := hblk.frozen j
      have hstep := pv_step l k hlt
      rw [← hj] at hstep
      have hpn : pn l k j < 100 := pn_lt l k j (fun i hi => by have := HD.out i (by omega); unfold dv; omega)
      generalize pn l k j = v at *
      have Hval : Hid (Value.int .i64 (10 * (v : Int) + (((sb s (k : Int)).toNat : Int) - 48)) = iv (10 * v + dv l k)) := by
        unfold Hid iv; rw [hdv.out]; have := Hc2.out; congr 1; omega
      have Hstep : Hid ((pv l k).set j (iv (10 * v + dv l k)) = pv l (k + 1)) := hstep
      have hset := hblk.set j (iv (10 * v + dv l k))
      have hset1 := hblk1.other ⟨w.heap.size + 1, j, none⟩ (iv (10 * v + dv l k)) (by simp)
      rw [hstep] at hset
      clear hstep hj
      go_wp2
      go_region
      go_wp2
      go_roundw
      case rel => exact ⟨k + 1, by omega, by go_num, by rw [Hval.out]; exact hset, by rw [Hval.out]; exact hset1, (hbel.setCell (by show w.heap.size ≤ w.heap.size + 1; omega) _).drew⟩
      case measure => simp [intOf]; omega
    · have ek : k = 14 := by omega
      subst ek
      go_wp2_with (first | (refine wpList_load_row rfl _ _ rfl _ rfl _ _ _ _ hblk Tryz.underlying189 rfl info7 ?_) | (refine wpList_store_row rfl _ _ _ rfl _ _ rfl rfl _ _ hblk1 info7 rfl (pv_all _ _) ?_))
      refine bodyPost_ret (v := .tuple #[.agg (pv l 14).toArray, .bool true]) ?_ rfl ⟨rfl, bel_row hbel (Nat.le_refl _) _⟩
      exact results_row_tmp Tryz.results146 _ _ _ _ _ _ _ rfl (hblk1.row (pv l 14)) Tryz.underlying189 rfl info7

set_option maxHeartbeats 1000000 in
theorem codPairs_no (s : ByteArray) (w : World) (hs : s.size = 14) (I : Nat) (hI : I < 14) (hno : isDg (nth s.data.toList I) = false) (hd : ∀ i, i < I → isDg (nth s.data.toList i) = true) :
    Calls Tryz.prog 146 #[.string s] w fun e w' => e = .returned (.tuple #[.agg (pv s.data.toList 0).toArray, .bool false]) ∧ Below w.heap.size w w' := by
  obtain ⟨l, hl⟩ : ∃ l, l = s.data.toList := ⟨_, rfl⟩
  rw [← hl] at hd hno ⊢
  have Hl : Hid (l = s.data.toList) := hl
  have HD : Hid (∀ i, i < I → 48 ≤ (nth l i).toNat ∧ (nth l i).toNat ≤ 57) := fun i hi => of_decide_eq_true (hd i hi)
  have HNO : Hid ((nth l I).toNat < 48 ∨ 57 < (nth l I).toNat) := by
    have := of_decide_eq_false hno
    unfold Hid
    omega
  clear hl hd hno
  have b0 : Blk ((w.alloc (.cells #[.int .i64 0, .int .i64 0, .int .i64 0, .int .i64 0, .int .i64 0, .int .i64 0, .int .i64 0] 189)).alloc (.cells #[.int .i64 0, .int .i64 0, .int .i64 0, .int .i64 0, .int .i64 0, .int .i64 0, .int .i64 0] 189)) (w.heap.size + 1) 189 (pv l 0) := Blk.newAt _ _ _ _ _ (by simp) rfl
  have b1 : Blk ((w.alloc (.cells #[.int .i64 0, .int .i64 0, .int .i64 0, .int .i64 0, .int .i64 0, .int .i64 0, .int .i64 0] 189)).alloc (.cells #[.int .i64 0, .int .i64 0, .int .i64 0, .int .i64 0, .int .i64 0, .int .i64 0, .int .i64 0] 189)) w.heap.size 189 (pv l 0) := (Blk.newAt w w.heap.size _ _ _ rfl rfl).alloc _
  go_enter Tryz.func146, Tryz.ntmps146
  go_wp2
  go_loopw [8] (fun i wr => ∃ k : Nat, k ≤ I ∧ i = .int .i64 (k : Int) ∧ Blk wr (w.heap.size + 1) 189 (pv l k) ∧ Blk wr w.heap.size 189 (pv l 0) ∧ Below w.heap.size w wr) (fun i _ => I - (intOf i).toNat)
  case atStart => exact ⟨0, by omega, rfl, b0, b1, ((Below.refl _ _).alloc (Nat.le_refl _) _).alloc (by simp) _⟩
  case round =>
    obtain ⟨k, hk, rfl, hblk, hblk1, hbel⟩ := hrel
    clear b0 b1
    by_cases hlt : k < I
    · have hb0 : (0 : Int) ≤ (k : Int) := by omega
      have hb1 : (k : Int) < (s.size : Int) := by omega
      have hlt' : (k : Int) < 14 := by omega
      have hc1 := (HD.out k hlt).1
      have hc2 := (HD.out k hlt).2
      have hcn : nth l k = sb s (k : Int) := by rw [Hl.out]; rfl
      have hdv : Hid (dv l k = (sb s (k : Int)).toNat - 48) := by unfold Hid dv; rw [hcn]
      rw [hcn] at hc1 hc2
      clear hcn
      have i1 : ¬ ((sb s (k : Int)).toNat : Int) < 48 := by omega
      have i2 : ¬ (57 : Int) < ((sb s (k : Int)).toNat : Int) := by omega
      have Hc2 : Hid (48 ≤ (sb s (k : Int)).toNat) := hc1
      clear hc1
      obtain ⟨j, hj⟩ : ∃ j : Nat, j = k / 2 := ⟨_, rfl⟩
      have i3 : (k : Int) / 2 = (j : Int) := by omega
      have i4 : (j : Int) < 7 := by omega
      have hcell := hblk.cell j
      rw [pv_at l k j (by omega)] at hcell
      have hfr := hblk.frozen j
      have hstep := pv_step l k (by omega)
      rw [← hj] at hstep
      have hpn : pn l k j < 100 := pn_lt l k j (fun i hi => by have := HD.out i (by omega); unfold dv; omega)
      generalize pn l k j = v at *
      have Hval : Hid (Value.int .i64 (10 * (v : Int) + (((sb s (k : Int)).toNat : Int) - 48)) = iv (10 * v + dv l k)) := by
        unfold Hid iv; rw [hdv.out]; have := Hc2.out; congr 1; omega
      have Hstep : Hid ((pv l k).set j (iv (10 * v + dv l k)) = pv l (k + 1)) := hstep
      have hset := hblk.set j (iv (10 * v + dv l k))
      have hset1 := hblk1.other ⟨w.heap.size + 1, j, none⟩ (iv (10 * v + dv l k)) (by simp)
      rw [hstep] at hset
      clear hstep hj
      go_wp2
      go_region
      go_wp2
      go_roundw
      case rel => exact ⟨k + 1, by omega, by go_num, by rw [Hval.out]; exact hset, by rw [Hval.out]; exact hset1, (hbel.setCell (by show w.heap.size ≤ w.heap.size + 1; omega) _).drew⟩
      case measure => simp [intOf]; omega
    · have ek : k = I := by omega
      subst ek
      have hb0 : (0 : Int) ≤ (k : Int) := by omega
      have hb1 : (k : Int) < (s.size : Int) := by omega
      have hlt' : (k : Int) < 14 := by omega
      have hcn : nth l k = sb s (k : Int) := by rw [Hl.out]; rfl
      have hor := HNO.out
      rw [hcn] at hor
      clear hcn
      by_cases c1 : (sb s (k : Int)).toNat < 48
      · have i1 : ((sb s (k : Int)).toNat : Int) < 48 := by omega
        clear c1 hor
        go_wp2_with (refine wpList_store_row rfl _ _ _ rfl _ _ rfl rfl _ _ hblk1 info7 rfl (pv_all l 0) ?_)
        refine bodyPost_ret (v := .tuple #[.agg (pv l 0).toArray, .bool false]) ?_ rfl ⟨rfl, bel_row hbel (Nat.le_refl _) _⟩
        exact results_row_tmp Tryz.results146 _ _ _ _ _ _ _ rfl (hblk1.row (pv l 0)) Tryz.underlying189 rfl info7
      · have i1 : ¬ ((sb s (k : Int)).toNat : Int) < 48 := by omega
        have i2 : (57 : Int) < ((sb s (k : Int)).toNat : Int) := by omega
        clear c1 hor
        go_wp2_with (refine wpList_store_row rfl _ _ _ rfl _ _ rfl rfl _ _ hblk1 info7 rfl (pv_all l 0) ?_)
        refine bodyPost_ret (v := .tuple #[.agg (pv l 0).toArray, .bool false]) ?_ rfl ⟨rfl, bel_row hbel (Nat.le_refl _) _⟩
        exact results_row_tmp Tryz.results146 _ _ _ _ _ _ _ rfl (hblk1.row (pv l 0)) Tryz.underlying189 rfl info7

/-- the first sign that is no digit -/
theorem first_no (l : List UInt8) (n : Nat) : (∀ i, i < n → isDg (nth l i) = true) ∨ ∃ I, I < n ∧ isDg (nth l I) = false ∧ ∀ i, i < I → isDg (nth l i) = true := by
  induction n with
  | zero => exact .inl fun i hi => absurd hi (Nat.not_lt_zero _)
  | succ n ih =>
    rcases ih with h | ⟨I, h1, h2, h3⟩
    · cases e : isDg (nth l n) with
      | true =>
        refine .inl fun i hi => ?_
        rcases Nat.lt_or_ge i n with h' | h'
        · exact h i h'
        · have : i = n := by omega
          subst this; exact e
      | false => exact .inr ⟨n, by omega, e, h⟩
    · exact .inr ⟨I, by omega, h2, h3⟩
end Go.Proofs.YtgjmaeodgcigdaaGreatDoor
