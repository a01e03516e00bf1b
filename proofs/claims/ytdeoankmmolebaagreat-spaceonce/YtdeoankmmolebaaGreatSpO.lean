/- SpaceOnce: slices of numbers that the statement makes; has, less. -/
import Derived.Test.YtdeoankmmolebaaGreatSpN
import Derived.Test.YtdeoankmmolebaaGreatB28
namespace Go.Proofs.YtdeoankmmolebaaGreat
open Go.RowKit

def zv (l : List Int) : List Value := l.map fun z => .int .i64 z
theorem zv_append (l m : List Int) : zv (l ++ m) = zv l ++ zv m := by simp [zv]
theorem zv_at (l : List Int) (i : Nat) (h : i < l.length) : (zv l)[i]? = some (.int .i64 (l.getD i 0)) := by
  simp [zv, List.getElem?_eq_getElem h]
/-- numbers that the call made -/
def OwnZ (w : World) (base : Nat) (v : Value) (l : List Int) : Prop := w.ownsRow base 3 1 v l.length (zv l)
theorem OwnZ.nil (w : World) (base : Nat) : OwnZ w base (.slice none 0 0) [] := World.ownsRow_nil _ _ _ _
/-- numbers in a world -/
structure IsZ (w : World) (a : Option Addr) (len : Nat) (l : List Int) : Prop where
  len_eq : l.length = len
  cells : 0 < len → ∃ g, a = some ⟨g, 0, none⟩ ∧ g < w.heap.size ∧ ∀ i, i < len → w.cell? ⟨g, i, none⟩ = some (.int .i64 (l.getD i 0))
theorem IsZ.below {w w' : World} {a : Option Addr} {len : Nat} {l : List Int} (h : IsZ w a len l) (hb : Below w.heap.size w w') : IsZ w' a len l :=
  ⟨h.len_eq, fun hp => by
    obtain ⟨g, e, hl, hc⟩ := h.cells hp
    exact ⟨g, e, Nat.lt_of_lt_of_le hl hb.size, fun i hi => (hb.cell (p := ⟨g, i, none⟩) hl).trans (hc i hi)⟩⟩
theorem OwnZ.isZ {w : World} {base : Nat} {v : Value} {l : List Int} (h : OwnZ w base v l) : ∃ a cap, v = .slice a l.length cap ∧ IsZ w a l.length l := by
  obtain ⟨h1, h2⟩ := h
  rcases h2 with ⟨rfl, h0⟩ | ⟨g, cap, cur, rfl, hb, hg, hle, hmax, hsz, htk⟩
  · have : l = [] := List.eq_nil_of_length_eq_zero h0
    subst this
    exact ⟨none, 0, rfl, rfl, fun hp => absurd hp (Nat.lt_irrefl 0)⟩
  · refine ⟨_, cap, rfl, rfl, fun hp => ⟨g, rfl, (Array.getElem?_eq_some_iff.1 hg).1, fun i hi => ?_⟩⟩
    have hc := World.ownsRow.cells (w := w) (base := base) (e := 3) (size := 1) (v := .slice (some ⟨g, 0, none⟩) l.length cap) (n := l.length) (xs := zv l) ⟨h1, .inr ⟨g, cap, cur, rfl, hb, hg, hle, hmax, hsz, htk⟩⟩ (g := g) rfl i _ (zv_at l i hi)
    rw [Addr.add_lit, Nat.zero_add] at hc; exact hc
/-- append(numbers, z) -/
theorem list_appZ {ops : Array Oper} {rest : List Oper} {o : Oper} {a : Act} {Q : Exit → Act → World → Prop} (w : World) (hgd : o.guard = none) (s x : Operand)
    (ho : o.op = .call { callee := .builtin .append, args := #[s, x], argTypes := #[54, 54] }) (base : Nat)
    (v : Value) (l : List Int) (hs : a.eval s = v) (hown : OwnZ w base v l) (B : Nat) (z : Int) (hx : a.eval x = .slice (some ⟨B, 0, none⟩) 1 1)
    (hb : w.heap[B]? = some (.cells #[.int .i64 z] 3 (0, 0))) (hle : l.length ≤ 4096) (hbase : base ≤ w.heap.size)
    (h : ∀ v' w', OwnZ w' base v' (l ++ [z]) → w.grownBy w' v.ownBlock → wpList Tryz.prog ops Q rest (a.put o.dst v') w') :
    wpList Tryz.prog ops Q (o :: rest) a w := by
  obtain ⟨i0, hi, hz0, hz1, hz2⟩ := info_parts infoI3
  refine wpList_append_own w hgd s x 54 ho base 3 i0 (.int .i64 0) 1 8 Tryz.underlying54 hi hz0 hz1 hz2 rfl (by omega) v l.length _ hs hown ⟨B, 0, none⟩ 1 1 [.int .i64 z] hx (by simp) (fun j u hu => World.news_of_block hb j u (by simpa using hu)) (fun u hu => by rw [List.mem_singleton.1 hu]; rfl) (by unfold maxLen; omega) (by omega) hbase ?_
  intro v' w' h1 h2 _
  refine h v' w' ?_ h2
  unfold OwnZ
  rw [List.length_append, zv_append]
  exact h1
theorem mem_getD {l : List Int} {n : Int} (h : n ∈ l) : ∃ i, i < l.length ∧ l.getD i 0 = n := by
  obtain ⟨i, hi, e⟩ := List.getElem_of_mem h
  exact ⟨i, hi, by simp [hi, e]⟩
theorem getD_mem {l : List Int} {i : Nat} (h : i < l.length) : l.getD i 0 ∈ l := by
  have : l.getD i 0 = l[i] := by simp [h]
  rw [this]; exact List.getElem_mem h
set_option maxHeartbeats 1000000 in
theorem lawHas (a : Option Addr) (len cap : Nat) (l : List Int) (n : Int) (w : World) (h : IsZ w a len l) (hl : len ≤ 4096) :
    Calls Tryz.prog 27 #[.slice a len cap, .int .i64 n] w fun e w' => e = .returned (.bool (decide (n ∈ l))) ∧ w' = w := by
  have H := mkHid h
  clear h
  go_enter Tryz.func27, Tryz.ntmps27
  go_wp2_with fail
  go_loopw [5] (fun i wr => wr = w ∧ ∃ k : Nat, k ≤ len ∧ i = .int .i64 (k : Int) ∧ Hid (∀ x, x < k → l.getD x 0 ≠ n)) (fun i _ => len - (Go.RowKit.intOf i).toNat)
  case atStart => exact ⟨rfl, 0, Nat.zero_le _, rfl, fun x h => absurd h (Nat.not_lt_zero _)⟩
  case round =>
    obtain ⟨rfl, k, hk, rfl, HA⟩ := hrel
    by_cases hlt : k < len
    · have hlt' : (k : Int) < (len : Int) := by omega
      obtain ⟨g, rfl, _, hc⟩ := H.out.cells (by omega)
      have c0 := hc k hlt
      clear hc
      by_cases he : l.getD k 0 = n
      · have HV : Hid (true = decide (n ∈ l)) := (decide_eq_true (by rw [← he]; exact getD_mem (by rw [H.out.len_eq]; exact hlt))).symm
        rw [he] at c0
        clear he
        go_wp2_with fail
        go_ret
        exact ⟨ret_b HV.out, rfl⟩
      · have HA1 : Hid (∀ x, x < k + 1 → l.getD x 0 ≠ n) := fun x hx => by
          rcases Nat.lt_succ_iff_lt_or_eq.1 hx with h | h
          · exact HA.out x h
          · rw [h]; exact he
        generalize l.getD k 0 = z at *
        go_wp2_with fail
        go_roundw
        case rel => exact ⟨by first | rfl | trivial, k + 1, by omega, by go_num, HA1⟩
        case measure => simp [Go.RowKit.intOf]; omega
    · have hlt' : ¬ (k : Int) < (len : Int) := by omega
      have HV : Hid (false = decide (n ∈ l)) := (decide_eq_false (fun hm => by
        obtain ⟨i, hi, e⟩ := mem_getD hm
        exact HA.out i (by have := H.out.len_eq; omega) e)).symm
      go_wp2_with fail
      go_ret
      exact ⟨ret_b HV.out, rfl⟩
theorem lessL_snoc (l : List Int) (z n : Int) : lessL (l ++ [z]) n = if z = n then lessL l n else lessL l n ++ [z] := by
  unfold lessL
  rw [List.filter_append]
  by_cases h : z = n
  · rw [if_pos h, List.filter_cons_of_neg (by simp [h]), List.filter_nil, List.append_nil]
  · rw [if_neg h, List.filter_cons_of_pos (by simp [h]), List.filter_nil]
theorem take_snoc (l : List Int) (k : Nat) (h : k < l.length) : l.take (k + 1) = l.take k ++ [l.getD k 0] := by
  have : l.getD k 0 = l[k] := by simp [h]
  rw [this, List.take_succ_eq_append_getElem h]
theorem less_len (l : List Int) (n : Int) : (lessL l n).length ≤ l.length := List.length_filter_le _ _
set_option maxHeartbeats 1000000 in
theorem lawLess (a : Option Addr) (len cap : Nat) (l : List Int) (n : Int) (w : World) (h : IsZ w a len l) (hl : len ≤ 4096) :
    Calls Tryz.prog 29 #[.slice a len cap, .int .i64 n] w fun e w' => (∃ v, e = .returned v ∧ OwnZ w' w.heap.size v (lessL l n)) ∧ Below w.heap.size w w' := by
  have H := mkHid h
  clear h
  go_enter Tryz.func29, Tryz.ntmps29
  go_wp2_with fail
  go_loopw [5, 6] (fun o i wr => ∃ k : Nat, k ≤ len ∧ i = .int .i64 (k : Int) ∧ Hid (OwnZ wr w.heap.size o (lessL (l.take k) n)) ∧ Hid (Below w.heap.size w wr)) (fun _ i _ => len - (Go.RowKit.intOf i).toNat)
  case atStart => exact ⟨0, Nat.zero_le _, rfl, OwnZ.nil _ _, Below.refl _ _⟩
  case round =>
    obtain ⟨k, hk, rfl, HO, HB⟩ := hrel
    by_cases hlt : k < len
    · have hlt' : (k : Int) < (len : Int) := by omega
      obtain ⟨g, rfl, _, hc⟩ := (H.out.below HB.out).cells (by omega)
      have c0 := hc k hlt
      clear hc
      have HT : Hid (l.take (k + 1) = l.take k ++ [l.getD k 0]) := take_snoc l k (by rw [H.out.len_eq]; exact hlt)
      have HLl : Hid ((lessL (l.take k) n).length ≤ 4096) := by
        have h1 := less_len (l.take k) n
        have h2 : (l.take k).length ≤ k := List.length_take_le _ _
        unfold Hid; omega
      have HBz : Hid (w.heap.size ≤ wr.heap.size) := HB.out.size
      by_cases he : l.getD k 0 = n
      · have HN : Hid (lessL (l.take (k + 1)) n = lessL (l.take k) n) := by unfold Hid; rw [HT.out, lessL_snoc, if_pos he]
        rw [he] at c0
        clear he HT
        go_wp2_with fail
        go_roundw
        case rel => exact ⟨k + 1, by omega, by go_num, by rw [HN.out]; exact HO, HB⟩
        case measure => simp [Go.RowKit.intOf]; omega
      · have HN : Hid (lessL (l.take (k + 1)) n = lessL (l.take k) n ++ [l.getD k 0]) := by unfold Hid; rw [HT.out, lessL_snoc, if_neg he]
        clear HT
        generalize l.getD k 0 = z at *
        have HOa : Hid (OwnZ (wr.alloc (.cells #[.int .i64 z] 3)) w.heap.size u5 (lessL (l.take k) n)) := World.ownsRow.alloc HO.out _
        have HBa : Hid (Below w.heap.size w (wr.alloc (.cells #[.int .i64 z] 3))) := HB.out.alloc HB.out.size _
        have HOf : Hid (∀ j, u5.ownBlock = some j → w.heap.size ≤ j) := fun j hj => (World.ownsRow.lt HO.out j hj).1
        go_wp2_with (at_builtin; refine list_appZ _ rfl (.tmp 19) (.tmp 24) rfl w.heap.size u5 _ rfl HOa.out wr.heap.size z rfl (heap_alloc_new wr _) HLl.out (by rw [World.size_alloc]; have := HBz.out; omega) ?_; intro v' x3 ho3 hg3; have HO3 := mkHid ho3; have HB3 : Hid (Below w.heap.size w x3) := HBa.out.grown hg3 HBa.out.size HOf.out; clear ho3 hg3)
        go_roundw
        case rel => exact ⟨k + 1, by omega, by go_num, by rw [HN.out]; exact HO3, HB3⟩
        case measure => simp [Go.RowKit.intOf]; omega
    · have hlt' : ¬ (k : Int) < (len : Int) := by omega
      have HV : Hid (OwnZ wr w.heap.size u5 (lessL l n)) := by
        have := HO.out
        rw [List.take_of_length_le (by rw [H.out.len_eq]; omega)] at this
        exact this
      go_wp2_with fail
      go_ret
      exact ⟨⟨_, rfl, HV.out⟩, HB.out⟩
end Go.Proofs.YtdeoankmmolebaaGreat
