/- request: the bytes ahead of a body. Plain facts: both sides take the same texts for numbers. -/
import Derived.Test.YtbknabmcelknmaaGreatDoorJ33
import Derived.Test.YtbknabmcelknmaaGreatDoorReq5
import Derived.Test.YtbknabmcelknmaaGreatDoorJ5
namespace Go.Proofs.YtbknabmcelknmaaGreatDoor
open Go.RowKit

theorem sL_append2 (a b : ByteArray) : sL (a ++ b) = sL a ++ sL b := by
  obtain ⟨a⟩ := a
  obtain ⟨b⟩ := b
  unfold sL; rw [ByteArray.mk_append_mk]
theorem size_sL (s : ByteArray) : s.size = (sL s).length := (sL_length s).symm
/-- the bytes ahead of a body, without its end -/
def head1 (r : Rq) : List UInt8 := r.m ++ [32] ++ targL r ++ [32] ++ http11 ++ [13, 10]
def headR (r : Rq) : List UInt8 := head1 r ++ hlines r.hs ++ [13, 10]
theorem rtext_head (r : Rq) : rtext r = headR r ++ r.b := by unfold rtext headR head1; simp only [List.append_assoc]
theorem src_lits (x : World) (s : ByteArray) (l : List UInt8) (h : s = str l) : Src Tryz.prog 1 9 (.string s) l.length (bv l) x := by
  subst h
  have := src_str x (str l)
  rwa [sL_str] at this

set_option maxRecDepth 20000 in
set_option maxHeartbeats 800000 in
theorem codHead (m p q : List UInt8) (a : Option Addr) (n cap : Nat) (hs : List Pr) (bv : Value) (b : List UInt8) (w : World) (h : IsP w a n cap hs) (hm : m.length ≤ 1000000) (hp : p.length ≤ 1000000) (hq : q.length ≤ 1000000) (hsz : (hlines hs).length ≤ 100000000000000) :
    Calls Tryz.prog 35 #[.agg #[.string (str m), .string (str p), .string (str q), .slice a n cap, bv]] w fun e w' => ∃ v, e = .returned v ∧ OwnX w' w.heap.size v (headR ⟨m, p, q, hs, b⟩) ∧ Below w.heap.size w w' := by
  have T0 : Below w.heap.size w (w.alloc (.cells #[.string (str m), .string (str p), .string (str q), .slice a n cap, bv] 25)) := (Below.refl _ w).alloc (Nat.le_refl _) _
  have K0 := Blk.newAt w w.heap.size 25 _ [.string (str m), .string (str p), .string (str q), .slice a n cap, bv] rfl rfl
  have hz0 : ¬ 9223372036854775807 < 1 + (str q).size := by rw [str_size]; omega
  have hz1 : ¬ 9223372036854775807 < (str p).size + (1 + (str q).size) := by rw [str_size, str_size]; omega
  have hz2 : ¬ 9223372036854775807 < (str m).size + 1 := by rw [str_size]; omega
  have hr : headR ⟨m, p, q, hs, b⟩ = head1 ⟨m, p, q, hs, b⟩ ++ hlines hs ++ [13, 10] := rfl
  rw [hr]
  clear hr
  generalize hT : targL ⟨m, p, q, hs, b⟩ = t
  have ht : t.length ≤ 2000001 := by
    rw [← hT]; unfold targL; dsimp only
    by_cases h0 : q = []
    · rw [if_pos h0]; omega
    · rw [if_neg h0]; simp only [List.length_append, List.length_cons, List.length_nil]; omega
  have hh : head1 ⟨m, p, q, hs, b⟩ = m ++ [32] ++ t ++ [32] ++ http11 ++ [13, 10] := by unfold head1; rw [hT]
  rw [hh]
  have hl : (m ++ [32] ++ t ++ [32] ++ http11 ++ [13, 10]).length = m.length + t.length + 12 := by unfold http11; simp only [List.length_append, List.length_cons, List.length_nil]; omega
  have hz3 : ¬ 9223372036854775807 < (str m).size + 1 + (str t).size := by rw [str_size, str_size]; omega
  have hz4 : ¬ 9223372036854775807 < (str m).size + 1 + (str t).size + 1 := by rw [str_size, str_size]; omega
  have hz5 : ¬ 9223372036854775807 < (str m).size + 1 + (str t).size + 1 + 8 := by rw [str_size, str_size]; omega
  have hz6 : ¬ 9223372036854775807 < (str m).size + 1 + (str t).size + 1 + 8 + 2 := by rw [str_size, str_size]; omega
  have HS : Hid (str m ++ ⟨#[32]⟩ ++ str t ++ ⟨#[32]⟩ ++ ⟨#[72, 84, 84, 80, 47, 49, 46, 49]⟩ ++ ⟨#[13, 10]⟩ = str (m ++ [32] ++ t ++ [32] ++ http11 ++ [13, 10])) := by
    unfold Hid
    rw [show (⟨#[32]⟩ : ByteArray) = str [32] from rfl, show (⟨#[72, 84, 84, 80, 47, 49, 46, 49]⟩ : ByteArray) = str http11 from rfl, show (⟨#[13, 10]⟩ : ByteArray) = str [13, 10] from rfl, str_append2, str_append2, str_append2, str_append2, str_append2]
  have HH : ∀ W, Below w.heap.size w W → Calls Tryz.prog 43 #[.slice (some ⟨W.heap.size, 0, none⟩) (str (m ++ [32] ++ t ++ [32] ++ http11 ++ [13, 10])).size (grownCap W (str (m ++ [32] ++ t ++ [32] ++ http11 ++ [13, 10])).size 0 5), .slice a n cap] (Lib.bytesWorld W 5 (str (m ++ [32] ++ t ++ [32] ++ http11 ++ [13, 10]))) fun e w' => ∃ v', e = .returned v' ∧ OwnX w' w.heap.size v' (m ++ [32] ++ t ++ [32] ++ http11 ++ [13, 10] ++ hlines hs) ∧ Below w.heap.size w w' := fun W hW => by
    have hB := hW.trans ((conv_str_bel W (str (m ++ [32] ++ t ++ [32] ++ http11 ++ [13, 10]))).mono hW.size)
    have hsx : (str (m ++ [32] ++ t ++ [32] ++ http11 ++ [13, 10])).size ≤ maxLen := by rw [str_size]; unfold maxLen; omega
    have hO := conv_str_ownX W (str (m ++ [32] ++ t ++ [32] ++ http11 ++ [13, 10])) hsx w.heap.size hW.size
    rw [sL_str] at hO
    have := codShowHs w.heap.size _ _ a n cap hs _ (h.below hB rfl) hO hB.size (fun h0 b' off' e => ?_) (by rw [hl]; omega)
    · refine this.mono ?_
      rintro e w' ⟨v', rfl, ho, hb⟩
      exact ⟨v', rfl, ho, hB.trans hb⟩
    · obtain ⟨b1, o1, e1, hc⟩ := h.cells h0
      rw [e] at e1
      have e2 : b' = b1 := by have := Option.some.inj e1; injection this
      have hb1 := cell_lt (hc 0 h0).1
      have hb2 : b1 < w.heap.size := hb1
      refine ⟨by have := hB.size; omega, fun k => ?_⟩
      have k1 : W.heap.size = b' := by simpa [Value.ownBlock] using k
      have := hW.size
      omega
  have hcv := conv_str (w.alloc (.cells #[.string (str m), .string (str p), .string (str q), .slice a n cap, bv] 25)) (str m ++ ⟨#[32]⟩ ++ str t ++ ⟨#[32]⟩ ++ ⟨#[72, 84, 84, 80, 47, 49, 46, 49]⟩ ++ ⟨#[13, 10]⟩)
  have HH0 := HH _ T0
  rw [← HS.out] at HH0
  have KB := K0.on (conv_str_bel (w.alloc (.cells #[.string (str m), .string (str p), .string (str q), .slice a n cap, bv] 25)) (str m ++ ⟨#[32]⟩ ++ str t ++ ⟨#[32]⟩ ++ ⟨#[72, 84, 84, 80, 47, 49, 46, 49]⟩ ++ ⟨#[13, 10]⟩))
  have eB : (w.alloc (.cells #[.string (str m), .string (str p), .string (str q), .slice a n cap, bv] 25)).heap.size = w.heap.size + 1 := by simp
  rw [eB] at hcv HH0
  generalize hWB : Lib.bytesWorld (w.alloc (.cells #[.string (str m), .string (str p), .string (str q), .slice a n cap, bv] 25)) 5 (str m ++ ⟨#[32]⟩ ++ str t ++ ⟨#[32]⟩ ++ ⟨#[72, 84, 84, 80, 47, 49, 46, 49]⟩ ++ ⟨#[13, 10]⟩) = WB at *
  generalize hgc : grownCap (w.alloc (.cells #[.string (str m), .string (str p), .string (str q), .slice a n cap, bv] 25)) (str m ++ ⟨#[32]⟩ ++ str t ++ ⟨#[32]⟩ ++ ⟨#[72, 84, 84, 80, 47, 49, 46, 49]⟩ ++ ⟨#[13, 10]⟩).size 0 5 = gc at *
  generalize hsq : (str m ++ ⟨#[32]⟩ ++ str t ++ ⟨#[32]⟩ ++ ⟨#[72, 84, 84, 80, 47, 49, 46, 49]⟩ ++ ⟨#[13, 10]⟩ : ByteArray).size = sz at *
  clear hWB HH HS hgc hsq eB
  have kb3 : WB.cell? ⟨w.heap.size, 3, none⟩ = some (.slice a n cap) := KB.cell 3
  have HLX : Hid ((m ++ [32] ++ t ++ [32] ++ http11 ++ [13, 10] ++ hlines hs).length + 2 ≤ 140737488355328) := by unfold Hid; rw [List.length_append, hl]; omega
  generalize (m ++ [32] ++ t ++ [32] ++ http11 ++ [13, 10] ++ hlines hs) = hd at *
  have em : (str q).toList.isEmpty = decide (q = []) := by
    rw [str_toList]; cases q <;> simp
  by_cases h0 : q = []
  · rw [decide_eq_true h0] at em
    have ht0 : t = p := by rw [← hT]; unfold targL; rw [if_pos h0]
    subst ht0
    clear hT h0 hh hl h hm hp hq hsz ht K0 KB
    generalize str m = sm at *
    generalize str t = sp at *
    generalize str q = sq at *
    go_enter Tryz.func35, Tryz.ntmps35
    go_wp2_with (first | (go_at_call 43; refine HH0.mono ?_; rintro e w1 ⟨v1, rfl, ho1, hb1⟩) | (at_builtin; refine list_appXs _ rfl (.tmp 27) _ 9 rfl w.heap.size v1 hd rfl ho1 _ [13, 10] rfl (src_lits _ _ _ rfl) HLX.out hb1.size ?_; intro v2 w2 ho2 hg2 hat2))
    go_ret
    exact ⟨v2, rfl, ho2, ho1.grown_bel hb1 hb1.size hg2⟩
  · rw [decide_eq_false h0] at em
    have ht0 : str p ++ (⟨#[63]⟩ ++ str q) = str t := by rw [← hT]; unfold targL; rw [if_neg h0, show (⟨#[63]⟩ : ByteArray) = str [63] from rfl, str_append2, str_append2, List.append_assoc]
    clear hT h0 hh hl h hm hp hq hsz ht K0 KB
    generalize str m = sm at *
    generalize str t = st at *
    generalize str p = sp at *
    generalize str q = sq at *
    go_enter Tryz.func35, Tryz.ntmps35
    go_wp2_with (first | (go_at_call 43; refine HH0.mono ?_; rintro e w1 ⟨v1, rfl, ho1, hb1⟩) | (at_builtin; refine list_appXs _ rfl (.tmp 27) _ 9 rfl w.heap.size v1 hd rfl ho1 _ [13, 10] rfl (src_lits _ _ _ rfl) HLX.out hb1.size ?_; intro v2 w2 ho2 hg2 hat2))
    go_ret
    exact ⟨v2, rfl, ho2, ho1.grown_bel hb1 hb1.size hg2⟩
end Go.Proofs.YtbknabmcelknmaaGreatDoor
namespace Go.Proofs.YtbknabmcelknmaaGreatDoor

theorem parseUM_ok (l : List UInt8) : ∀ (acc : Nat), (∀ c ∈ l, isD c = true) → l.foldl (fun n c => n * 10 + vD c) acc ≤ 18446744073709551615 → Lib.parseUintM 18446744073709551615 acc l = .ok (l.foldl (fun n c => n * 10 + vD c) acc) := by
  induction l with
  | nil => intro acc _ _; rfl
  | cons c r ih =>
    intro acc h hv
    have hc := h c (List.mem_cons_self ..)
    unfold isD at hc
    simp only [Bool.and_eq_true, decide_eq_true_eq] at hc
    have hg := val_from r (acc * 10 + vD c)
    rw [List.foldl_cons] at hv ⊢
    have hd : vD c = c.toNat - 48 := rfl
    rw [Lib.parseUintM, if_pos hc, if_neg (by omega), if_neg (by omega), ← hd]
    exact ih _ (fun x hx => h x (List.mem_cons_of_mem _ hx)) hv
theorem parse_ok {l : List UInt8} {most : Nat} (hm : most < 18446744073709551616) (h : NumOk l most) : Lib.parseUintB 64 l = .ok (valL l) := by
  unfold Lib.parseUintB
  rw [if_neg (by intro e; have := h.1; rw [e] at this; simp at this)]
  exact parseUM_ok l 0 h.2.2.2.1 (by have := h.2.2.2.2; unfold valL at this; omega)
theorem vD_lt {c : UInt8} (h : isD c = true) : vD c < 10 ∧ dgB (vD c) = c := by
  unfold isD at h
  simp only [Bool.and_eq_true, decide_eq_true_eq] at h
  have hd : vD c = c.toNat - 48 := rfl
  refine ⟨by omega, UInt8.toNat_inj.1 ?_⟩
  rw [dgB_val, hd]
  omega
theorem dgB_mod (n : Nat) : dgB n = dgB (n % 10) := UInt8.toNat_inj.1 (by rw [dgB_val, dgB_val]; omega)
theorem val_pos {l : List UInt8} (h0 : 1 ≤ l.length) (hd : ∀ c ∈ l, isD c = true) (hz : ¬ nth l 0 = 48) : 1 ≤ valL l := by
  cases l with
  | nil => simp at h0
  | cons c r =>
    have hc : isD c = true := hd c (List.mem_cons_self ..)
    have hn : ¬ c = 48 := hz
    unfold valL
    rw [List.foldl_cons]
    have hg := val_from r (0 * 10 + vD c)
    unfold isD at hc
    simp only [Bool.and_eq_true, decide_eq_true_eq] at hc
    have h48 : ¬ c.toNat = 48 := fun e => hn (UInt8.toNat_inj.1 e)
    have hv : vD c = c.toNat - 48 := rfl
    omega
theorem digits_val (l : List UInt8) : 1 ≤ l.length → (1 < l.length → ¬ nth l 0 = 48) → (∀ c ∈ l, isD c = true) → digitsL (valL l) = l := by
  refine snoc_ind (P := fun l => 1 ≤ l.length → (1 < l.length → ¬ nth l 0 = 48) → (∀ c ∈ l, isD c = true) → digitsL (valL l) = l) ?_ ?_ l
  · intro h; simp at h
  · intro l c ih _ hz hd
    obtain ⟨hc1, hc2⟩ := vD_lt (hd c (List.mem_append_right _ (List.mem_singleton.2 rfl)))
    rw [valL_snoc]
    by_cases hl : l = []
    · subst hl
      have : valL [] = 0 := rfl
      rw [this, Nat.zero_mul, Nat.zero_add, digitsL_small hc1, hc2]; rfl
    · have hlen : 1 ≤ l.length := List.length_pos_iff.2 hl
      have hn0 : nth (l ++ [c]) 0 = nth l 0 := by
        cases l with
        | nil => exact absurd rfl hl
        | cons x r => rfl
      have hz' : ¬ nth l 0 = 48 := by rw [← hn0]; exact hz (by simp; omega)
      have hd' : ∀ x ∈ l, isD x = true := fun x hx => hd x (List.mem_append_left _ hx)
      have hp := val_pos hlen hd' hz'
      rw [digitsL_big (by omega), show (valL l * 10 + vD c) / 10 = valL l by omega, ih hlen (fun _ => hz') hd', dgB_mod, show (valL l * 10 + vD c) % 10 = vD c by omega, hc2]
theorem dec_digits (u : Nat) : Lib.decDigits u = digitsL u := by
  induction u using Nat.strongRecOn with
  | _ u ih =>
    rw [Lib.decDigits]
    by_cases h : u < 10
    · rw [dif_pos h, digitsL_small h]
      unfold dgB
      rw [Nat.mod_eq_of_lt h]
    · rw [dif_neg h, digitsL_big h, ih (u / 10) (by omega)]; rfl
theorem num_same (l : List UInt8) (most : Nat) (hm : most < 18446744073709551616) : numCV l most = numV l most ∧ numCE l most = numE l most := by
  by_cases h : NumOk l most
  · have h1 := parse_ok hm h
    have h2 := digits_val l h.1 h.2.2.1 h.2.2.2.1
    have h3 : numC l most = some (valL l) := by unfold numC; rw [h1]; simp only [dec_digits, h2, h.2.2.2.2, true_and, if_true]
    obtain ⟨e1, e2⟩ := num_yes h
    unfold numCV numCE
    rw [h3, e1, e2]; exact ⟨rfl, rfl⟩
  · have h3 : numC l most = none := by
      unfold numC
      cases hp : Lib.parseUintB 64 l with
      | ok u =>
        simp only
        rw [if_neg]
        rintro ⟨a, b⟩
        rw [dec_digits] at b
        exact h (by rw [← b]; exact num_digits u most a hm)
      | «syntax» => rfl
      | range => rfl
    obtain ⟨e1, e2⟩ := num_no h
    unfold numCV numCE
    rw [h3, e1, e2]; exact ⟨rfl, rfl⟩
end Go.Proofs.YtbknabmcelknmaaGreatDoor
