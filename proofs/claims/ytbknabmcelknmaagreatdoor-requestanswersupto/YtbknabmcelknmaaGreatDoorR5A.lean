/- request: Answer. -/
import Derived.Test.YtbknabmcelknmaaGreatDoorJ34
import Derived.Test.YtbknabmcelknmaaGreatDoorShelf5
import Derived.Deep.CutRange
namespace Go.Proofs.YtbknabmcelknmaaGreatDoor
open Go.RowKit Go.Shelf Go.Sort Go.Lib

theorem below_grow (w : World) (q : Nat) (os : Array Obj) : Below w.heap.size w (grow (w.drewN q) os) :=
  ⟨rfl, rfl, rfl, by show w.heap.size ≤ ((w.drewN q).heap ++ os).size; rw [Array.size_append]; exact Nat.le_add_right _ _, fun k hk => by
    show ((w.drewN q).heap ++ os)[k]? = _
    rw [Array.getElem?_append_left (by exact hk)]; rfl⟩
theorem codItoa (k : Nat) (w : World) (hk : k ≤ 9223372036854775807) (htab : Lib.TabIs Tryz.prog w "internal/strconv.uint64pow10" .u64 Lib.pow10Tab) :
    Calls Tryz.prog 42 #[.int .i64 (k : Int)] w fun e w' => e = .returned (.string (str (digitsL k))) ∧ Below w.heap.size w w' := by
  refine (Tryz.strconv_Itoa (k : Int) (by omega) (by omega) w htab).mono ?_
  rintro e w' ⟨rfl, q, os, rfl⟩
  refine ⟨?_, below_grow _ _ _⟩
  rw [Lib.itoa_nonneg, dec_digits]; rfl
theorem isP_one {w : World} {B : Nat} {e : TypeId} (n1 n2 : List UInt8) (hb : w.heap[B]? = some (.cells #[.string (str n1), .string (str n2)] e (0, 0))) : IsP w (some ⟨B, 0, none⟩) 1 1 [(n1, n2)] := by
  obtain ⟨a, cap, e1, h⟩ := isPV_one n1 n2 hb
  simp only [Value.slice.injEq] at e1
  obtain ⟨rfl, -, rfl⟩ := e1
  exact h
theorem answer_parts (st : Int) (hs : List Pr) (b : List UInt8) : answerL st hs b = http11 ++ [32] ++ digitsL st.toNat ++ [13, 10] ++ hlines hs ++ hlines [(ctl, digitsL b.length)] ++ [13, 10] ++ b := by
  unfold answerL ctline
  rw [hlines_one]
  unfold hline
  simp only [List.append_assoc, List.cons_append, List.nil_append]

set_option maxRecDepth 20000 in
set_option maxHeartbeats 300000 in
theorem codAnswer (st : Int) (hst : -9223372036854775808 ≤ st ∧ st ≤ 9223372036854775807) (a : Option Addr) (n cap : Nat) (hs : List Pr) (ba : Option Addr) (bn bc : Nat) (b : List UInt8) (w : World) (h : IsP w a n cap hs) (hb : IsB w ba bn bc b) (hbn : bn ≤ 100000000) (hsz : (hlines hs).length ≤ 100000000000000) (hE : Env w) :
    Calls Tryz.prog 22 #[.int .i64 st, .slice a n cap, .slice ba bn bc] w fun e w' => ∃ v, e = .returned v ∧ OwnX w' w.heap.size v (answerL st hs b) ∧ Below w.heap.size w w' := by
  have HI : ∀ (k : Nat) W, k ≤ 9223372036854775807 → Below w.heap.size w W → Calls Tryz.prog 42 #[.int .i64 (k : Int)] W fun e w' => e = .returned (.string (str (digitsL k))) ∧ Below W.heap.size W w' := fun k W hk hW => codItoa k W hk (hE.below hW).tab
  rw [answer_parts]
  have em : max st 0 = ((st.toNat : Nat) : Int) := by omega
  have d1 := digitsL_len20 st.toNat (by omega)
  have d2 := digitsL_len20 b.length (by have := hb.len_eq; omega)
  have HI1 : Calls Tryz.prog 42 #[.int .i64 (max st 0)] w fun e w' => e = .returned (.string (str (digitsL st.toNat))) ∧ Below w.heap.size w w' := by rw [em]; exact HI _ w (by omega) (Below.refl _ w)
  have HLb := hb.len_eq
  have HI2 : ∀ W, Below w.heap.size w W → Calls Tryz.prog 42 #[.int .i64 (bn : Int)] W fun e w' => e = .returned (.string (str (digitsL b.length))) ∧ Below W.heap.size W w' := fun W hW => by rw [HLb]; exact HI bn W (by omega) hW
  generalize digitsL st.toNat = ds at *
  generalize digitsL b.length = dl at *
  have hz1 : ¬ 9223372036854775807 < 9 + (str ds).size := by rw [str_size]; omega
  have hz2 : ¬ 9223372036854775807 < 9 + (str ds).size + 2 := by rw [str_size]; omega
  have HS : Hid ((⟨#[72, 84, 84, 80, 47, 49, 46, 49, 32]⟩ : ByteArray) ++ str ds ++ ⟨#[13, 10]⟩ = str (http11 ++ [32] ++ ds ++ [13, 10])) := by
    unfold Hid
    rw [show (⟨#[72, 84, 84, 80, 47, 49, 46, 49, 32]⟩ : ByteArray) = str (http11 ++ [32]) from rfl, show (⟨#[13, 10]⟩ : ByteArray) = str [13, 10] from rfl, str_append2, str_append2]
  have hl0 : (http11 ++ [32] ++ ds ++ [13, 10]).length = ds.length + 11 := by unfold http11; simp only [List.length_append, List.length_cons, List.length_nil]; omega
  have hl1 : (hlines [(ctl, dl)]).length = dl.length + 18 := by rw [hlines_one]; unfold hline ctl; simp only [List.length_append, List.length_cons, List.length_nil]; omega
  generalize hh0 : http11 ++ [32] ++ ds ++ [13, 10] = h0 at *
  clear hh0
  clear em HI
  have HW : Hid (∀ W, Below w.heap.size w W → OwnX (Lib.bytesWorld W 5 (str h0)) w.heap.size (.slice (some ⟨W.heap.size, 0, none⟩) (str h0).size (grownCap W (str h0).size 0 5)) h0 ∧ Below w.heap.size w (Lib.bytesWorld W 5 (str h0))) := fun W hW => by
    have hO := conv_str_ownX W (str h0) (by rw [str_size]; unfold maxLen; omega) w.heap.size hW.size
    rw [sL_str] at hO
    exact ⟨hO, hW.trans ((conv_str_bel W (str h0)).mono hW.size)⟩
  have HP : Hid (∀ W, Below w.heap.size w W → IsP W a n cap hs) := fun W hW => h.below hW rfl
  have HAp : Hid (∀ W v (l : List UInt8), Below w.heap.size w W → OwnX W w.heap.size v l → 0 < n → ∀ b off, a = some ⟨b, off, none⟩ → b < W.heap.size ∧ v.ownBlock ≠ some b) := fun W v l hW ho h0 b' off' e => by
    obtain ⟨b1, o1, e1, hc⟩ := h.cells h0
    rw [e] at e1
    have e2 : b' = b1 := by have := Option.some.inj e1; injection this
    have hb2 : b1 < w.heap.size := cell_lt (hc 0 h0).1
    exact ⟨by have := hW.size; omega, fun k => by have := (ho.blk b' k).1; omega⟩
  have HB : Hid (∀ W, Below w.heap.size w W → IsB W ba bn bc b) := fun W hW => hb.below hW rfl
  have HS1 : ∀ W v, Below w.heap.size w W → OwnX W w.heap.size v h0 → Calls Tryz.prog 43 #[v, .slice a n cap] W fun e w' => ∃ v', e = .returned v' ∧ OwnX w' w.heap.size v' (h0 ++ hlines hs) ∧ Below w.heap.size W w' := fun W v hW ho => codShowHs w.heap.size v h0 a n cap hs W (HP.out W hW) ho hW.size (HAp.out W v h0 hW ho) (by omega)
  have HS2 : ∀ W v B, Below w.heap.size w W → OwnX W w.heap.size v (h0 ++ hlines hs) → IsP W (some ⟨B, 0, none⟩) 1 1 [(ctl, dl)] → (B < W.heap.size ∧ v.ownBlock ≠ some B) → Calls Tryz.prog 43 #[v, .slice (some ⟨B, 0, none⟩) 1 1] W fun e w' => ∃ v', e = .returned v' ∧ OwnX w' w.heap.size v' (h0 ++ hlines hs ++ hlines [(ctl, dl)]) ∧ Below w.heap.size W w' := fun W v B hW ho hi hB => codShowHs w.heap.size v (h0 ++ hlines hs) (some ⟨B, 0, none⟩) 1 1 [(ctl, dl)] W hi ho hW.size (fun _ b' off' e => by have e := Option.some.inj e; injection e with e1; subst e1; exact hB) (by rw [List.length_append]; omega)
  have HLX : Hid ((h0 ++ hlines hs ++ hlines [(ctl, dl)]).length + 2 ≤ 140737488355328) := by unfold Hid; rw [List.length_append, List.length_append]; omega
  have HLY : Hid ((h0 ++ hlines hs ++ hlines [(ctl, dl)] ++ [13, 10]).length + b.length ≤ 140737488355328) := by unfold Hid; rw [List.length_append, List.length_append, List.length_append]; simp only [List.length_cons, List.length_nil]; omega
  clear h hb
  generalize hlines [(ctl, dl)] = h2 at *
  generalize hlines hs = h1 at *
  go_enter Tryz.func22, Tryz.ntmps22
  go_upto_region 2 with (go_at_call 42; refine HI1.mono ?_; rintro e w1 ⟨rfl, hb1⟩; have hcv := conv_str w1 (⟨#[72, 84, 84, 80, 47, 49, 46, 49, 32]⟩ ++ str ds ++ ⟨#[13, 10]⟩ : ByteArray); obtain ⟨ho1, hbb1⟩ := HW.out _ hb1; rw [← HS.out] at ho1 hbb1; generalize Lib.bytesWorld w1 5 (⟨#[72, 84, 84, 80, 47, 49, 46, 49, 32]⟩ ++ str ds ++ ⟨#[13, 10]⟩ : ByteArray) = wB at *; generalize grownCap w1 (⟨#[72, 84, 84, 80, 47, 49, 46, 49, 32]⟩ ++ str ds ++ ⟨#[13, 10]⟩ : ByteArray).size 0 5 = gc at *; generalize (⟨#[72, 84, 84, 80, 47, 49, 46, 49, 32]⟩ ++ str ds ++ ⟨#[13, 10]⟩ : ByteArray).size = sz at *)
  clear HI1 hcv HW HS
  have HS1' := HS1 _ _ hbb1 ho1
  clear HS1
  go_upto_region 3 with (go_at_call 43; refine HS1'.mono ?_; rintro e w3 ⟨v3, rfl, ho3, hb3⟩)
  have hbb3 := hbb1.trans hb3
  clear HS1' ho1
  go_upto_region 4 with (first | (go_at_call 42; refine (HI2 _ hbb3).mono ?_; rintro e w4 ⟨rfl, hb4⟩; have hbb4 := hbb3.trans (hb4.mono hbb3.size); have ho4 := ho3.on hb4; have ho5 := ho4.alloc (.cells #[.string ⟨#[99, 111, 110, 116, 101, 110, 116, 45, 108, 101, 110, 103, 116, 104]⟩, .string (str dl)] 73); have hbb5 := hbb4.alloc hbb4.size (.cells #[.string ⟨#[99, 111, 110, 116, 101, 110, 116, 45, 108, 101, 110, 103, 116, 104]⟩, .string (str dl)] 73); have hp5 : IsP (w4.alloc (.cells #[.string ⟨#[99, 111, 110, 116, 101, 110, 116, 45, 108, 101, 110, 103, 116, 104]⟩, .string (str dl)] 73)) (some ⟨w4.heap.size, 0, none⟩) 1 1 [(ctl, dl)] := isP_one ctl dl (heap_alloc_new w4 _)) | (go_at_call 43; refine (HS2 _ _ _ hbb5 ho5 hp5 ⟨by simp, fun k => by have := (ho4.blk _ k).2; omega⟩).mono ?_; rintro e w6 ⟨v6, rfl, ho6, hb6⟩; have hbb6 := hbb5.trans hb6))
  go_wp2_with (at_builtin; first | (have hmk := ho7; refine list_appXs _ rfl (.tmp 25) (.tmp 26) 22 rfl w.heap.size v7 _ rfl ho7 _ b rfl (src_isB _ _ _ _ b (HB.out _ hbb7)) HLY.out hbb7.size ?_; intro v8 w8 ho8 hg8 hat8) | (refine list_appXs _ rfl (.tmp 24) _ 9 rfl w.heap.size v6 _ rfl ho6 _ [13, 10] rfl (src_lits _ _ _ rfl) HLX.out hbb6.size ?_; intro v7 w7 ho7 hg7 hat7; have hbb7 := ho6.grown_bel hbb6 hbb6.size hg7))
  go_ret
  exact ⟨v8, rfl, ho8, ho7.grown_bel hbb7 hbb7.size hg8⟩
end Go.Proofs.YtbknabmcelknmaaGreatDoor
