/- What sigv4.ShowAuth answers, of longer parts. -/
import Derived.Test.YtgjmaeodgcigdaaGreatDoorB30
namespace Go.Proofs.YtgjmaeodgcigdaaGreatDoor
open Go.RowKit

set_option maxRecDepth 20000 in
set_option maxHeartbeats 2000000 in
theorem codShowAuthB (ac dt sg : List UInt8) (ta : Option Addr) (tn tc : Nat) (ts : List (List UInt8)) (w : World) (hT : IsT w ta tn tc ts) (zn : tn ≤ 1000) (zt : ∀ i, i < ts.length → (nthT ts i).length ≤ 2000000) (za : ac.length ≤ 2000000) (zd : dt.length ≤ 2000000) (zs : sg.length ≤ 2000000) :
    Calls Tryz.prog 22 #[.agg #[.string (str ac), .string (str dt), .slice ta tn tc, .string (str sg)]] w fun e w' => e = .returned (.string (str (authL ac dt ts sg))) ∧ Below w.heap.size w w' := by
  have T0 : Below w.heap.size w (w.alloc (.cells #[.string (str ac), .string (str dt), .slice ta tn tc, .string (str sg)] 46)) := (Below.refl _ w).alloc (Nat.le_refl _) _
  have K0 := Blk.newAt w w.heap.size 46 _ [.string (str ac), .string (str dt), .slice ta tn tc, .string (str sg)] rfl rfl
  have c0 := K0.cell 0
  have c1 := K0.cell 1
  have c2 := K0.cell 2
  have c3 := K0.cell 3
  have HSc := fun W => codScope dt W (by omega)
  have ha : (str ac).size ≤ 2000000 := by rw [str_size]; exact za
  have hs : (str sg).size ≤ 2000000 := by rw [str_size]; exact zs
  have hd : (str (scopeL dt)).size ≤ 2000022 := by rw [str_size]; unfold scopeL; rw [List.length_append, show sScope.length = 22 from rfl]; omega
  have hj : (str (joinS [59] ts)).size ≤ 2000001000 := by
    rw [str_size]
    have l5 := joinTo_le [59] ts 2000000 zt ts.length (Nat.le_refl _)
    have h3 : ([59] : List UInt8).length = 1 := rfl
    rw [h3] at l5
    have hn := hT.len_eq
    have l5' : ts.length * (2000000 + 1) ≤ 1000 * (2000000 + 1) := Nat.mul_le_mul_right _ (by omega)
    unfold joinS; omega
  have HJ : ∀ W, Below w.heap.size w W → Calls Tryz.prog 37 #[.slice ta tn tc, .string ⟨#[59]⟩] W fun e w' => e = .returned (.string (str (joinS [59] ts))) ∧ Below W.heap.size W w' := fun W hW => codJoinT [59] ta tn tc ts W (hT.below hW rfl) zn (by rw [str_size] at hj; omega)
  have HTx : Hid ((⟨#[65, 87, 83, 52, 45, 72, 77, 65, 67, 45, 83, 72, 65, 50, 53, 54, 32, 67, 114, 101, 100, 101, 110, 116, 105, 97, 108, 61]⟩ : ByteArray) ++ str ac ++ ⟨#[47]⟩ ++ str (scopeL dt) ++ ⟨#[44, 32, 83, 105, 103, 110, 101, 100, 72, 101, 97, 100, 101, 114, 115, 61]⟩ ++ str (joinS [59] ts) ++ ⟨#[44, 32, 83, 105, 103, 110, 97, 116, 117, 114, 101, 61]⟩ ++ str sg = str (authL ac dt ts sg)) := by
    unfold Hid
    rw [show (⟨#[65, 87, 83, 52, 45, 72, 77, 65, 67, 45, 83, 72, 65, 50, 53, 54, 32, 67, 114, 101, 100, 101, 110, 116, 105, 97, 108, 61]⟩ : ByteArray) = str sCred from rfl, show (⟨#[47]⟩ : ByteArray) = str [47] from rfl, show (⟨#[44, 32, 83, 105, 103, 110, 101, 100, 72, 101, 97, 100, 101, 114, 115, 61]⟩ : ByteArray) = str sSigned from rfl, show (⟨#[44, 32, 83, 105, 103, 110, 97, 116, 117, 114, 101, 61]⟩ : ByteArray) = str sSignat from rfl, str_append2, str_append2, str_append2, str_append2, str_append2, str_append2, str_append2]
    rfl
  clear hT zt za zd zs zn
  generalize str ac = xa at *
  generalize str dt = xd at *
  generalize str sg = xs at *
  generalize str (scopeL dt) = xsc at *
  generalize str (joinS [59] ts) = xj at *
  have y1 : ¬ 9223372036854775807 < 28 + xa.size := by omega
  have y2 : ¬ 9223372036854775807 < 28 + xa.size + 1 := by omega
  have y3 : ¬ 9223372036854775807 < 28 + xa.size + 1 + xsc.size := by omega
  have y4 : ¬ 9223372036854775807 < 28 + xa.size + 1 + xsc.size + 16 := by omega
  have y5 : ¬ 9223372036854775807 < 28 + xa.size + 1 + xsc.size + 16 + xj.size := by omega
  have y6 : ¬ 9223372036854775807 < 28 + xa.size + 1 + xsc.size + 16 + xj.size + 12 := by omega
  have y7 : ¬ 9223372036854775807 < 28 + xa.size + 1 + xsc.size + 16 + xj.size + 12 + xs.size := by omega
  clear ha hs hd hj
  have HKP : ∀ w', Below (w.alloc (.cells #[.string xa, .string xd, .slice ta tn tc, .string xs] 46)).heap.size (w.alloc (.cells #[.string xa, .string xd, .slice ta tn tc, .string xs] 46)) w' → Below (w.alloc (.cells #[.string xa, .string xd, .slice ta tn tc, .string xs] 46)).heap.size (w.alloc (.cells #[.string xa, .string xd, .slice ta tn tc, .string xs] 46)) w' ∧ w'.cell? ⟨w.heap.size, 0, none⟩ = some (.string xa) ∧ w'.cell? ⟨w.heap.size, 1, none⟩ = some (.string xd) ∧ w'.cell? ⟨w.heap.size, 2, none⟩ = some (.slice ta tn tc) ∧ w'.cell? ⟨w.heap.size, 3, none⟩ = some (.string xs) := fun w' hb => ⟨hb, (K0.on hb).cell 0, (K0.on hb).cell 1, (K0.on hb).cell 2, (K0.on hb).cell 3⟩
  clear K0 c0 c1 c2 c3
  go_enter Tryz.func22, Tryz.ntmps22
  go_wp2
  generalize w.alloc (.cells #[.string xa, .string xd, .slice ta tn tc, .string xs] 46) = W0 at *
  go_region_held3 (fun w' => Below W0.heap.size W0 w' ∧ w'.cell? ⟨w.heap.size, 0, none⟩ = some (.string xa) ∧ w'.cell? ⟨w.heap.size, 1, none⟩ = some (.string xd) ∧ w'.cell? ⟨w.heap.size, 2, none⟩ = some (.slice ta tn tc) ∧ w'.cell? ⟨w.heap.size, 3, none⟩ = some (.string xs))
    (first | exact HKP _ ((Below.refl _ W0).drew) | assumption | (have hq0 := ‹Below _ _ _ ∧ _›; exact HKP _ (hq0.1.trans (hbx.mono hq0.1.size))))
    (first | (go_at_call 50; refine (HSc _).mono ?_; rintro e w1 ⟨rfl, hbx⟩) | (go_at_call 37; have hq0 := ‹Below _ _ _ ∧ _›; refine (HJ _ (T0.trans (hq0.1.mono T0.size))).mono ?_; rintro e w2 ⟨rfl, hbx⟩; clear hq0))
  all_goals
    have hq9 := ‹Below _ _ _ ∧ _›
    go_wp2
    go_ret
    exact ⟨ret_s HTx.out, T0.trans (hq9.1.mono T0.size)⟩

end Go.Proofs.YtgjmaeodgcigdaaGreatDoor
