/- What sigv4.ReadAuth answers. -/
import Derived.Test.YtgjmaeodgcigdaaGreatDoorB30
namespace Go.Proofs.YtgjmaeodgcigdaaGreatDoor
open Go.RowKit

theorem cut_len (l sep : List UInt8) : (cuA l sep).length ≤ l.length ∧ (cuB l sep).length ≤ l.length := by
  unfold cuA cuB Lib.cut
  split
  · exact ⟨by rw [List.length_take]; omega, by rw [List.length_drop]; omega⟩
  · exact ⟨Nat.le_refl _, Nat.zero_le _⟩
theorem splitK_len (c : List UInt8) : ∀ (k : Nat) (l : List UInt8), ∀ t ∈ Lib.splitK c 0 k l, t.length ≤ l.length := by
  intro k
  induction k with
  | zero => intro l t ht; rw [Lib.splitK, List.mem_singleton] at ht; rw [ht]; exact Nat.le_refl _
  | succ k ih =>
    intro l t ht
    rw [Lib.splitK] at ht
    split at ht
    · rw [List.mem_singleton] at ht; rw [ht]; exact Nat.le_refl _
    · rcases List.mem_cons.1 ht with h | h
      · rw [h, List.length_take]; omega
      · have := ih _ t h
        rw [List.length_drop] at this
        omega
theorem ca_len (l : List UInt8) : (caR1 l).length ≤ l.length ∧ (caAc l).length ≤ l.length ∧ (caR2 l).length ≤ l.length ∧ (caDt l).length ≤ l.length ∧ (caR3 l).length ≤ l.length ∧ (caR4 l).length ≤ l.length ∧ (caLs l).length ≤ l.length ∧ (caSg l).length ≤ l.length := by
  have h1 := cut_len l sCred
  have h2 := cut_len (caR1 l) [47]
  have h3 := cut_len (caR2 l) [47]
  have h4 := cut_len (caR3 l) sSigned
  have h5 := cut_len (caR4 l) sSignat
  have a1 : (caR1 l).length ≤ l.length := h1.2
  have a2 : (caR2 l).length ≤ (caR1 l).length := h2.2
  have a3 : (caR3 l).length ≤ (caR2 l).length := h3.2
  have a4 : (caR4 l).length ≤ (caR3 l).length := h4.2
  have b1 : (caAc l).length ≤ (caR1 l).length := h2.1
  have b2 : (caDt l).length ≤ (caR2 l).length := h3.1
  have b3 : (caLs l).length ≤ (caR4 l).length := h5.1
  have b4 : (caSg l).length ≤ (caR4 l).length := h5.2
  refine ⟨?_, ?_, ?_, ?_, ?_, ?_, ?_, ?_⟩ <;> omega

theorem codSplitN (l : List UInt8) (w : World) (hm : MxS w) (hl : l.length ≤ 1000000) :
    Calls Tryz.prog 58 #[.string (str l), .string ⟨#[59]⟩, .int .i64 25] w fun e w' => ∃ cap o, e = .returned (.slice (some ⟨w.heap.size, 0, none⟩) (Lib.splitN l [59] 25).length cap) ∧ w' = w.alloc o ∧ IsT w' (some ⟨w.heap.size, 0, none⟩) (Lib.splitN l [59] 25).length cap (Lib.splitN l [59] 25) := by
  obtain ⟨m, hm⟩ := hm
  have h := Tryz.strings_SplitN (str l) ⟨#[59]⟩ 25 m w (by rw [str_size]; omega) hm (by decide) (by decide) (by decide)
  rw [str_size] at h
  have hd : (Lib.splitB ⟨#[59]⟩ 0 (min 25 (l.length + 1) - 1) (str l)).map (·.data.toList) = Lib.splitN l [59] 25 := by
    rw [Lib.splitB_data, str_list]; rfl
  have hln : (Lib.splitB ⟨#[59]⟩ 0 (min 25 (l.length + 1) - 1) (str l)).length = (Lib.splitN l [59] 25).length := by rw [← hd, List.length_map]
  have hle := Lib.splitB_length_le ⟨#[59]⟩ 0 (min 25 (l.length + 1) - 1) (str l)
  rw [hln] at h hle
  refine h.mono ?_
  rintro e w' ⟨rfl, rfl⟩
  refine ⟨_, _, rfl, rfl, rfl, by omega, by unfold maxLen; omega, fun e => (by cases e), fun _ => ⟨w.heap.size, 0, rfl, fun i hi => ?_⟩⟩
  rw [Lib.cell_of_heap (heap_alloc_new w _) (0 + i), Nat.zero_add]
  unfold Lib.cellsOf
  have hi2 : i < (Lib.splitB ⟨#[59]⟩ 0 (min 25 (l.length + 1) - 1) (str l)).length := by rw [hln]; exact hi
  rw [List.getElem?_toArray, List.getElem?_append_left (by rw [List.length_map]; exact hi2), List.getElem?_map, List.getElem?_eq_getElem hi2]
  have e2 : nthT (Lib.splitN l [59] 25) i = ((Lib.splitB ⟨#[59]⟩ 0 (min 25 (l.length + 1) - 1) (str l))[i]).data.toList := by
    rw [nthT_eq _ i hi]
    simp only [← hd, List.getElem_map]
  rw [e2, str_of]
  rfl

set_option maxRecDepth 20000 in
set_option maxHeartbeats 4000000 in
theorem codReadAuth (l : List UInt8) (w : World) (hl : l.length ≤ 100000) (hm : MxS w) :
    Calls Tryz.prog 19 #[.string (str l)] w fun e w' =>
      (if caOk l = true then ∃ ta tc, e = .returned (.tuple #[.agg #[.string (str (caAc l)), .string (str (caDt l)), .slice ta (caTs l).length tc, .string (str (caSg l))], .int .i64 0]) ∧ IsT w' ta (caTs l).length tc (caTs l) ∧ ∀ b off, ta = some ⟨b, off, none⟩ → w.heap.size ≤ b
       else e = .returned (.tuple #[authNone, .int .i64 20])) ∧ Below w.heap.size w w' := by
  obtain ⟨z1, z2, z3, z4, z5, z6, z7, z8⟩ := ca_len l
  have zt : ∀ i, i < (caTs l).length → (nthT (caTs l) i).length ≤ 100000 := fun i hi => by
    rw [nthT_eq _ i hi]
    exact Nat.le_trans (splitK_len [59] _ (caLs l) _ (List.getElem_mem hi)) (by omega)
  have H6 : ∀ W ta tc, IsT W ta (caTs l).length tc (caTs l) → Calls Tryz.prog 59 #[.agg #[.string (str (caAc l)), .string (str (caDt l)), .slice ta (caTs l).length tc, .string (str (caSg l))]] W fun e w' => e = .returned (.bool (rightC (caAc l) (caDt l) (caTs l) (caSg l))) ∧ Below W.heap.size W w' := fun W ta tc hi => codRightAuth _ _ _ _ _ _ _ W hi (by omega) (by omega) (fun i hi => Nat.le_trans (zt i hi) (by decide)) (by omega)
  have H7 : rightC (caAc l) (caDt l) (caTs l) (caSg l) = true → ∀ W ta tc, IsT W ta (caTs l).length tc (caTs l) → Calls Tryz.prog 22 #[.agg #[.string (str (caAc l)), .string (str (caDt l)), .slice ta (caTs l).length tc, .string (str (caSg l))]] W fun e w' => e = .returned (.string (str (authL (caAc l) (caDt l) (caTs l) (caSg l)))) ∧ Below W.heap.size W w' := fun hr W ta tc hi => codShowAuth _ _ _ _ _ _ _ W hi (by have := (right_facts hr).2.2.2.2; omega) zt (by omega) (by omega) (by omega)
  have HSp : ∀ W, MxS W → Calls Tryz.prog 58 #[.string (str (caLs l)), .string ⟨#[59]⟩, .int .i64 25] W fun e w' => ∃ cap o, e = .returned (.slice (some ⟨W.heap.size, 0, none⟩) (caTs l).length cap) ∧ w' = W.alloc o ∧ IsT w' (some ⟨W.heap.size, 0, none⟩) (caTs l).length cap (caTs l) := fun W hW => codSplitN (caLs l) W hW (by omega)
  have U1 : ∀ W c, St w W l c → Calls Tryz.prog 56 #[.string ⟨#[65, 87, 83, 52, 45, 72, 77, 65, 67, 45, 83, 72, 65, 50, 53, 54, 32, 67, 114, 101, 100, 101, 110, 116, 105, 97, 108, 61]⟩, .pointer (some ⟨w.heap.size + 1, 0, none⟩)] W fun e w' => e = .returned (.string (str (cuA l sCred))) ∧ St w w' (caR1 l) c := fun W c h => codUp sCred h (by omega)
  have U2 : ∀ W c, St w W (caR1 l) c → Calls Tryz.prog 56 #[.string ⟨#[47]⟩, .pointer (some ⟨w.heap.size + 1, 0, none⟩)] W fun e w' => e = .returned (.string (str (caAc l))) ∧ St w w' (caR2 l) c := fun W c h => codUp [47] h (by omega)
  have U3 : ∀ W c, St w W (caR2 l) c → Calls Tryz.prog 56 #[.string ⟨#[47]⟩, .pointer (some ⟨w.heap.size + 1, 0, none⟩)] W fun e w' => e = .returned (.string (str (caDt l))) ∧ St w w' (caR3 l) c := fun W c h => codUp [47] h (by omega)
  have U4 : ∀ W c, St w W (caR3 l) c → Calls Tryz.prog 56 #[.string ⟨#[44, 32, 83, 105, 103, 110, 101, 100, 72, 101, 97, 100, 101, 114, 115, 61]⟩, .pointer (some ⟨w.heap.size + 1, 0, none⟩)] W fun e w' => e = .returned (.string (str (cuA (caR3 l) sSigned))) ∧ St w w' (caR4 l) c := fun W c h => codUp sSigned h (by omega)
  have U5 : ∀ W c, St w W (caR4 l) c → Calls Tryz.prog 56 #[.string ⟨#[44, 32, 83, 105, 103, 110, 97, 116, 117, 114, 101, 61]⟩, .pointer (some ⟨w.heap.size + 1, 0, none⟩)] W fun e w' => e = .returned (.string (str (caLs l))) ∧ St w w' (caSg l) c := fun W c h => codUp sSignat h (by omega)
  have HQ : ((str (authL (caAc l) (caDt l) (caTs l) (caSg l))).toList == (str l).toList) = (authL (caAc l) (caDt l) (caTs l) (caSg l) == l) := by rw [str_toList, str_toList]
  have HO : Hid (caOk l = (rightC (caAc l) (caDt l) (caTs l) (caSg l) && (authL (caAc l) (caDt l) (caTs l) (caSg l) == l))) := rfl
  have S0 : St w (((w.alloc (.cells #[.string ⟨#[]⟩, .string ⟨#[]⟩, .slice none 0 0, .string ⟨#[]⟩] 46)).alloc (.cells #[.string (str l)] 9)).alloc (.cells #[.string ⟨#[]⟩, .string ⟨#[]⟩, .slice none 0 0, .string ⟨#[]⟩] 46)) l auZ := by
    have b1 : Blk (w.alloc (.cells #[.string ⟨#[]⟩, .string ⟨#[]⟩, .slice none 0 0, .string ⟨#[]⟩] 46)) w.heap.size 46 auZ := Blk.newAt _ _ _ _ _ rfl rfl
    have b2 : Blk ((w.alloc (.cells #[.string ⟨#[]⟩, .string ⟨#[]⟩, .slice none 0 0, .string ⟨#[]⟩] 46)).alloc (.cells #[.string (str l)] 9)) (w.heap.size + 1) 9 [.string (str l)] := Blk.newAt _ _ _ _ _ (by simp) rfl
    have t1 : Below w.heap.size w ((w.alloc (.cells #[.string ⟨#[]⟩, .string ⟨#[]⟩, .slice none 0 0, .string ⟨#[]⟩] 46)).alloc (.cells #[.string (str l)] 9)) := ((Below.refl _ w).alloc (Nat.le_refl _) _).alloc (by simp) _
    refine ⟨(b1.alloc _).alloc _, b2.alloc _, Blk.newAt _ _ _ _ _ (by simp) rfl, ?_, hm.lt, t1.alloc t1.size _⟩
    exact hm.below (t1.alloc t1.size _) hm.lt
  clear zt z1 z2 z3 z4 z5 z6 z7 z8 hl hm
  generalize caOk l = ok at *
  generalize rightC (caAc l) (caDt l) (caTs l) (caSg l) = bR at *
  generalize (authL (caAc l) (caDt l) (caTs l) (caSg l) == l) = bS at *
  generalize str (authL (caAc l) (caDt l) (caTs l) (caSg l)) = xS at *
  generalize str (cuA l sCred) = y1 at *
  generalize str (cuA (caR3 l) sSigned) = y2 at *
  generalize caR1 l = r1 at *
  generalize caR2 l = r2 at *
  generalize caR3 l = r3 at *
  generalize caR4 l = r4 at *
  generalize str (caLs l) = xl at *
  generalize hxa : str (caAc l) = xa at *
  generalize hxd : str (caDt l) = xd at *
  generalize caSg l = sg at *
  generalize caTs l = ts at *
  generalize hxs : str l = s at *
  go_enter Tryz.func19, Tryz.ntmps19
  go_upto_region 4 with fail
  generalize ((w.alloc (.cells #[.string ⟨#[]⟩, .string ⟨#[]⟩, .slice none 0 0, .string ⟨#[]⟩] 46)).alloc (.cells #[.string s] 9)).alloc (.cells #[.string ⟨#[]⟩, .string ⟨#[]⟩, .slice none 0 0, .string ⟨#[]⟩] 46) = x0 at *
  go_upto_region 5 with (go_at_call 56; refine (U1 _ _ S0).mono ?_; rintro e x1 ⟨rfl, S1⟩)
  clear S0 U1
  go_upto_region 6 with (go_at_call 56; refine (U2 _ _ S1).mono ?_; rintro e x2 ⟨rfl, S2⟩; have a0 : x2.cell? ⟨w.heap.size + 1 + 1, 0, none⟩ = some (.string ⟨#[]⟩) := S2.au.cell 0; have f0 := S2.au.frozen 0)
  clear S1 U2 a0 f0
  have S3 := S2.put 0 (.string xa)
  generalize x2.setCell ⟨w.heap.size + 1 + 1, 0, none⟩ (.string xa) = x3 at *
  clear S2
  go_upto_region 7 with (go_at_call 56; refine (U3 _ _ S3).mono ?_; rintro e x4 ⟨rfl, S4⟩; have a0 : x4.cell? ⟨w.heap.size + 1 + 1, 1, none⟩ = some (.string ⟨#[]⟩) := S4.au.cell 1; have f0 := S4.au.frozen 1)
  clear S3 U3 a0 f0
  have S5 := S4.put 1 (.string xd)
  generalize x4.setCell ⟨w.heap.size + 1 + 1, 1, none⟩ (.string xd) = x5 at *
  clear S4
  go_upto_region 8 with (go_at_call 56; refine (U4 _ _ S5).mono ?_; rintro e x6 ⟨rfl, S6⟩)
  clear S5 U4
  go_upto_region 9 with (first | (go_at_call 56; refine (U5 _ _ S6).mono ?_; rintro e x7 ⟨rfl, S7⟩) | (go_at_call 58; refine (HSp _ S7.mx).mono ?_; rintro e x8 ⟨tc, ob, rfl, hx8, hi8⟩; have S8 : St w x8 sg (auZ.set 0 (.string xa) |>.set 1 (.string xd)) := (by rw [hx8]; exact S7.alloc ob); clear hx8; have a0 : x8.cell? ⟨w.heap.size + 1 + 1, 2, none⟩ = some (.slice none 0 0) := S8.au.cell 2; have f0 := S8.au.frozen 2))
  have hlt7 : w.heap.size + 1 + 1 < x7.heap.size := S7.au.lt
  have hne7 : ∀ b off, (some ⟨x7.heap.size, 0, none⟩ : Option Addr) = some ⟨b, off, none⟩ → w.heap.size + 1 + 1 < b := fun b off e => by injection e with e1; injection e1 with e2; omega
  have hne8 : ∀ b off, (some ⟨x7.heap.size, 0, none⟩ : Option Addr) = some ⟨b, off, none⟩ → w.heap.size < b := fun b off e => by have := hne7 b off e; omega
  clear S6 U5 a0 f0 S7 HSp
  have S9 := S8.put 2 (.slice (some ⟨x7.heap.size, 0, none⟩) ts.length tc)
  have hi9 := hi8.other hne7 2 (.slice (some ⟨x7.heap.size, 0, none⟩) ts.length tc)
  generalize hx9 : x8.setCell ⟨w.heap.size + 1 + 1, 2, none⟩ (.slice (some ⟨x7.heap.size, 0, none⟩) ts.length tc) = x9 at *
  have l9 : x9.cell? ⟨w.heap.size + 1, 0, none⟩ = some (.string (str sg)) := S9.left.cell 0
  have a9 : x9.cell? ⟨w.heap.size + 1 + 1, 3, none⟩ = some (.string ⟨#[]⟩) := S9.au.cell 3
  have f9 := S9.au.frozen 3
  clear S8 hi8 hx9
  go_upto_region 10 with fail
  have S10 := S9.put 3 (.string (str sg))
  have hi10 := hi9.other hne7 3 (.string (str sg))
  generalize x9.setCell ⟨w.heap.size + 1 + 1, 3, none⟩ (.string (str sg)) = x10 at *
  clear S9 hi9 l9 a9 f9
  have X6 : Blk x10 (w.heap.size + 1 + 1) 46 [.string xa, .string xd, .slice (some ⟨x7.heap.size, 0, none⟩) ts.length tc, .string (str sg)] := S10.au
  have K6 : Blk x10 w.heap.size 46 [.string ⟨#[]⟩, .string ⟨#[]⟩, .slice none 0 0, .string ⟨#[]⟩] := S10.res
  have T6 : Below w.heap.size w x10 := S10.bel
  clear S10
  generalize (some ⟨x7.heap.size, 0, none⟩ : Option Addr) = ta at *
  have g0 := X6.cell 0
  have g1 := X6.cell 1
  have g2 := X6.cell 2
  have g3 := X6.cell 3
  cases bR with
  | false =>
    have hok : ¬ ok = true := by rw [HO.out]; simp
    go_wp2_with (go_at_call 59; refine (H6 _ _ _ hi10).mono ?_; rintro e w7 ⟨rfl, hb7⟩; have K7 := K6.on hb7; have T7 := T6.trans (hb7.mono T6.size); have k0 := K7.cell 0; have f0 := K7.frozen 0; have k1 := K7.cell 1; have f1 := K7.frozen 1; have k2 := K7.cell 2; have f2 := K7.frozen 2; have k3 := K7.cell 3; have f3 := K7.frozen 3)
    (try simp only [Exit.inBlock, Exit.then])
    refine bodyPost_ret (results_cellrow_tmp (P := Tryz.prog) rfl _ _ w.heap.size 46 #[.string ⟨#[]⟩, .string ⟨#[]⟩, .slice none 0 0, .string ⟨#[]⟩] (0, 0) _ rfl ((((K7.set 0 (.string ⟨#[]⟩)).set 1 (.string ⟨#[]⟩)).set 2 (.slice none 0 0)).set 3 (.string ⟨#[]⟩)) Tryz.underlying46 rfl (by kernel_rfl)) rfl ⟨?_, ((((T7.setCell (p := ⟨w.heap.size, 0, none⟩) (Nat.le_refl _) (.string ⟨#[]⟩)).setCell (p := ⟨w.heap.size, 1, none⟩) (Nat.le_refl _) (.string ⟨#[]⟩)).setCell (p := ⟨w.heap.size, 2, none⟩) (Nat.le_refl _) (.slice none 0 0)).setCell (p := ⟨w.heap.size, 3, none⟩) (Nat.le_refl _) (.string ⟨#[]⟩))⟩
    first | rfl | (rw [if_neg hok]; rfl)
  | true =>
    have H7' := H7 rfl
    clear H7
    cases bS with
    | false =>
      have hok : ¬ ok = true := by rw [HO.out]; simp
      go_wp2_with (first | (go_at_call 59; refine (H6 _ _ _ hi10).mono ?_; rintro e w7 ⟨rfl, hb7⟩; have K7 := K6.on hb7; have T7 := T6.trans (hb7.mono T6.size); have X7 := X6.on hb7; have hi7 := hi10.below hb7 rfl; have h0 := X7.cell 0; have h1 := X7.cell 1; have h2 := X7.cell 2; have h3 := X7.cell 3) | (go_at_call 22; refine (H7' _ _ _ hi7).mono ?_; rintro e w8 ⟨rfl, hb8⟩; have K8 := K7.on hb8; have T8 := T7.trans (hb8.mono T7.size); have k0 := K8.cell 0; have f0 := K8.frozen 0; have k1 := K8.cell 1; have f1 := K8.frozen 1; have k2 := K8.cell 2; have f2 := K8.frozen 2; have k3 := K8.cell 3; have f3 := K8.frozen 3))
      (try simp only [Exit.inBlock, Exit.then])
      refine bodyPost_ret (results_cellrow_tmp (P := Tryz.prog) rfl _ _ w.heap.size 46 #[.string ⟨#[]⟩, .string ⟨#[]⟩, .slice none 0 0, .string ⟨#[]⟩] (0, 0) _ rfl ((((K8.set 0 (.string ⟨#[]⟩)).set 1 (.string ⟨#[]⟩)).set 2 (.slice none 0 0)).set 3 (.string ⟨#[]⟩)) Tryz.underlying46 rfl (by kernel_rfl)) rfl ⟨?_, ((((T8.setCell (p := ⟨w.heap.size, 0, none⟩) (Nat.le_refl _) (.string ⟨#[]⟩)).setCell (p := ⟨w.heap.size, 1, none⟩) (Nat.le_refl _) (.string ⟨#[]⟩)).setCell (p := ⟨w.heap.size, 2, none⟩) (Nat.le_refl _) (.slice none 0 0)).setCell (p := ⟨w.heap.size, 3, none⟩) (Nat.le_refl _) (.string ⟨#[]⟩))⟩
      first | rfl | (rw [if_neg hok]; rfl)
    | true =>
      have hok : ok = true := by rw [HO.out]; rfl
      go_wp2_with (first | (go_at_call 59; refine (H6 _ _ _ hi10).mono ?_; rintro e w7 ⟨rfl, hb7⟩; have K7 := K6.on hb7; have T7 := T6.trans (hb7.mono T6.size); have X7 := X6.on hb7; have hi7 := hi10.below hb7 rfl; have h0 := X7.cell 0; have h1 := X7.cell 1; have h2 := X7.cell 2; have h3 := X7.cell 3) | (go_at_call 22; refine (H7' _ _ _ hi7).mono ?_; rintro e w8 ⟨rfl, hb8⟩; have K8 := K7.on hb8; have T8 := T7.trans (hb8.mono T7.size); have X8 := X7.on hb8; have hi8 := hi7.below hb8 rfl; have k0 := K8.cell 0; have f0 := K8.frozen 0; have k1 := K8.cell 1; have f1 := K8.frozen 1; have k2 := K8.cell 2; have f2 := K8.frozen 2; have k3 := K8.cell 3; have f3 := K8.frozen 3; have m0 := X8.cell 0; have m1 := X8.cell 1; have m2 := X8.cell 2; have m3 := X8.cell 3))
      (try simp only [Exit.inBlock, Exit.then])
      refine bodyPost_ret (results_cellrow_tmp (P := Tryz.prog) rfl _ _ w.heap.size 46 #[.string xa, .string xd, .slice ta ts.length tc, .string (str sg)] (0, 0) _ rfl ((((K8.set 0 (.string xa)).set 1 (.string xd)).set 2 (.slice ta ts.length tc)).set 3 (.string (str sg))) Tryz.underlying46 rfl (by kernel_rfl)) rfl ⟨?_, ((((T8.setCell (p := ⟨w.heap.size, 0, none⟩) (Nat.le_refl _) (.string xa)).setCell (p := ⟨w.heap.size, 1, none⟩) (Nat.le_refl _) (.string xd)).setCell (p := ⟨w.heap.size, 2, none⟩) (Nat.le_refl _) (.slice ta ts.length tc)).setCell (p := ⟨w.heap.size, 3, none⟩) (Nat.le_refl _) (.string (str sg)))⟩
      first | exact ⟨ta, tc, rfl, (((hi8.other hne8 0 _).other hne8 1 _).other hne8 2 _).other hne8 3 _, fun b off h => Nat.le_of_lt (hne8 b off h)⟩ | (rw [if_pos hok]; exact ⟨ta, tc, rfl, (((hi8.other hne8 0 _).other hne8 1 _).other hne8 2 _).other hne8 3 _, fun b off h => Nat.le_of_lt (hne8 b off h)⟩)
end Go.Proofs.YtgjmaeodgcigdaaGreatDoor
