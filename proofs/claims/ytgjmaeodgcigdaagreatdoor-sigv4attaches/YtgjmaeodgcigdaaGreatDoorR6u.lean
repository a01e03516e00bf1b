/- steleref06.Attach: the walk. -/
import Derived.Test.YtgjmaeodgcigdaaGreatDoorR6t
import Derived.Test.YtgjmaeodgcigdaaGreatDoorB19
namespace Go.Proofs.YtgjmaeodgcigdaaGreatDoor
open Go.RowKit

theorem infoH6r : (Tryz.prog.info? 67).map (fun i => (i.zero, i.size, i.bytes)) = some (some (.agg #[.string ⟨#[]⟩, .string ⟨#[]⟩]), 2, 32) := by kernel_rfl

set_option maxRecDepth 20000 in
set_option maxHeartbeats 8000000 in
theorem refAttach (who sec m p q : List UInt8) (ha : Option Addr) (hn hc : Nat) (hs : List Pr) (ba : Option Addr) (bn bc : Nat) (bd : List UInt8) (t : Nat) (S : List UInt8) (E : Int) (w : World)
    (hP : IsP w ha hn hc hs) (hB : IsB w ba bn bc bd) (zw : who.length ≤ 50000) (zs : sec.length ≤ 100000) (zm : m.length ≤ 30000) (zp : p.length ≤ 30000) (zq : q.length ≤ 30000) (zb : bn ≤ 30000) (zh : ∀ i, i < hs.length → (nthP hs i).1.length ≤ 30000 ∧ (nthP hs i).2.length ≤ 30000) (zn : hn ≤ 4398046510976)
    (hS : (E = 0 ∧ IsTime S t) ∨ E = 6) (HSw : ∀ w, Calls Tryz.prog 52 #[.int .u64 (t : Int)] w fun e w' => e = .returned (.tuple #[.string (str S), .int .i64 E]) ∧ Below w.heap.size w w') :
    Calls Tryz.prog 25 #[.agg #[.string (str m), .string (str p), .string (str q), .slice ha hn hc, .slice ba bn bc], .string (str who), .string (str sec), .int .u64 (t : Int)] w fun e w' =>
      (if attE who sec S E ⟨m, p, q, hs, bd⟩ = 0 then ∃ va vn vc, e = .returned (.tuple #[.agg #[.string (str m), .string (str p), .string (str q), .slice va vn vc, .slice ba bn bc], .int .i64 0]) ∧ IsP w' va vn vc (attO who sec S E ⟨m, p, q, hs, bd⟩)
       else e = .returned (.tuple #[rqNone, .int .i64 (attE who sec S E ⟨m, p, q, hs, bd⟩)])) ∧ Below w.heap.size w w' := by
  have T0 : Below w.heap.size w ((w.alloc (.cells #[.string (str m), .string (str p), .string (str q), .slice ha hn hc, .slice ba bn bc] 25)).alloc (.cells #[.string ⟨#[]⟩, .string ⟨#[]⟩, .string ⟨#[]⟩, .slice none 0 0, .slice none 0 0] 25)) := ((Below.refl _ w).alloc (Nat.le_refl _) _).alloc (by simp) _
  have K0 : Blk ((w.alloc (.cells #[.string (str m), .string (str p), .string (str q), .slice ha hn hc, .slice ba bn bc] 25)).alloc (.cells #[.string ⟨#[]⟩, .string ⟨#[]⟩, .string ⟨#[]⟩, .slice none 0 0, .slice none 0 0] 25)) w.heap.size 25 [.string (str m), .string (str p), .string (str q), .slice ha hn hc, .slice ba bn bc] := (Blk.newAt w _ _ _ _ rfl rfl).alloc _
  have R0 : Blk ((w.alloc (.cells #[.string (str m), .string (str p), .string (str q), .slice ha hn hc, .slice ba bn bc] 25)).alloc (.cells #[.string ⟨#[]⟩, .string ⟨#[]⟩, .string ⟨#[]⟩, .slice none 0 0, .slice none 0 0] 25)) (w.heap.size + 1) 25 [.string ⟨#[]⟩, .string ⟨#[]⟩, .string ⟨#[]⟩, .slice none 0 0, .slice none 0 0] := Blk.newAt _ _ _ _ _ (by simp) rfl
  have HL : Hid (hs.length = hn) := hP.len_eq
  have G1 : ∀ W, Below w.heap.size w W → Calls Tryz.prog 41 #[.agg #[.string (str m), .string (str p), .string (str q), .slice ha hn hc, .slice ba bn bc], .string ⟨#[97, 117, 116, 104, 111, 114, 105, 122, 97, 116, 105, 111, 110]⟩] W fun e w' => e = .returned (.tuple #[.string (str (vAu hs)), .bool (findL hs sAuthN).isSome]) ∧ Below W.heap.size W w' := fun W hW => refGet _ _ _ _ ha hn hc hs sAuthN W (hP.below hW rfl)
  have G2 : ∀ W, Below w.heap.size w W → Calls Tryz.prog 41 #[.agg #[.string (str m), .string (str p), .string (str q), .slice ha hn hc, .slice ba bn bc], .string ⟨#[120, 45, 97, 109, 122, 45, 100, 97, 116, 101]⟩] W fun e w' => e = .returned (.tuple #[.string (str (vDa hs)), .bool (findL hs sDateN).isSome]) ∧ Below W.heap.size W w' := fun W hW => refGet _ _ _ _ ha hn hc hs sDateN W (hP.below hW rfl)
  rcases hS with ⟨rfl, hTi⟩ | rfl
  · by_cases hroom : roomB hs = true
    · obtain ⟨r1, r2, r3⟩ := room_facts hroom
      rw [r1] at G1
      rw [r2] at G2
      have h16 : S.length = 16 := hTi.length
      have hn22 : hn ≤ 22 := by rw [← HL.out]; exact r3
      have hni : ¬ (24 : Int) < (hn : Int) + 2 := by omega
      have hwr : IntKind.i64.wrap ((hn : Int) + 2) = (hn : Int) + 2 := wrapi64_in _ (by omega) (by omega)
      have hal : (attH hs S).length = hn + 1 := by unfold attH; rw [List.length_append, HL.out]; rfl
      have htl : (attT hs S).length = hn + 1 := by unfold attT; rw [nms_length]; exact hal
      have zh1 : ∀ i, i < (attH hs S).length → (nthP (attH hs S) i).1.length ≤ 30000 ∧ (nthP (attH hs S) i).2.length ≤ 30000 := fun i hi => by
        unfold attH at hi ⊢
        rw [nthP_eq _ i hi]
        rcases List.mem_append.1 (List.getElem_mem hi) with h | h
        · obtain ⟨j, hj, e⟩ := List.getElem_of_mem h
          rw [← e, ← nthP_eq hs j hj]; exact zh j hj
        · rw [List.mem_singleton] at h; rw [h]; exact ⟨by show sDateN.length ≤ 30000; decide, by show S.length ≤ 30000; omega⟩
      have zt1 : ∀ i, i < (attT hs S).length → (nthT (attT hs S) i).length ≤ 30000 := fun i hi => by
        rw [nthT_eq _ i hi]
        obtain ⟨pp, hpp, e⟩ := nms_mem (List.getElem_mem hi)
        rw [← e]
        obtain ⟨j, hj, e2⟩ := List.getElem_of_mem hpp
        rw [← e2, ← nthP_eq _ j hj]; exact (zh1 j hj).1
      have HSo : ∀ W N v, OwnT W N v ((attH hs S).map (·.1)) → Calls Tryz.prog 67 #[v] W fun e w' => (∃ ta tc, e = .returned (.slice ta (hn + 1) tc) ∧ IsT w' ta (hn + 1) tc (attT hs S)) ∧ Below W.heap.size W w' := fun W N v ho => by
        obtain ⟨ta, tc, rfl, hi⟩ := ho.isT
        refine (refSorted ta _ tc _ W hi (by rw [List.length_map, hal]; omega)).mono ?_
        rintro e w' ⟨v', rfl, ho', hb⟩
        rw [nms_sort] at ho'
        obtain ⟨ta', tc', rfl, hi'⟩ := ho'.isT
        have e1 : (nmsL (attH hs S)).length = hn + 1 := htl
        rw [e1] at hi' ⊢
        exact ⟨⟨ta', tc', rfl, hi'⟩, hb⟩
      have HSi : ∀ W va vc ta tc, Below w.heap.size w W → IsP W va (hn + 1) vc (attH hs S) → IsT W ta (hn + 1) tc (attT hs S) → Calls Tryz.prog 15 #[.string (str sec), .agg #[.string (str m), .string (str p), .string (str q), .slice va (hn + 1) vc, .slice ba bn bc], .slice ta (hn + 1) tc, .int .u64 (t : Int)] W fun e w' => e = .returned (.tuple #[.string (str (signT sec S 0 ⟨m, p, q, attH hs S, bd⟩ (attT hs S))), .int .i64 (signE 0 ⟨m, p, q, attH hs S, bd⟩ (attT hs S))]) ∧ Below W.heap.size W w' := fun W va vc ta tc hW hPW hTs => refSign sec m p q va _ vc _ ba bn bc bd ta _ tc _ t S 0 W hPW (hB.below hW rfl) hTs zs zm zp zq zb (fun i hi => (zh1 i hi).2) (fun i hi => Nat.le_trans (zt1 i hi) (by decide)) (fun _ => h16) HSw
      have hsg : (signT sec S 0 ⟨m, p, q, attH hs S, bd⟩ (attT hs S)).length ≤ 64 := by
        unfold signT signX
        split
        · rw [hexL_length, hm_length]; decide
        · exact Nat.zero_le _
      have HRt : signE 0 ⟨m, p, q, attH hs S, bd⟩ (attT hs S) = 0 → ∀ W ta tc, IsT W ta (hn + 1) tc (attT hs S) → Calls Tryz.prog 62 #[.agg #[.string (str who), .string (str (S.take 8)), .slice ta (hn + 1) tc, .string (str (signT sec S 0 ⟨m, p, q, attH hs S, bd⟩ (attT hs S)))]] W fun e w' => e = .returned (.bool (auOk (attX who sec S 0 ⟨m, p, q, hs, bd⟩))) ∧ Below W.heap.size W w' := fun h W ta tc hi => by
        have hr := att_right (who := who) (sec := sec) (r := ⟨m, p, q, hs, bd⟩) hTi h
        refine (refRight6 who (S.take 8) _ ta (hn + 1) tc (attT hs S) W hi (fun i hi => Nat.le_trans (zt1 i hi) (by decide)) (by omega) (by rw [List.length_take]; omega) (by omega)).mono ?_
        rintro e w' ⟨he, hb⟩
        have hr' : rightL who (S.take 8) (attT hs S) (signT sec S 0 ⟨m, p, q, attH hs S, bd⟩ (attT hs S)) = auOk (attX who sec S 0 ⟨m, p, q, hs, bd⟩) := hr
        rw [hr'] at he
        exact ⟨he, hb⟩
      have HSA : ∀ W ta tc, IsT W ta (hn + 1) tc (attT hs S) → Calls Tryz.prog 23 #[.agg #[.string (str who), .string (str (S.take 8)), .slice ta (hn + 1) tc, .string (str (signT sec S 0 ⟨m, p, q, attH hs S, bd⟩ (attT hs S)))]] W fun e w' => e = .returned (.string (str (attX who sec S 0 ⟨m, p, q, hs, bd⟩))) ∧ Below W.heap.size W w' := fun W ta tc hi => refShowAuth who (S.take 8) _ ta (hn + 1) tc (attT hs S) W hi (by omega) (fun i hi => Nat.le_trans (zt1 i hi) (by decide)) (by omega) (by rw [List.length_take]; omega) (by omega)
      have hex : (str S).extract 0 8 = str (S.take 8) := by rw [ext_take, str_list]
      have hs16 : (str S).size = 16 := by rw [str_size]; exact h16
      have HAE : Hid (attE who sec S 0 ⟨m, p, q, hs, bd⟩ = if ¬ signE 0 ⟨m, p, q, attH hs S, bd⟩ (attT hs S) = 0 then signE 0 ⟨m, p, q, attH hs S, bd⟩ (attT hs S) else if auOk (attX who sec S 0 ⟨m, p, q, hs, bd⟩) = false then 20 else 0) := by
        unfold Hid attE
        rw [if_neg (by decide), if_neg (by show ¬ roomB hs = false; rw [hroom]; decide)]
        rfl
      have HAO : Hid (attO who sec S 0 ⟨m, p, q, hs, bd⟩ = attH hs S ++ [(sAuthN, attX who sec S 0 ⟨m, p, q, hs, bd⟩)]) := rfl
      have HPw : Hid (∀ W, Below w.heap.size w W → IsPV W (.slice ha hn hc) hs) := fun W hW => ⟨ha, hc, by rw [HL.out], by rw [HL.out]; exact hP.below hW rfl⟩
      have HAH : Hid (attH hs S = [] ++ hs ++ [(sDateN, S)]) := rfl
      have HHL : Hid ((attH hs S).length = hn + 1) := hal
      clear hP hB zw zs zm zp zq zb zh zn zh1 zt1 hsg hroom r1 r2 r3 hal htl h16 hTi
      generalize attE who sec S 0 ⟨m, p, q, hs, bd⟩ = aE at *
      generalize attO who sec S 0 ⟨m, p, q, hs, bd⟩ = aO at *
      generalize signE 0 ⟨m, p, q, attH hs S, bd⟩ (attT hs S) = sE at *
      generalize str (signT sec S 0 ⟨m, p, q, attH hs S, bd⟩ (attT hs S)) = xsg at *
      generalize auOk (attX who sec S 0 ⟨m, p, q, hs, bd⟩) = ok at *
      generalize attX who sec S 0 ⟨m, p, q, hs, bd⟩ = atx at *
      generalize str m = xm at *
      generalize str p = xp at *
      generalize str q = xq at *
      generalize str who = xw at *
      generalize str sec = xs at *
      generalize str (S.take 8) = x8 at *
      generalize str (vAu hs) = xv at *
      generalize str (vDa hs) = xd at *
      go_enter Tryz.func25, Tryz.ntmps25
      go_upto_region 8 with (first | (go_at_call 52; refine (HSw _).mono ?_; rintro e w1 ⟨rfl, hb1⟩; have T1 := T0.trans (hb1.mono T0.size); have K1 := K0.on hb1; have R1 := R0.on hb1; have d0 := K1.cell 0; have d1 := K1.cell 1; have d2 := K1.cell 2; have d3 := K1.cell 3; have d4 := K1.cell 4) | (go_at_call 41; first | (have hmk := K2; refine (G2 _ T2).mono ?_; rintro e w3 ⟨rfl, hb3⟩; have K3 := K2.on hb3; have R3 := R2.on hb3; have T3 := T2.trans (hb3.mono T2.size); have m0 := K3.cell 0; have m1 := K3.cell 1; have m2 := K3.cell 2; have m3 := K3.cell 3; have m4 := K3.cell 4) | (refine (G1 _ T1).mono ?_; rintro e w2 ⟨rfl, hb2⟩; have K2 := K1.on hb2; have R2 := R1.on hb2; have T2 := T1.trans (hb2.mono T1.size); have e0 := K2.cell 0; have e1 := K2.cell 1; have e2 := K2.cell 2; have e3 := K2.cell 3; have e4 := K2.cell 4)))
      clear HSw G1 G2 K0 R0 T0 hb1 hb2 hb3 K1 R1 T1 d0 d1 d2 d3 d4 K2 R2 T2 e0 e1 e2 e3 e4 m0 m1 m2 m3 m4
      have O0 := OwnP.empty 67 w3 w3.heap.size (Nat.le_refl _)
      have B0 : Below w3.heap.size w3 (w3.alloc (.cells #[] 67)) := (Below.refl _ w3).alloc (Nat.le_refl _) _
      have PV0 := HPw.out _ (T3.trans (B0.mono T3.size))
      have KA := K3.on B0
      have a3 := KA.cell 3
      have hlt3 := K3.lt
      have hlt4 := R3.lt
      go_upto_region 9 with (first
        | (at_builtin; refine list_appV 22 67 Tryz.underlying22 infoH6r _ rfl (.tmp 51) (.tmp 53) rfl w3.heap.size _ [] rfl O0 _ hs rfl PV0 (by have := HL.out; show (0 + hs.length) * 32 ≤ _; omega) B0.size ?_; intro v1 x1 ho1 hg1; have b1 := B0.grown hg1 B0.size (fun i hi => by cases hi; exact Nat.le_refl _))
        | (at_builtin; refine list_appV 22 67 Tryz.underlying22 infoH6r _ rfl (.tmp 54) (.tmp 57) rfl w3.heap.size v1 ([] ++ hs) rfl (ho1.alloc _) _ [(sDateN, S)] rfl (isPV_one sDateN S (heap_alloc_new x1 _)) (by have := HL.out; show (hs.length + 1) * 32 ≤ _; omega) (by have := b1.size; simp; omega) ?_; intro v2 x2 ho2 hg2; have b2 : Below w3.heap.size w3 x2 := (b1.alloc b1.size _).grown hg2 (by have := b1.size; simp; omega) (fun i hi => (ho1.blk i hi).1); have HO2 : Hid (OwnP 67 x2 w3.heap.size v2 (attH hs S)) := ho2; obtain ⟨va, vc, ev2, hib⟩ := HO2.out.isP; rw [HHL.out] at ev2 hib; subst ev2; have KX := K3.on b2; have RX := R3.on b2; have g3 := KX.cell 3; have f3 := KX.frozen 3))
      have O4 := OwnP.els HO2.out (Else.set w.heap.size 3 x2 (.slice va (hn + 1) vc)) hlt3
      have K4 := KX.set 3 (.slice va (hn + 1) vc)
      have R4 := RX.other ⟨w.heap.size, 3, none⟩ (.slice va (hn + 1) vc) (by show w.heap.size + 1 ≠ w.heap.size; omega)
      have T4 := (T3.trans (b2.mono T3.size)).setCell (p := ⟨w.heap.size, 3, none⟩) (Nat.le_refl _) (.slice va (hn + 1) vc)
      have I4 := O4.toP
      have L4 := O4.blk
      have HSz : Hid (w3.heap.size ≤ (x2.setCell ⟨w.heap.size, 3, none⟩ (.slice va (hn + 1) vc)).heap.size) := by unfold Hid; simpa [World.setCell] using b2.size
      clear O0 B0 PV0 KA a3 K3 R3 T3 KX RX g3 f3 ho1 ho2 hg1 hg2 b1 b2 HO2 hib
      replace K4 : Blk (x2.setCell ⟨w.heap.size, 3, none⟩ (.slice va (hn + 1) vc)) w.heap.size 25 [.string xm, .string xp, .string xq, .slice va (hn + 1) vc, .slice ba bn bc] := K4
      generalize x2.setCell ⟨w.heap.size, 3, none⟩ (.slice va (hn + 1) vc) = W4 at *
      have k3 := K4.cell 3
      have HIw : Hid (∀ W, Below W4.heap.size W4 W → IsP W va (hn + 1) vc (attH hs S)) := fun W hW => I4.below hW rfl
      have HNL : Hid (((attH hs S).map (·.1)).length = hn + 1) := by unfold Hid; rw [List.length_map]; exact HHL.out
      have HKw : Hid (∀ W, Below W4.heap.size W4 W → W.cell? ⟨w.heap.size, 3, none⟩ = some (.slice va (hn + 1) vc)) := fun W hW => (K4.on hW).cell 3
      have HNn : Hid (∀ k, k < hn + 1 → nthT ((attH hs S).map (·.1)) k = (nthP (attH hs S) k).1) := fun k hk => by
        rw [nthT_eq _ k (by rw [HNL.out]; exact hk), nthP_eq _ k (by rw [HHL.out]; exact hk), List.getElem_map]
      go_wp2
      go_loopw [16, 17] (fun v i wr => ∃ (k : Nat), k ≤ hn + 1 ∧ i = .int .i64 k ∧ Hid (OwnT wr W4.heap.size v (((attH hs S).map (·.1)).take k)) ∧ Hid (Below W4.heap.size W4 wr)) (fun _ i _ => hn + 1 - (intOf i).toNat)
      case atStart => exact ⟨0, Nat.zero_le _, rfl, OwnT.nil _ _, Below.refl _ _⟩
      case round =>
        obtain ⟨k, hk, rfl, HO, HB⟩ := hrel
        clear k3
        have k3 := HKw.out wr HB.out
        by_cases hlt : k < hn + 1
        · obtain ⟨b, off, rfl, hc9⟩ := (HIw.out wr HB.out).cells (by omega)
          obtain ⟨g1, g2⟩ := hc9 k hlt
          rw [← HNn.out k hlt] at g1
          have hi0 : (0 : Int) ≤ (k : Int) := by omega
          have hi1 : (k : Int) < ((hn + 1 : Nat) : Int) := by omega
          have hi2 : (k : Int) < (hn : Int) + 1 := by omega
          have HT := takeT ((attH hs S).map (·.1)) k (by rw [HNL.out]; exact hlt)
          have HT' : Hid (((attH hs S).map (·.1)).take (k + 1) = ((attH hs S).map (·.1)).take k ++ [nthT ((attH hs S).map (·.1)) k]) := HT
          have HTL : Hid ((((attH hs S).map (·.1)).take k).length = k) := by unfold Hid; rw [List.length_take, HNL.out, Nat.min_eq_left hk]
          have hown := HO.out
          have hblk := hown.blk
          have hsz := HB.out.size
          clear hc9 HT g2
          generalize nthT ((attH hs S).map (·.1)) k = nk at *
          go_wp2_with (at_builtin; refine list_appX _ rfl _ _ rfl W4.heap.size _ _ rfl (hown.alloc _) wr.heap.size nk rfl (heap_alloc_new wr _) (by rw [HTL.out]; omega) (by simp; omega) ?_; intro v2 y2 ho2 hg2)
          go_roundw
          case rel => exact ⟨k + 1, by omega, by go_num, by rw [HT'.out]; exact ho2, (HB.out.alloc HB.out.size _).grown hg2 (by have := HB.out.size; simp; omega) (fun i hi => (hblk i hi).1)⟩
          case measure => simp [intOf]; omega
        · have hkk : k = hn + 1 := by omega
          subst hkk
          have hge : ¬ ((hn + 1 : Nat) : Int) < ((hn + 1 : Nat) : Int) := by omega
          have HO1 := HO.out
          rw [List.take_of_length_le (by rw [HNL.out]; exact Nat.le_refl _)] at HO1
          have HO2 : Hid (OwnT wr W4.heap.size _ ((attH hs S).map (·.1))) := HO1
          have TW := T4.trans (HB.out.mono T4.size)
          have KW := K4.on HB.out
          have RW := R4.on HB.out
          have IW := HIw.out wr HB.out
          have OW := O4.on HB.out
          clear HO HO1 hlt hge HKw HNn HPw I4 K4 R4
          go_upto_region 16 with (first
            | (go_at_call 67; refine (HSo _ _ _ HO2.out).mono ?_; rintro e y1 ⟨⟨ta, tc, rfl, hiT⟩, hb1⟩; have T1 := TW.trans (hb1.mono TW.size); have K1 := KW.on hb1; have R1 := RW.on hb1; have I1 := IW.below hb1 rfl; have O1 := OW.on hb1; have d0 := K1.cell 0; have d1 := K1.cell 1; have d2 := K1.cell 2; have d3 := K1.cell 3; have d4 := K1.cell 4)
            | (go_at_call 15; refine (HSi _ _ _ _ _ T1 I1 hiT).mono ?_; rintro e y2 ⟨rfl, hb2⟩; have T2 := T1.trans (hb2.mono T1.size); have K2 := K1.on hb2; have R2 := R1.on hb2; have O2 := O1.on hb2; have J2 := hiT.below hb2 rfl))
          have HSy : Hid (w3.heap.size ≤ y2.heap.size) := Nat.le_trans HSz.out (Nat.le_trans HB.out.size (Nat.le_trans hb1.size hb2.size))
          clear HSo HSi HO2 TW KW RW IW OW T1 K1 R1 I1 O1 hb1 hb2 d0 d1 d2 d3 d4 hiT
          by_cases hsE : sE = 0
          · subst hsE
            have HRt' := HRt rfl
            have A2 : Below y2.heap.size y2 (y2.alloc (.cells #[.string xw, .string x8, .slice ta (hn + 1) tc, .string xsg] 45)) := (Below.refl _ y2).alloc (Nat.le_refl _) _
            have XA := Blk.newAt y2 y2.heap.size 45 _ [.string xw, .string x8, .slice ta (hn + 1) tc, .string xsg] rfl rfl
            have JA := J2.below A2 rfl
            have TA := T2.trans (A2.mono T2.size)
            have KA := K2.on A2
            have RA := R2.on A2
            have OA := O2.on A2
            have HXb : Hid (∀ i, (Value.slice va (hn + 1) vc).ownBlock = some i → i < y2.heap.size) := fun i hi => (O2.blk i hi).2
            have hABw : w.heap.size < y2.heap.size := K2.lt
            clear HRt J2 T2 K2 R2 O2 A2
            have xa0 := XA.cell 0
            have xa1 := XA.cell 1
            have xa2 := XA.cell 2
            have xa3 := XA.cell 3
            cases ok with
            | false =>
              have hA9 : aE = 20 := by rw [HAE.out]; rfl
              go_wp2_with (go_at_call 62; refine (HRt' _ _ _ JA).mono ?_; rintro e y3 ⟨rfl, hb3⟩; have T3 := TA.trans (hb3.mono TA.size); have R3 := RA.on hb3; have zk0 := R3.cell 0; have zf0 := R3.frozen 0; have zk1 := R3.cell 1; have zf1 := R3.frozen 1; have zk2 := R3.cell 2; have zf2 := R3.frozen 2; have zk3 := R3.cell 3; have zf3 := R3.frozen 3; have zk4 := R3.cell 4; have zf4 := R3.frozen 4)
              (try simp only [Exit.inBlock, Exit.then])
              refine bodyPost_ret (results_cellrow_tmp (P := Tryz.prog) rfl _ _ (w.heap.size + 1) 25 #[.string ⟨#[]⟩, .string ⟨#[]⟩, .string ⟨#[]⟩, .slice none 0 0, .slice none 0 0] (0, 0) _ rfl (((((R3.set 0 (.string ⟨#[]⟩)).set 1 (.string ⟨#[]⟩)).set 2 (.string ⟨#[]⟩)).set 3 (.slice none 0 0)).set 4 (.slice none 0 0)) Tryz.underlying25 rfl (by kernel_rfl)) rfl ⟨?_, (((((T3.setCell (p := ⟨w.heap.size + 1, 0, none⟩) (Nat.le_succ _) (.string ⟨#[]⟩)).setCell (p := ⟨w.heap.size + 1, 1, none⟩) (Nat.le_succ _) (.string ⟨#[]⟩)).setCell (p := ⟨w.heap.size + 1, 2, none⟩) (Nat.le_succ _) (.string ⟨#[]⟩)).setCell (p := ⟨w.heap.size + 1, 3, none⟩) (Nat.le_succ _) (.slice none 0 0)).setCell (p := ⟨w.heap.size + 1, 4, none⟩) (Nat.le_succ _) (.slice none 0 0))⟩
              first | rfl | (rw [if_neg (by rw [hA9]; decide), hA9]; rfl)
            | true =>
              have hA9 : aE = 0 := by rw [HAE.out]; rfl
              go_upto_region 21 with (go_at_call 62; refine (HRt' _ _ _ JA).mono ?_; rintro e y3 ⟨rfl, hb3⟩)
              have T3 := TA.trans (hb3.mono TA.size)
              have K3 := KA.on hb3
              have R3 := RA.on hb3
              have O3 := OA.on hb3
              have J3 := JA.below hb3 rfl
              have X3 := XA.on hb3
              clear HRt' TA KA RA OA JA XA hb3 xa0 xa1 xa2 xa3
              generalize y2.heap.size = AB at *
              have b3 := O3.blk
              have D0 := (Below.refl y3.heap.size y3).drew
              have m3 : y3.drew.cell? ⟨w.heap.size, 3, none⟩ = some (.slice va (hn + 1) vc) := (K3.on D0).cell 3
              have xa0 : y3.drew.cell? ⟨AB, 0, none⟩ = some (.string xw) := (X3.on D0).cell 0
              have xa1 : y3.drew.cell? ⟨AB, 1, none⟩ = some (.string x8) := (X3.on D0).cell 1
              have xa2 : y3.drew.cell? ⟨AB, 2, none⟩ = some (.slice ta (hn + 1) tc) := (X3.on D0).cell 2
              have xa3 : y3.drew.cell? ⟨AB, 3, none⟩ = some (.string xsg) := (X3.on D0).cell 3
              have HLen : Hid (((attH hs S).length + [(sAuthN, atx)].length) * 32 ≤ 140737488355328) := by have := HHL.out; show ((attH hs S).length + 1) * 32 ≤ _; omega
              have HL2 : Hid ((attH hs S ++ [(sAuthN, atx)]).length = hn + 1 + 1) := by unfold Hid; rw [List.length_append, HHL.out]; rfl
              have hABne : AB ≠ w.heap.size := by have := X3.lt; intro h; rw [h] at hABw; exact absurd hABw (Nat.lt_irrefl _)
              refine wp_region_noPanic ?_
              refine wp_region_held_drew (S := fun w' => w'.cell? ⟨AB, 0, none⟩ = some (.string xw) ∧ w'.cell? ⟨AB, 1, none⟩ = some (.string x8) ∧ w'.cell? ⟨AB, 2, none⟩ = some (.slice ta (hn + 1) tc) ∧ w'.cell? ⟨AB, 3, none⟩ = some (.string xsg)) (by kernel_rfl) ⟨xa0, xa1, xa2, xa3⟩ (fun hHeld => ?_)
              refine takeH (some 100) (i := 0) (v := ?_) rfl (by kernel_rfl) (by kernel_rfl) (by kernel_rfl) (fun _ _ _ h => h) (Or.inl ⟨by rfl, ?_⟩) hHeld rfl ?_
              rotate_left
              · intro w hSw; obtain ⟨hS1, hS2, hS3, hS4⟩ := hSw; go_simp; with_reducible rfl
              simp only [Act.put, List.setIfInBounds_toArray, List.set_cons_zero, List.set_cons_succ]
              refine takeH (some 102) (i := 2) (v := ?_) rfl (by kernel_rfl) (by kernel_rfl) (by kernel_rfl) (fun _ _ _ h => h) (Or.inl ⟨by rfl, ?_⟩) hHeld rfl ?_
              rotate_left
              · intro w hSw; obtain ⟨hS1, hS2, hS3, hS4⟩ := hSw; go_simp; with_reducible rfl
              simp only [Act.put, List.setIfInBounds_toArray, List.set_cons_zero, List.set_cons_succ]
              refine wpAnyH_ready (rs := [1, 3]) (by kernel_rfl) (by simp) ?_
              refine AllReadyH.cons rfl (fun K hK => ?_) (AllReadyH.cons rfl (fun K hK => ?_) AllReadyH.nil)
              · go_simp
                refine hK.out _ _ hHeld (fun hHeld => ?_)
                try simp only [Act.put, List.setIfInBounds_toArray, List.set_cons_zero, List.set_cons_succ]
                refine wpAnyH_ready (rs := [3]) (by kernel_rfl) (by simp) (AllReadyH.cons rfl (fun K hK => ?_) AllReadyH.nil)
                go_simp
                go_wp2_with (go_at_call 23; refine (HSA _ _ _ (J3.below D0 rfl)).mono ?_; rintro e y4 ⟨rfl, hb4⟩)
                have TC := T3.drew.trans (hb4.mono T3.size)
                have KC := (K3.on D0).on hb4
                have RC := (R3.on D0).on hb4
                have OC := (O3.on D0).on hb4
                have XC := (X3.on D0).on hb4
                have l3 : y4.cell? ⟨w.heap.size, 3, none⟩ = some (.slice va (hn + 1) vc) := KC.cell 3
                have l3b : (y4.alloc (.cells #[.string ⟨#[97, 117, 116, 104, 111, 114, 105, 122, 97, 116, 105, 111, 110]⟩, .string (str atx)] 67)).cell? ⟨w.heap.size, 3, none⟩ = some (.slice va (hn + 1) vc) := (KC.alloc _).cell 3
                refine hK.out _ _ ⟨XC.cell 0, XC.cell 1, XC.cell 2, XC.cell 3⟩ (fun hHeld => ?_)
                try simp only [Act.put, List.setIfInBounds_toArray, List.set_cons_zero, List.set_cons_succ]
                refine takeH (some 104) (i := 4) (v := ?_) rfl (by kernel_rfl) (by kernel_rfl) (by kernel_rfl) (fun _ _ _ h => h) (Or.inl ⟨by rfl, ?_⟩) hHeld rfl ?_
                rotate_left
                · intro w hSw; obtain ⟨hS1, hS2, hS3, hS4⟩ := hSw; go_simp; with_reducible rfl
                simp only [Act.put, List.setIfInBounds_toArray, List.set_cons_zero, List.set_cons_succ]
                refine wpAnyH_ready (rs := [5]) (by kernel_rfl) (by simp) (AllReadyH.cons rfl (fun K hK => ?_) AllReadyH.nil)
                go_simp
                refine hK.out _ _ ⟨(XC.alloc _).cell 0, (XC.alloc _).cell 1, (XC.alloc _).cell 2, (XC.alloc _).cell 3⟩ (fun hHeld => ?_)
                try simp only [Act.put, List.setIfInBounds_toArray, List.set_cons_zero, List.set_cons_succ]
                refine wpAnyH_ready (rs := [6]) (by kernel_rfl) (by simp) (AllReadyH.cons rfl (fun K hK => ?_) AllReadyH.nil)
                refine step_appV 22 67 Tryz.underlying22 infoH6r _ (by rfl) _ _ (by rfl) _ _ (attH hs S) (by rfl) (OC.alloc _) _ [(sAuthN, atx)] (by rfl) (isPV_one sAuthN atx (heap_alloc_new y4 _)) HLen.out (by have := XC.lt; have := HSy.out; simp; omega) ?_
                intro v5 y5 ho5 hg5
                obtain ⟨vb, vd, ev5, hi5⟩ := ho5.isP
                rw [HL2.out] at ev5
                subst ev5
                have KD := (KC.alloc _).grown hg5 (fun i hi => (by have := (b3 i hi).1; omega))
                have RD := (RC.alloc _).grown hg5 (fun i hi => (by have := (b3 i hi).1; omega))
                have XD := (XC.alloc _).grown hg5 (fun i hi => (by have := HXb.out i hi; omega))
                have TD := (TC.alloc TC.size _).grown hg5 (by have := TC.size; simp; omega) (fun i hi => (by have := (b3 i hi).1; omega))
                have n3 : y5.cell? ⟨w.heap.size, 3, none⟩ = some (.slice va (hn + 1) vc) := KD.cell 3
                have nf3 := KD.frozen 3
                have TE := TD.setCell (p := ⟨w.heap.size, 3, none⟩) (Nat.le_refl _) (.slice vb (hn + 1 + 1) vd)
                have XE := XD.other ⟨w.heap.size, 3, none⟩ (.slice vb (hn + 1 + 1) vd) hABne
                refine hK.out _ _ ⟨XD.cell 0, XD.cell 1, XD.cell 2, XD.cell 3⟩ (fun hHeld => ?_)
                try simp only [Act.put, List.setIfInBounds_toArray]
                refine takeH (some 107) (i := 7) (v := ?_) rfl (by kernel_rfl) (by kernel_rfl) (by kernel_rfl) (fun _ _ _ h => h) (Or.inl ⟨by rfl, ?_⟩) hHeld rfl ?_
                rotate_left
                · intro w hSw; obtain ⟨hS1, hS2, hS3, hS4⟩ := hSw; go_simp; with_reducible rfl
                simp only [Act.put]
                refine wpAnyH_ready (rs := [8]) (by kernel_rfl) (by simp) (AllReadyH.cons rfl (fun K hK => ?_) AllReadyH.nil)
                go_simp
                refine hK.out _ _ ⟨XE.cell 0, XE.cell 1, XE.cell 2, XE.cell 3⟩ (fun _ => ?_)
                try simp only [Act.put, List.setIfInBounds_toArray, List.set_cons_zero, List.set_cons_succ]
                refine wpAnyH_done (by kernel_rfl) ?_ _
                refine NoPanic.normal ?_
                clear XC XD XE l3 l3b hHeld
                have OE := OwnP.els ho5 (Else.set w.heap.size 3 y5 (.slice vb (hn + 1 + 1) vd)) hlt3
                have KZ := KD.set 3 (.slice vb (hn + 1 + 1) vd)
                have RZ := RD.other ⟨w.heap.size, 3, none⟩ (.slice vb (hn + 1 + 1) vd) (by show w.heap.size + 1 ≠ w.heap.size; omega)
                have TZ := TE
                clear n3 nf3 TE TD KD RD ho5 hg5 hi5 TC KC RC OC hb4 m3
                replace KZ : Blk (y5.setCell ⟨w.heap.size, 3, none⟩ (.slice vb (hn + 1 + 1) vd)) w.heap.size 25 [.string xm, .string xp, .string xq, .slice vb (hn + 1 + 1) vd, .slice ba bn bc] := KZ
                generalize y5.setCell ⟨w.heap.size, 3, none⟩ (.slice vb (hn + 1 + 1) vd) = Z at *
                have OF := OwnP.els OE (els5 Z (w.heap.size + 1) (.string xm) (.string xp) (.string xq) (.slice vb (hn + 1 + 1) vd) (.slice ba bn bc)) hlt4
                have c0 : Z.cell? ⟨w.heap.size, 0, none⟩ = some (.string xm) := KZ.cell 0
                have c1 : Z.cell? ⟨w.heap.size, 1, none⟩ = some (.string xp) := KZ.cell 1
                have c2 : Z.cell? ⟨w.heap.size, 2, none⟩ = some (.string xq) := KZ.cell 2
                have c3 : Z.cell? ⟨w.heap.size, 3, none⟩ = some (.slice vb (hn + 1 + 1) vd) := KZ.cell 3
                have c4 : Z.cell? ⟨w.heap.size, 4, none⟩ = some (.slice ba bn bc) := KZ.cell 4
                have zk0 := RZ.cell 0
                have zf0 := RZ.frozen 0
                have zk1 := RZ.cell 1
                have zf1 := RZ.frozen 1
                have zk2 := RZ.cell 2
                have zf2 := RZ.frozen 2
                have zk3 := RZ.cell 3
                have zf3 := RZ.frozen 3
                have zk4 := RZ.cell 4
                have zf4 := RZ.frozen 4
                go_wp2
                (try simp only [Exit.inBlock, Exit.then])
                refine bodyPost_ret (results_cellrow_tmp (P := Tryz.prog) rfl _ _ (w.heap.size + 1) 25 #[.string xm, .string xp, .string xq, .slice vb (hn + 1 + 1) vd, .slice ba bn bc] (0, 0) _ rfl (((((RZ.set 0 (.string xm)).set 1 (.string xp)).set 2 (.string xq)).set 3 (.slice vb (hn + 1 + 1) vd)).set 4 (.slice ba bn bc)) Tryz.underlying25 rfl (by kernel_rfl)) rfl ⟨?_, (((((TZ.setCell (p := ⟨w.heap.size + 1, 0, none⟩) (Nat.le_succ _) (.string xm)).setCell (p := ⟨w.heap.size + 1, 1, none⟩) (Nat.le_succ _) (.string xp)).setCell (p := ⟨w.heap.size + 1, 2, none⟩) (Nat.le_succ _) (.string xq)).setCell (p := ⟨w.heap.size + 1, 3, none⟩) (Nat.le_succ _) (.slice vb (hn + 1 + 1) vd)).setCell (p := ⟨w.heap.size + 1, 4, none⟩) (Nat.le_succ _) (.slice ba bn bc))⟩
                first | exact ⟨vb, hn + 1 + 1, vd, rfl, by rw [HAO.out]; exact OF.toP⟩ | (rw [if_pos hA9]; exact ⟨vb, hn + 1 + 1, vd, rfl, by rw [HAO.out]; exact OF.toP⟩)
              · go_simp
                go_wp2_with (go_at_call 23; refine (HSA _ _ _ (J3.below D0 rfl)).mono ?_; rintro e y4 ⟨rfl, hb4⟩)
                have TC := T3.drew.trans (hb4.mono T3.size)
                have KC := (K3.on D0).on hb4
                have RC := (R3.on D0).on hb4
                have OC := (O3.on D0).on hb4
                have XC := (X3.on D0).on hb4
                have l3 : y4.cell? ⟨w.heap.size, 3, none⟩ = some (.slice va (hn + 1) vc) := KC.cell 3
                have l3b : (y4.alloc (.cells #[.string ⟨#[97, 117, 116, 104, 111, 114, 105, 122, 97, 116, 105, 111, 110]⟩, .string (str atx)] 67)).cell? ⟨w.heap.size, 3, none⟩ = some (.slice va (hn + 1) vc) := (KC.alloc _).cell 3
                refine hK.out _ _ ⟨XC.cell 0, XC.cell 1, XC.cell 2, XC.cell 3⟩ (fun hHeld => ?_)
                try simp only [Act.put, List.setIfInBounds_toArray, List.set_cons_zero, List.set_cons_succ]
                refine takeH (some 104) (i := 4) (v := ?_) rfl (by kernel_rfl) (by kernel_rfl) (by kernel_rfl) (fun _ _ _ h => h) (Or.inl ⟨by rfl, ?_⟩) hHeld rfl ?_
                rotate_left
                · intro w hSw; obtain ⟨hS1, hS2, hS3, hS4⟩ := hSw; go_simp; with_reducible rfl
                simp only [Act.put, List.setIfInBounds_toArray, List.set_cons_zero, List.set_cons_succ]
                refine wpAnyH_ready (rs := [1, 5]) (by kernel_rfl) (by simp) ?_
                refine AllReadyH.cons rfl (fun K hK => ?_) (AllReadyH.cons rfl (fun K hK => ?_) AllReadyH.nil)
                · go_simp
                  refine hK.out _ _ hHeld (fun hHeld => ?_)
                  try simp only [Act.put, List.setIfInBounds_toArray, List.set_cons_zero, List.set_cons_succ]
                  refine wpAnyH_ready (rs := [5]) (by kernel_rfl) (by simp) (AllReadyH.cons rfl (fun K hK => ?_) AllReadyH.nil)
                  go_simp
                  refine hK.out _ _ ⟨(XC.alloc _).cell 0, (XC.alloc _).cell 1, (XC.alloc _).cell 2, (XC.alloc _).cell 3⟩ (fun hHeld => ?_)
                  try simp only [Act.put, List.setIfInBounds_toArray, List.set_cons_zero, List.set_cons_succ]
                  refine wpAnyH_ready (rs := [6]) (by kernel_rfl) (by simp) (AllReadyH.cons rfl (fun K hK => ?_) AllReadyH.nil)
                  refine step_appV 22 67 Tryz.underlying22 infoH6r _ (by rfl) _ _ (by rfl) _ _ (attH hs S) (by rfl) (OC.alloc _) _ [(sAuthN, atx)] (by rfl) (isPV_one sAuthN atx (heap_alloc_new y4 _)) HLen.out (by have := XC.lt; have := HSy.out; simp; omega) ?_
                  intro v5 y5 ho5 hg5
                  obtain ⟨vb, vd, ev5, hi5⟩ := ho5.isP
                  rw [HL2.out] at ev5
                  subst ev5
                  have KD := (KC.alloc _).grown hg5 (fun i hi => (by have := (b3 i hi).1; omega))
                  have RD := (RC.alloc _).grown hg5 (fun i hi => (by have := (b3 i hi).1; omega))
                  have XD := (XC.alloc _).grown hg5 (fun i hi => (by have := HXb.out i hi; omega))
                  have TD := (TC.alloc TC.size _).grown hg5 (by have := TC.size; simp; omega) (fun i hi => (by have := (b3 i hi).1; omega))
                  have n3 : y5.cell? ⟨w.heap.size, 3, none⟩ = some (.slice va (hn + 1) vc) := KD.cell 3
                  have nf3 := KD.frozen 3
                  have TE := TD.setCell (p := ⟨w.heap.size, 3, none⟩) (Nat.le_refl _) (.slice vb (hn + 1 + 1) vd)
                  have XE := XD.other ⟨w.heap.size, 3, none⟩ (.slice vb (hn + 1 + 1) vd) hABne
                  refine hK.out _ _ ⟨XD.cell 0, XD.cell 1, XD.cell 2, XD.cell 3⟩ (fun hHeld => ?_)
                  try simp only [Act.put, List.setIfInBounds_toArray]
                  refine takeH (some 107) (i := 7) (v := ?_) rfl (by kernel_rfl) (by kernel_rfl) (by kernel_rfl) (fun _ _ _ h => h) (Or.inl ⟨by rfl, ?_⟩) hHeld rfl ?_
                  rotate_left
                  · intro w hSw; obtain ⟨hS1, hS2, hS3, hS4⟩ := hSw; go_simp; with_reducible rfl
                  simp only [Act.put]
                  refine wpAnyH_ready (rs := [8]) (by kernel_rfl) (by simp) (AllReadyH.cons rfl (fun K hK => ?_) AllReadyH.nil)
                  go_simp
                  refine hK.out _ _ ⟨XE.cell 0, XE.cell 1, XE.cell 2, XE.cell 3⟩ (fun _ => ?_)
                  try simp only [Act.put, List.setIfInBounds_toArray, List.set_cons_zero, List.set_cons_succ]
                  refine wpAnyH_done (by kernel_rfl) ?_ _
                  refine NoPanic.normal ?_
                  clear XC XD XE l3 l3b hHeld
                  have OE := OwnP.els ho5 (Else.set w.heap.size 3 y5 (.slice vb (hn + 1 + 1) vd)) hlt3
                  have KZ := KD.set 3 (.slice vb (hn + 1 + 1) vd)
                  have RZ := RD.other ⟨w.heap.size, 3, none⟩ (.slice vb (hn + 1 + 1) vd) (by show w.heap.size + 1 ≠ w.heap.size; omega)
                  have TZ := TE
                  clear n3 nf3 TE TD KD RD ho5 hg5 hi5 TC KC RC OC hb4 m3
                  replace KZ : Blk (y5.setCell ⟨w.heap.size, 3, none⟩ (.slice vb (hn + 1 + 1) vd)) w.heap.size 25 [.string xm, .string xp, .string xq, .slice vb (hn + 1 + 1) vd, .slice ba bn bc] := KZ
                  generalize y5.setCell ⟨w.heap.size, 3, none⟩ (.slice vb (hn + 1 + 1) vd) = Z at *
                  have OF := OwnP.els OE (els5 Z (w.heap.size + 1) (.string xm) (.string xp) (.string xq) (.slice vb (hn + 1 + 1) vd) (.slice ba bn bc)) hlt4
                  have c0 : Z.cell? ⟨w.heap.size, 0, none⟩ = some (.string xm) := KZ.cell 0
                  have c1 : Z.cell? ⟨w.heap.size, 1, none⟩ = some (.string xp) := KZ.cell 1
                  have c2 : Z.cell? ⟨w.heap.size, 2, none⟩ = some (.string xq) := KZ.cell 2
                  have c3 : Z.cell? ⟨w.heap.size, 3, none⟩ = some (.slice vb (hn + 1 + 1) vd) := KZ.cell 3
                  have c4 : Z.cell? ⟨w.heap.size, 4, none⟩ = some (.slice ba bn bc) := KZ.cell 4
                  have zk0 := RZ.cell 0
                  have zf0 := RZ.frozen 0
                  have zk1 := RZ.cell 1
                  have zf1 := RZ.frozen 1
                  have zk2 := RZ.cell 2
                  have zf2 := RZ.frozen 2
                  have zk3 := RZ.cell 3
                  have zf3 := RZ.frozen 3
                  have zk4 := RZ.cell 4
                  have zf4 := RZ.frozen 4
                  go_wp2
                  (try simp only [Exit.inBlock, Exit.then])
                  refine bodyPost_ret (results_cellrow_tmp (P := Tryz.prog) rfl _ _ (w.heap.size + 1) 25 #[.string xm, .string xp, .string xq, .slice vb (hn + 1 + 1) vd, .slice ba bn bc] (0, 0) _ rfl (((((RZ.set 0 (.string xm)).set 1 (.string xp)).set 2 (.string xq)).set 3 (.slice vb (hn + 1 + 1) vd)).set 4 (.slice ba bn bc)) Tryz.underlying25 rfl (by kernel_rfl)) rfl ⟨?_, (((((TZ.setCell (p := ⟨w.heap.size + 1, 0, none⟩) (Nat.le_succ _) (.string xm)).setCell (p := ⟨w.heap.size + 1, 1, none⟩) (Nat.le_succ _) (.string xp)).setCell (p := ⟨w.heap.size + 1, 2, none⟩) (Nat.le_succ _) (.string xq)).setCell (p := ⟨w.heap.size + 1, 3, none⟩) (Nat.le_succ _) (.slice vb (hn + 1 + 1) vd)).setCell (p := ⟨w.heap.size + 1, 4, none⟩) (Nat.le_succ _) (.slice ba bn bc))⟩
                  first | exact ⟨vb, hn + 1 + 1, vd, rfl, by rw [HAO.out]; exact OF.toP⟩ | (rw [if_pos hA9]; exact ⟨vb, hn + 1 + 1, vd, rfl, by rw [HAO.out]; exact OF.toP⟩)
                · go_simp
                  refine hK.out _ _ ⟨(XC.alloc _).cell 0, (XC.alloc _).cell 1, (XC.alloc _).cell 2, (XC.alloc _).cell 3⟩ (fun hHeld => ?_)
                  try simp only [Act.put, List.setIfInBounds_toArray, List.set_cons_zero, List.set_cons_succ]
                  refine wpAnyH_ready (rs := [1]) (by kernel_rfl) (by simp) (AllReadyH.cons rfl (fun K hK => ?_) AllReadyH.nil)
                  go_simp
                  refine hK.out _ _ hHeld (fun hHeld => ?_)
                  try simp only [Act.put, List.setIfInBounds_toArray, List.set_cons_zero, List.set_cons_succ]
                  refine wpAnyH_ready (rs := [6]) (by kernel_rfl) (by simp) (AllReadyH.cons rfl (fun K hK => ?_) AllReadyH.nil)
                  refine step_appV 22 67 Tryz.underlying22 infoH6r _ (by rfl) _ _ (by rfl) _ _ (attH hs S) (by rfl) (OC.alloc _) _ [(sAuthN, atx)] (by rfl) (isPV_one sAuthN atx (heap_alloc_new y4 _)) HLen.out (by have := XC.lt; have := HSy.out; simp; omega) ?_
                  intro v5 y5 ho5 hg5
                  obtain ⟨vb, vd, ev5, hi5⟩ := ho5.isP
                  rw [HL2.out] at ev5
                  subst ev5
                  have KD := (KC.alloc _).grown hg5 (fun i hi => (by have := (b3 i hi).1; omega))
                  have RD := (RC.alloc _).grown hg5 (fun i hi => (by have := (b3 i hi).1; omega))
                  have XD := (XC.alloc _).grown hg5 (fun i hi => (by have := HXb.out i hi; omega))
                  have TD := (TC.alloc TC.size _).grown hg5 (by have := TC.size; simp; omega) (fun i hi => (by have := (b3 i hi).1; omega))
                  have n3 : y5.cell? ⟨w.heap.size, 3, none⟩ = some (.slice va (hn + 1) vc) := KD.cell 3
                  have nf3 := KD.frozen 3
                  have TE := TD.setCell (p := ⟨w.heap.size, 3, none⟩) (Nat.le_refl _) (.slice vb (hn + 1 + 1) vd)
                  have XE := XD.other ⟨w.heap.size, 3, none⟩ (.slice vb (hn + 1 + 1) vd) hABne
                  refine hK.out _ _ ⟨XD.cell 0, XD.cell 1, XD.cell 2, XD.cell 3⟩ (fun hHeld => ?_)
                  try simp only [Act.put, List.setIfInBounds_toArray]
                  refine takeH (some 107) (i := 7) (v := ?_) rfl (by kernel_rfl) (by kernel_rfl) (by kernel_rfl) (fun _ _ _ h => h) (Or.inl ⟨by rfl, ?_⟩) hHeld rfl ?_
                  rotate_left
                  · intro w hSw; obtain ⟨hS1, hS2, hS3, hS4⟩ := hSw; go_simp; with_reducible rfl
                  simp only [Act.put]
                  refine wpAnyH_ready (rs := [8]) (by kernel_rfl) (by simp) (AllReadyH.cons rfl (fun K hK => ?_) AllReadyH.nil)
                  go_simp
                  refine hK.out _ _ ⟨XE.cell 0, XE.cell 1, XE.cell 2, XE.cell 3⟩ (fun _ => ?_)
                  try simp only [Act.put, List.setIfInBounds_toArray, List.set_cons_zero, List.set_cons_succ]
                  refine wpAnyH_done (by kernel_rfl) ?_ _
                  refine NoPanic.normal ?_
                  clear XC XD XE l3 l3b hHeld
                  have OE := OwnP.els ho5 (Else.set w.heap.size 3 y5 (.slice vb (hn + 1 + 1) vd)) hlt3
                  have KZ := KD.set 3 (.slice vb (hn + 1 + 1) vd)
                  have RZ := RD.other ⟨w.heap.size, 3, none⟩ (.slice vb (hn + 1 + 1) vd) (by show w.heap.size + 1 ≠ w.heap.size; omega)
                  have TZ := TE
                  clear n3 nf3 TE TD KD RD ho5 hg5 hi5 TC KC RC OC hb4 m3
                  replace KZ : Blk (y5.setCell ⟨w.heap.size, 3, none⟩ (.slice vb (hn + 1 + 1) vd)) w.heap.size 25 [.string xm, .string xp, .string xq, .slice vb (hn + 1 + 1) vd, .slice ba bn bc] := KZ
                  generalize y5.setCell ⟨w.heap.size, 3, none⟩ (.slice vb (hn + 1 + 1) vd) = Z at *
                  have OF := OwnP.els OE (els5 Z (w.heap.size + 1) (.string xm) (.string xp) (.string xq) (.slice vb (hn + 1 + 1) vd) (.slice ba bn bc)) hlt4
                  have c0 : Z.cell? ⟨w.heap.size, 0, none⟩ = some (.string xm) := KZ.cell 0
                  have c1 : Z.cell? ⟨w.heap.size, 1, none⟩ = some (.string xp) := KZ.cell 1
                  have c2 : Z.cell? ⟨w.heap.size, 2, none⟩ = some (.string xq) := KZ.cell 2
                  have c3 : Z.cell? ⟨w.heap.size, 3, none⟩ = some (.slice vb (hn + 1 + 1) vd) := KZ.cell 3
                  have c4 : Z.cell? ⟨w.heap.size, 4, none⟩ = some (.slice ba bn bc) := KZ.cell 4
                  have zk0 := RZ.cell 0
                  have zf0 := RZ.frozen 0
                  have zk1 := RZ.cell 1
                  have zf1 := RZ.frozen 1
                  have zk2 := RZ.cell 2
                  have zf2 := RZ.frozen 2
                  have zk3 := RZ.cell 3
                  have zf3 := RZ.frozen 3
                  have zk4 := RZ.cell 4
                  have zf4 := RZ.frozen 4
                  go_wp2
                  (try simp only [Exit.inBlock, Exit.then])
                  refine bodyPost_ret (results_cellrow_tmp (P := Tryz.prog) rfl _ _ (w.heap.size + 1) 25 #[.string xm, .string xp, .string xq, .slice vb (hn + 1 + 1) vd, .slice ba bn bc] (0, 0) _ rfl (((((RZ.set 0 (.string xm)).set 1 (.string xp)).set 2 (.string xq)).set 3 (.slice vb (hn + 1 + 1) vd)).set 4 (.slice ba bn bc)) Tryz.underlying25 rfl (by kernel_rfl)) rfl ⟨?_, (((((TZ.setCell (p := ⟨w.heap.size + 1, 0, none⟩) (Nat.le_succ _) (.string xm)).setCell (p := ⟨w.heap.size + 1, 1, none⟩) (Nat.le_succ _) (.string xp)).setCell (p := ⟨w.heap.size + 1, 2, none⟩) (Nat.le_succ _) (.string xq)).setCell (p := ⟨w.heap.size + 1, 3, none⟩) (Nat.le_succ _) (.slice vb (hn + 1 + 1) vd)).setCell (p := ⟨w.heap.size + 1, 4, none⟩) (Nat.le_succ _) (.slice ba bn bc))⟩
                  first | exact ⟨vb, hn + 1 + 1, vd, rfl, by rw [HAO.out]; exact OF.toP⟩ | (rw [if_pos hA9]; exact ⟨vb, hn + 1 + 1, vd, rfl, by rw [HAO.out]; exact OF.toP⟩)
          · have hz : (sE == 0) = false := by simpa using hsE
            have hA9 : aE = sE := by rw [HAE.out, if_pos hsE]
            have zk0 := R2.cell 0
            have zf0 := R2.frozen 0
            have zk1 := R2.cell 1
            have zf1 := R2.frozen 1
            have zk2 := R2.cell 2
            have zf2 := R2.frozen 2
            have zk3 := R2.cell 3
            have zf3 := R2.frozen 3
            have zk4 := R2.cell 4
            have zf4 := R2.frozen 4
            go_wp2
            (try simp only [Exit.inBlock, Exit.then])
            refine bodyPost_ret (results_cellrow_tmp (P := Tryz.prog) rfl _ _ (w.heap.size + 1) 25 #[.string ⟨#[]⟩, .string ⟨#[]⟩, .string ⟨#[]⟩, .slice none 0 0, .slice none 0 0] (0, 0) _ rfl (((((R2.set 0 (.string ⟨#[]⟩)).set 1 (.string ⟨#[]⟩)).set 2 (.string ⟨#[]⟩)).set 3 (.slice none 0 0)).set 4 (.slice none 0 0)) Tryz.underlying25 rfl (by kernel_rfl)) rfl ⟨?_, (((((T2.setCell (p := ⟨w.heap.size + 1, 0, none⟩) (Nat.le_succ _) (.string ⟨#[]⟩)).setCell (p := ⟨w.heap.size + 1, 1, none⟩) (Nat.le_succ _) (.string ⟨#[]⟩)).setCell (p := ⟨w.heap.size + 1, 2, none⟩) (Nat.le_succ _) (.string ⟨#[]⟩)).setCell (p := ⟨w.heap.size + 1, 3, none⟩) (Nat.le_succ _) (.slice none 0 0)).setCell (p := ⟨w.heap.size + 1, 4, none⟩) (Nat.le_succ _) (.slice none 0 0))⟩
            first | rfl | (rw [if_neg (by rw [hA9]; exact hsE), hA9]; rfl)

    · have hr' : roomB hs = false := by simpa using hroom
      have e1 : attE who sec S 0 ⟨m, p, q, hs, bd⟩ = 11 := by unfold attE; rw [if_neg (by decide), if_pos hr']
      simp only [e1, show ¬ (11 : Int) = 0 from by decide, if_false]
      unfold rqNone
      have hcase : (findL hs sAuthN).isSome = true ∨ ((findL hs sAuthN).isSome = false ∧ (findL hs sDateN).isSome = true) ∨ ((findL hs sAuthN).isSome = false ∧ (findL hs sDateN).isSome = false ∧ 22 < hn) := by
        cases h1 : (findL hs sAuthN).isSome with
        | true => exact .inl rfl
        | false =>
          cases h2 : (findL hs sDateN).isSome with
          | true => exact .inr (.inl ⟨rfl, rfl⟩)
          | false =>
            refine .inr (.inr ⟨rfl, rfl, ?_⟩)
            unfold roomB at hr'
            rw [h1, h2] at hr'
            simp at hr'
            have := HL.out
            omega
      have hwr : IntKind.i64.wrap ((hn : Int) + 2) = (hn : Int) + 2 := wrapi64_in _ (by omega) (by omega)
      clear e1 hroom hr' hP hB zh hTi
      generalize (findL hs sAuthN).isSome = q1 at *
      generalize (findL hs sDateN).isSome = q2 at *
      generalize str (vAu hs) = xv at *
      generalize str (vDa hs) = xd at *
      generalize str S = xS at *
      have hgt : 22 < hn → (24 : Int) < (hn : Int) + 2 := fun h => by omega
      rcases hcase with rfl | ⟨rfl, rfl⟩ | ⟨rfl, rfl, h22⟩
      all_goals
        (try have hgt2 := hgt h22)
        clear hgt
        go_enter Tryz.func25, Tryz.ntmps25
        go_wp2_with (first | (go_at_call 52; refine (HSw _).mono ?_; rintro e w1 ⟨rfl, hb1⟩; have T1 := T0.trans (hb1.mono T0.size); have K1 := K0.on hb1; have R1 := R0.on hb1; have d0 := K1.cell 0; have d1 := K1.cell 1; have d2 := K1.cell 2; have d3 := K1.cell 3; have d4 := K1.cell 4) | (go_at_call 41; first | (have hmk := K2; refine (G2 _ T2).mono ?_; rintro e w3 ⟨rfl, hb3⟩; have K3 := K2.on hb3; have R3 := R2.on hb3; have T3 := T2.trans (hb3.mono T2.size); have m0 := K3.cell 0; have m1 := K3.cell 1; have m2 := K3.cell 2; have m3 := K3.cell 3; have m4 := K3.cell 4; have zk0 := R3.cell 0; have zf0 := R3.frozen 0; have zk1 := R3.cell 1; have zf1 := R3.frozen 1; have zk2 := R3.cell 2; have zf2 := R3.frozen 2; have zk3 := R3.cell 3; have zf3 := R3.frozen 3; have zk4 := R3.cell 4; have zf4 := R3.frozen 4) | (refine (G1 _ T1).mono ?_; rintro e w2 ⟨rfl, hb2⟩; have K2 := K1.on hb2; have R2 := R1.on hb2; have T2 := T1.trans (hb2.mono T1.size); have e0 := K2.cell 0; have e1 := K2.cell 1; have e2 := K2.cell 2; have e3 := K2.cell 3; have e4 := K2.cell 4)))
        (try simp only [Exit.inBlock, Exit.then])
        refine bodyPost_ret (results_cellrow_tmp (P := Tryz.prog) rfl _ _ (w.heap.size + 1) 25 #[.string ⟨#[]⟩, .string ⟨#[]⟩, .string ⟨#[]⟩, .slice none 0 0, .slice none 0 0] (0, 0) _ rfl (((((R3.set 0 (.string ⟨#[]⟩)).set 1 (.string ⟨#[]⟩)).set 2 (.string ⟨#[]⟩)).set 3 (.slice none 0 0)).set 4 (.slice none 0 0)) Tryz.underlying25 rfl (by kernel_rfl)) rfl ⟨?_, (((((T3.setCell (p := ⟨w.heap.size + 1, 0, none⟩) (Nat.le_succ _) (.string ⟨#[]⟩)).setCell (p := ⟨w.heap.size + 1, 1, none⟩) (Nat.le_succ _) (.string ⟨#[]⟩)).setCell (p := ⟨w.heap.size + 1, 2, none⟩) (Nat.le_succ _) (.string ⟨#[]⟩)).setCell (p := ⟨w.heap.size + 1, 3, none⟩) (Nat.le_succ _) (.slice none 0 0)).setCell (p := ⟨w.heap.size + 1, 4, none⟩) (Nat.le_succ _) (.slice none 0 0))⟩
        rfl
  · have e1 : attE who sec S 6 ⟨m, p, q, hs, bd⟩ = 6 := by unfold attE; rw [if_pos (by decide)]
    simp only [e1, show ¬ (6 : Int) = 0 from by decide, if_false]
    unfold rqNone
    clear e1 hP hB zh G1 G2
    generalize str S = xS at *
    go_enter Tryz.func25, Tryz.ntmps25
    go_wp2_with (go_at_call 52; refine (HSw _).mono ?_; rintro e w1 ⟨rfl, hb1⟩; have T1 := T0.trans (hb1.mono T0.size); have R1 := R0.on hb1; have zk0 := R1.cell 0; have zf0 := R1.frozen 0; have zk1 := R1.cell 1; have zf1 := R1.frozen 1; have zk2 := R1.cell 2; have zf2 := R1.frozen 2; have zk3 := R1.cell 3; have zf3 := R1.frozen 3; have zk4 := R1.cell 4; have zf4 := R1.frozen 4)
    (try simp only [Exit.inBlock, Exit.then])
    refine bodyPost_ret (results_cellrow_tmp (P := Tryz.prog) rfl _ _ (w.heap.size + 1) 25 #[.string ⟨#[]⟩, .string ⟨#[]⟩, .string ⟨#[]⟩, .slice none 0 0, .slice none 0 0] (0, 0) _ rfl (((((R1.set 0 (.string ⟨#[]⟩)).set 1 (.string ⟨#[]⟩)).set 2 (.string ⟨#[]⟩)).set 3 (.slice none 0 0)).set 4 (.slice none 0 0)) Tryz.underlying25 rfl (by kernel_rfl)) rfl ⟨?_, (((((T1.setCell (p := ⟨w.heap.size + 1, 0, none⟩) (Nat.le_succ _) (.string ⟨#[]⟩)).setCell (p := ⟨w.heap.size + 1, 1, none⟩) (Nat.le_succ _) (.string ⟨#[]⟩)).setCell (p := ⟨w.heap.size + 1, 2, none⟩) (Nat.le_succ _) (.string ⟨#[]⟩)).setCell (p := ⟨w.heap.size + 1, 3, none⟩) (Nat.le_succ _) (.slice none 0 0)).setCell (p := ⟨w.heap.size + 1, 4, none⟩) (Nat.le_succ _) (.slice none 0 0))⟩
    rfl
end Go.Proofs.YtgjmaeodgcigdaaGreatDoor
