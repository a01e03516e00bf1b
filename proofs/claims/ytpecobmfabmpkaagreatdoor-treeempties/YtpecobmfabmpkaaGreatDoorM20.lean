/- PvB PvF -/
import Derived.Test.YtpecobmfabmpkaaGreatDoorM19
set_option maxRecDepth 20000
set_option maxHeartbeats 6000000
namespace Go.Proofs.YtpecobmfabmpkaaGreatDoor
section
open Go.RowKit
theorem codJoined13 (w:World)(x1 x2:Int)(a1 a2 b1 b2:Option Addr)(n1 n2 c1 c2 d1 d2:Nat)(L1 L2:List Eq3)(h1:SrcC rtE13 w a1 n1 c1 L1)(h2:SrcC rtE13 w a2 n2 c2 L2)(k1:SrcC rtI13 w b1 0 d1 [])(k2:SrcC rtI13 w b2 0 d2 [])(hn:n1+n2≤1000):
  Calls Tryz.prog 152 #[.agg #[.int .i64 x1,.int .i64 0,.slice a1 n1 c1,.slice b1 0 d1],.agg #[.int .i64 x2,.int .i64 0,.slice a2 n2 c2,.slice b2 0 d2]] w fun e w'=>(∃ve vk,e=.returned (.agg #[.int .i64 0,.int .i64 0,ve,vk])∧OwnRw rtE13 w' w.heap.size ve (L1++L2)∧OwnRw rtI13 w' w.heap.size vk [])∧Below w.heap.size w w':=by
 obtain⟨Y0,hY⟩:∃Y0,((w.alloc (.cells #[.int .i64 x1,.int .i64 0,.slice a1 n1 c1,.slice b1 0 d1] 133)).alloc (.cells #[.int .i64 x2,.int .i64 0,.slice a2 n2 c2,.slice b2 0 d2] 133)).alloc (.cells #[.int .i64 0,.int .i64 0,.slice none 0 0,.slice none 0 0] 133)=Y0:=⟨_,rfl⟩
 have W1:Below w.heap.size w Y0:=by rw[←hY];exact(((Below.refl _ w).alloc (Nat.le_refl _) _).alloc (by simp) _).alloc (by simp;omega) _
 have kp:Blk Y0 w.heap.size 133 [.int .i64 x1,.int .i64 0,.slice a1 n1 c1,.slice b1 0 d1]:=by rw[←hY];exact((Blk.newAt w w.heap.size 133 _ _ rfl rfl).alloc _).alloc _
 have kq:Blk Y0 (w.heap.size+1) 133 [.int .i64 x2,.int .i64 0,.slice a2 n2 c2,.slice b2 0 d2]:=by rw[←hY];exact(Blk.newAt _ (w.heap.size+1) 133 _ _ (by simp) rfl).alloc _
 have kr:Blk Y0 (w.heap.size+2) 133 [.int .i64 0,.int .i64 0,.slice none 0 0,.slice none 0 0]:=by rw[←hY];exact Blk.newAt _ (w.heap.size+2) 133 _ _ (by simp) rfl
 have HE:Hid (∀W X,Below Y0.heap.size Y0 W→Blk W X 50 [.slice a1 n1 c1,.slice a2 n2 c2]→Calls Tryz.prog 184 #[.slice (some ⟨X,0,none⟩) 2 2] W fun e w'=>∃v,e=.returned v∧OwnRw rtE13 w' W.heap.size v (L1++L2)∧Below W.heap.size W w'):=fun W X hW hX=>codConcatE X a1 n1 c1 a2 n2 c2 L1 L2 W hX ((h1.below W1).below hW) ((h2.below W1).below hW) hn
 have HI:Hid (∀W X,Below Y0.heap.size Y0 W→Blk W X 58 [.slice b1 0 d1,.slice b2 0 d2]→Calls Tryz.prog 185 #[.slice (some ⟨X,0,none⟩) 2 2] W fun e w'=>∃v,e=.returned v∧OwnRw rtI13 w' W.heap.size v []∧Below W.heap.size W w'):=fun W X hW hX=>codConcatI X b1 0 d1 b2 0 d2 [] [] W hX ((k1.below W1).below hW) ((k2.below W1).below hW) (by omega)
 have HCt:Hid (∀W,Below Y0.heap.size Y0 W→W.cell? ⟨w.heap.size,1,none⟩=some (.int .i64 0)∧W.cell? ⟨w.heap.size,2,none⟩=some (.slice a1 n1 c1)∧W.cell? ⟨w.heap.size,3,none⟩=some (.slice b1 0 d1)∧W.cell? ⟨w.heap.size+1,2,none⟩=some (.slice a2 n2 c2)∧W.cell? ⟨w.heap.size+1,3,none⟩=some (.slice b2 0 d2)):=fun W hW=>⟨(kp.on hW).cell 1,(kp.on hW).cell 2,(kp.on hW).cell 3,(kq.on hW).cell 2,(kq.on hW).cell 3⟩
 have HKr:=mkHid kr
 have HW1:=mkHid W1
 have hD:Below Y0.heap.size Y0 Y0.drew:=(Below.refl _ Y0).drew
 have hbsz:w.heap.size≤Y0.heap.size:=W1.size
 clear h1 h2 k1 k2 kp kq kr W1
 go_enter Tryz.func152,Tryz.ntmps152
 go_upto_region 1 with fail
 (try rw[hY])
 clear hY
 refine lk0 (fun W=>W.cell? ⟨w.heap.size,1,none⟩=some (.int .i64 0)∧W.cell? ⟨w.heap.size,2,none⟩=some (.slice a1 n1 c1)∧W.cell? ⟨w.heap.size,3,none⟩=some (.slice b1 0 d1)∧W.cell? ⟨w.heap.size+1,2,none⟩=some (.slice a2 n2 c2)∧W.cell? ⟨w.heap.size+1,3,none⟩=some (.slice b2 0 d2)) 15 (HCt.out _ hD) (fun hHeld=>?_)
 refine lkT 5 0 (.pointer (some ⟨w.heap.size,1,none⟩)) rfl (Or.inl ⟨by rfl,?_⟩) hHeld ?_
 ·intro w hSw;go_simp
 (try simp only[Act.put,sIx,sZ0,sZ1])
 refine lkT 6 1 (.int .i64 0) rfl (Or.inl ⟨by rfl,?_⟩) hHeld ?_
 ·intro w hSw;obtain⟨s0,s1,s2,s3,s4⟩:=hSw;go_simp
 (try simp only[Act.put,sIx,sZ0,sZ1])
 refine lkT 7 2 (.pointer (some ⟨w.heap.size,2,none⟩)) rfl (Or.inl ⟨by rfl,?_⟩) hHeld ?_
 ·intro w hSw;go_simp
 (try simp only[Act.put,sIx,sZ0,sZ1])
 refine lkT 8 3 (.slice a1 n1 c1) rfl (Or.inl ⟨by rfl,?_⟩) hHeld ?_
 ·intro w hSw;obtain⟨s0,s1,s2,s3,s4⟩:=hSw;go_simp
 (try simp only[Act.put,sIx,sZ0,sZ1])
 refine lkT 9 4 (.pointer (some ⟨w.heap.size+1,2,none⟩)) rfl (Or.inl ⟨by rfl,?_⟩) hHeld ?_
 ·intro w hSw;go_simp
 (try simp only[Act.put,sIx,sZ0,sZ1])
 refine lkT 10 5 (.slice a2 n2 c2) rfl (Or.inl ⟨by rfl,?_⟩) hHeld ?_
 ·intro w hSw;obtain⟨s0,s1,s2,s3,s4⟩:=hSw;go_simp
 (try simp only[Act.put,sIx,sZ0,sZ1])
 refine lkT 13 8 (.pointer (some ⟨w.heap.size,3,none⟩)) rfl (Or.inl ⟨by rfl,?_⟩) hHeld ?_
 ·intro w hSw;go_simp
 (try simp only[Act.put,sIx,sZ0,sZ1])
 refine lkT 14 9 (.slice b1 0 d1) rfl (Or.inl ⟨by rfl,?_⟩) hHeld ?_
 ·intro w hSw;obtain⟨s0,s1,s2,s3,s4⟩:=hSw;go_simp
 (try simp only[Act.put,sIx,sZ0,sZ1])
 refine lkT 15 10 (.pointer (some ⟨w.heap.size+1,3,none⟩)) rfl (Or.inl ⟨by rfl,?_⟩) hHeld ?_
 ·intro w hSw;go_simp
 (try simp only[Act.put,sIx,sZ0,sZ1])
 refine lkT 16 11 (.slice b2 0 d2) rfl (Or.inl ⟨by rfl,?_⟩) hHeld ?_
 ·intro w hSw;obtain⟨s0,s1,s2,s3,s4⟩:=hSw;go_simp
 (try simp only[Act.put,sIx,sZ0,sZ1])
 refine lkR (rs:=[6,12]) (by kernel_rfl) (by simp) (NextL.cons rfl (fun K hK=>?_) (NextL.cons rfl (fun K hK=>?_) NextL.nil))
 ·go_simp
  have hA1:=(hD).alloc (hD).size (.cells #[.slice a1 n1 c1,.slice a2 n2 c2] 50)
  have kBE:Blk ((Y0.drew).alloc (.cells #[.slice a1 n1 c1,.slice a2 n2 c2] 50)) (Y0.heap.size) 50 [.slice a1 n1 c1,.slice a2 n2 c2]:=Blk.newAt (Y0.drew) (Y0.heap.size) 50 _ [.slice a1 n1 c1,.slice a2 n2 c2] (by simp) rfl
  refine hK.out _ _ (HCt.out _ hA1) (fun hHeld=>?_)
  (try simp only[Act.put,sIx,sZ0,sZ1])
  clear hK K
  refine lkR (rs:=[7,12]) (by kernel_rfl) (by simp) (NextL.cons rfl (fun K hK=>?_) (NextL.cons rfl (fun K hK=>?_) NextL.nil))
  ·go_simp
   refine(HE.out _ _ hA1 kBE).mono ?_
   rintro r1 y1 ⟨ve,rfl,hoE,hb1⟩
   go_simp
   obtain⟨pE,qE,hvE,_⟩:=hoE.form okE13
   generalize (L1++L2).length=lE at hvE
   subst hvE
   have hB1:=(hA1).trans (hb1.mono (hA1).size)
   refine hK.out _ _ (HCt.out _ hB1) (fun hHeld=>?_)
   (try simp only[Act.put,sIx,sZ0,sZ1])
   clear hK K
   refine lk1 12 rfl (fun K hK=>?_)
   go_simp
   have hA2:=(hB1).alloc (hB1).size (.cells #[.slice b1 0 d1,.slice b2 0 d2] 58)
   have kBI:Blk ((y1).alloc (.cells #[.slice b1 0 d1,.slice b2 0 d2] 58)) (y1.heap.size) 58 [.slice b1 0 d1,.slice b2 0 d2]:=Blk.newAt (y1) (y1.heap.size) 58 _ [.slice b1 0 d1,.slice b2 0 d2] (by simp) rfl
   refine hK.out _ _ (HCt.out _ hA2) (fun hHeld=>?_)
   (try simp only[Act.put,sIx,sZ0,sZ1])
   clear hK K
   refine lk1 13 rfl (fun K hK=>?_)
   go_simp
   refine(HI.out _ _ hA2 kBI).mono ?_
   rintro r2 y2 ⟨vk,rfl,hoI,hb2⟩
   go_simp
   obtain⟨pI,qI,hvI,_⟩:=hoI.form okI13
   generalize List.length ([]:List Int)=lI at hvI
   subst hvI
   have hB2:=(hA2).trans (hb2.mono (hA2).size)
   refine hK.out _ _ (HCt.out _ hB2) (fun hHeld=>?_)
   (try simp only[Act.put,sIx,sZ0,sZ1])
   clear hK K
   refine lkT 19 14 (.agg #[.int .i64 0,.int .i64 0,.slice pE lE qE,.slice pI lI qI]) rfl (Or.inl ⟨by rfl,?_⟩) hHeld ?_
   ·intro w hSw;go_simp
   (try simp only[Act.put,sIx,sZ0,sZ1])
   have hoE:=(hoE.on ((Below.refl _ y1).alloc (Nat.le_refl _) (.cells #[.slice b1 0 d1,.slice b2 0 d2] 58))).on hb2
   have hoI:=hoI
   have kr:=HKr.out.on hB2
   have x0:=kr.cell 0
   have f0:=kr.frozen 0
   have x1:=kr.cell 1
   have f1:=kr.frozen 1
   have x2:=kr.cell 2
   have f2:=kr.frozen 2
   have x3:=kr.cell 3
   have f3:=kr.frozen 3
   simp only[gZ0,gZ1] at x0 x1 x2 x3
   refine lkZ rfl (fun K hK=>?_)
   go_simp
   refine hK.out _ _ ?_
   (try simp only[Exit.then])
   (try simp only[Act.put,sIx,sZ0,sZ1])
   clear hK K hHeld
   have hk:=store_pg (d0:=.int .i64 0) (d1:=.int .i64 0) (d2:=.slice pE lE qE) (d3:=.slice pI lI qI) kr
   have hbz:=((((HW1.out.trans (hB2 |>.mono hbsz)).setCell (p:=⟨w.heap.size+2,0,none⟩) (by show w.heap.size≤w.heap.size+2;omega) (.int .i64 0)).setCell (p:=⟨w.heap.size+2,1,none⟩) (by show w.heap.size≤w.heap.size+2;omega) (.int .i64 0)).setCell (p:=⟨w.heap.size+2,2,none⟩) (by show w.heap.size≤w.heap.size+2;omega) (.slice pE lE qE)).setCell (p:=⟨w.heap.size+2,3,none⟩) (by show w.heap.size≤w.heap.size+2;omega) (.slice pI lI qI)
   have hTz:KeepT [133] y2 ((((y2.setCell ⟨w.heap.size+2,0,none⟩ (.int .i64 0)).setCell ⟨w.heap.size+2,1,none⟩ (.int .i64 0)).setCell ⟨w.heap.size+2,2,none⟩ (.slice pE lE qE)).setCell ⟨w.heap.size+2,3,none⟩ (.slice pI lI qI)):=((((KeepT.refl _ y2).set kr (by decide) 0 _).set (kr.set 0 _) (by decide) 1 _).set ((kr.set 0 _).set 1 _) (by decide) 2 _).set (((kr.set 0 _).set 1 _).set 2 _) (by decide) 3 _
   have hoE2:=OwnRw.keep (us:=[64]) hoE (KeepO.ofT hTz (by decide)) (by decide)
   have hoI2:=OwnRw.keep (us:=[3]) hoI (KeepO.ofT hTz (by decide)) (by decide)
   have hoE3:=hoE2.base (show w.heap.size≤_ by simp;omega)
   have hoI3:=hoI2.base (show w.heap.size≤_ by have hz1:=hB1.size;first|omega|(simp;omega))
   have HF:=mkHid (And.intro hk (And.intro hbz (And.intro hoE3 hoI3)))
   clear hk hbz hTz hoE hoI hoE2 hoI2 hoE3 hoI3 kr
   go_wp2_with fail
   refine bodyPost_ret (results_cell1 (P:=Tryz.prog) rfl _ _ (w.heap.size+2) _ rfl (load_pg13 _ _ _ _ _ _ HF.out.1)) rfl ?_
   exact⟨⟨_,_,rfl,HF.out.2.2.1,HF.out.2.2.2⟩,HF.out.2.1⟩
  ·go_simp
   have hA2:=(hA1).alloc (hA1).size (.cells #[.slice b1 0 d1,.slice b2 0 d2] 58)
   have kBI:Blk (((Y0.drew.alloc (.cells #[.slice a1 n1 c1,.slice a2 n2 c2] 50))).alloc (.cells #[.slice b1 0 d1,.slice b2 0 d2] 58)) (Y0.heap.size+1) 58 [.slice b1 0 d1,.slice b2 0 d2]:=Blk.newAt ((Y0.drew.alloc (.cells #[.slice a1 n1 c1,.slice a2 n2 c2] 50))) (Y0.heap.size+1) 58 _ [.slice b1 0 d1,.slice b2 0 d2] (by simp) rfl
   refine hK.out _ _ (HCt.out _ hA2) (fun hHeld=>?_)
   (try simp only[Act.put,sIx,sZ0,sZ1])
   clear hK K
   refine lk1 7 rfl (fun K hK=>?_)
   go_simp
   refine(HE.out _ _ hA2 (kBE.alloc _)).mono ?_
   rintro r1 y1 ⟨ve,rfl,hoE,hb1⟩
   go_simp
   obtain⟨pE,qE,hvE,_⟩:=hoE.form okE13
   generalize (L1++L2).length=lE at hvE
   subst hvE
   have hB1:=(hA2).trans (hb1.mono (hA2).size)
   refine hK.out _ _ (HCt.out _ hB1) (fun hHeld=>?_)
   (try simp only[Act.put,sIx,sZ0,sZ1])
   clear hK K
   refine lk1 13 rfl (fun K hK=>?_)
   go_simp
   refine(HI.out _ _ hB1 (kBI.on hb1)).mono ?_
   rintro r2 y2 ⟨vk,rfl,hoI,hb2⟩
   go_simp
   obtain⟨pI,qI,hvI,_⟩:=hoI.form okI13
   generalize List.length ([]:List Int)=lI at hvI
   subst hvI
   have hB2:=(hB1).trans (hb2.mono (hB1).size)
   refine hK.out _ _ (HCt.out _ hB2) (fun hHeld=>?_)
   (try simp only[Act.put,sIx,sZ0,sZ1])
   clear hK K
   refine lkT 19 14 (.agg #[.int .i64 0,.int .i64 0,.slice pE lE qE,.slice pI lI qI]) rfl (Or.inl ⟨by rfl,?_⟩) hHeld ?_
   ·intro w hSw;go_simp
   (try simp only[Act.put,sIx,sZ0,sZ1])
   have hoE:=hoE.on hb2
   have hoI:=hoI
   have kr:=HKr.out.on hB2
   have x0:=kr.cell 0
   have f0:=kr.frozen 0
   have x1:=kr.cell 1
   have f1:=kr.frozen 1
   have x2:=kr.cell 2
   have f2:=kr.frozen 2
   have x3:=kr.cell 3
   have f3:=kr.frozen 3
   simp only[gZ0,gZ1] at x0 x1 x2 x3
   refine lkZ rfl (fun K hK=>?_)
   go_simp
   refine hK.out _ _ ?_
   (try simp only[Exit.then])
   (try simp only[Act.put,sIx,sZ0,sZ1])
   clear hK K hHeld
   have hk:=store_pg (d0:=.int .i64 0) (d1:=.int .i64 0) (d2:=.slice pE lE qE) (d3:=.slice pI lI qI) kr
   have hbz:=((((HW1.out.trans (hB2 |>.mono hbsz)).setCell (p:=⟨w.heap.size+2,0,none⟩) (by show w.heap.size≤w.heap.size+2;omega) (.int .i64 0)).setCell (p:=⟨w.heap.size+2,1,none⟩) (by show w.heap.size≤w.heap.size+2;omega) (.int .i64 0)).setCell (p:=⟨w.heap.size+2,2,none⟩) (by show w.heap.size≤w.heap.size+2;omega) (.slice pE lE qE)).setCell (p:=⟨w.heap.size+2,3,none⟩) (by show w.heap.size≤w.heap.size+2;omega) (.slice pI lI qI)
   have hTz:KeepT [133] y2 ((((y2.setCell ⟨w.heap.size+2,0,none⟩ (.int .i64 0)).setCell ⟨w.heap.size+2,1,none⟩ (.int .i64 0)).setCell ⟨w.heap.size+2,2,none⟩ (.slice pE lE qE)).setCell ⟨w.heap.size+2,3,none⟩ (.slice pI lI qI)):=((((KeepT.refl _ y2).set kr (by decide) 0 _).set (kr.set 0 _) (by decide) 1 _).set ((kr.set 0 _).set 1 _) (by decide) 2 _).set (((kr.set 0 _).set 1 _).set 2 _) (by decide) 3 _
   have hoE2:=OwnRw.keep (us:=[64]) hoE (KeepO.ofT hTz (by decide)) (by decide)
   have hoI2:=OwnRw.keep (us:=[3]) hoI (KeepO.ofT hTz (by decide)) (by decide)
   have hoE3:=hoE2.base (show w.heap.size≤_ by simp;omega)
   have hoI3:=hoI2.base (show w.heap.size≤_ by have hz1:=hB1.size;first|omega|(simp;omega))
   have HF:=mkHid (And.intro hk (And.intro hbz (And.intro hoE3 hoI3)))
   clear hk hbz hTz hoE hoI hoE2 hoI2 hoE3 hoI3 kr
   go_wp2_with fail
   refine bodyPost_ret (results_cell1 (P:=Tryz.prog) rfl _ _ (w.heap.size+2) _ rfl (load_pg13 _ _ _ _ _ _ HF.out.1)) rfl ?_
   exact⟨⟨_,_,rfl,HF.out.2.2.1,HF.out.2.2.2⟩,HF.out.2.1⟩
 ·go_simp
  have hA1:=(hD).alloc (hD).size (.cells #[.slice b1 0 d1,.slice b2 0 d2] 58)
  have kBI:Blk ((Y0.drew).alloc (.cells #[.slice b1 0 d1,.slice b2 0 d2] 58)) (Y0.heap.size) 58 [.slice b1 0 d1,.slice b2 0 d2]:=Blk.newAt (Y0.drew) (Y0.heap.size) 58 _ [.slice b1 0 d1,.slice b2 0 d2] (by simp) rfl
  refine hK.out _ _ (HCt.out _ hA1) (fun hHeld=>?_)
  (try simp only[Act.put,sIx,sZ0,sZ1])
  clear hK K
  refine lk1 6 rfl (fun K hK=>?_)
  go_simp
  have hA2:=(hA1).alloc (hA1).size (.cells #[.slice a1 n1 c1,.slice a2 n2 c2] 50)
  have kBE:Blk (((Y0.drew.alloc (.cells #[.slice b1 0 d1,.slice b2 0 d2] 58))).alloc (.cells #[.slice a1 n1 c1,.slice a2 n2 c2] 50)) (Y0.heap.size+1) 50 [.slice a1 n1 c1,.slice a2 n2 c2]:=Blk.newAt ((Y0.drew.alloc (.cells #[.slice b1 0 d1,.slice b2 0 d2] 58))) (Y0.heap.size+1) 50 _ [.slice a1 n1 c1,.slice a2 n2 c2] (by simp) rfl
  refine hK.out _ _ (HCt.out _ hA2) (fun hHeld=>?_)
  (try simp only[Act.put,sIx,sZ0,sZ1])
  clear hK K
  refine lk1 7 rfl (fun K hK=>?_)
  go_simp
  refine(HE.out _ _ hA2 kBE).mono ?_
  rintro r1 y1 ⟨ve,rfl,hoE,hb1⟩
  go_simp
  obtain⟨pE,qE,hvE,_⟩:=hoE.form okE13
  generalize (L1++L2).length=lE at hvE
  subst hvE
  have hB1:=(hA2).trans (hb1.mono (hA2).size)
  refine hK.out _ _ (HCt.out _ hB1) (fun hHeld=>?_)
  (try simp only[Act.put,sIx,sZ0,sZ1])
  clear hK K
  refine lk1 13 rfl (fun K hK=>?_)
  go_simp
  refine(HI.out _ _ hB1 ((kBI.alloc _).on hb1)).mono ?_
  rintro r2 y2 ⟨vk,rfl,hoI,hb2⟩
  go_simp
  obtain⟨pI,qI,hvI,_⟩:=hoI.form okI13
  generalize List.length ([]:List Int)=lI at hvI
  subst hvI
  have hB2:=(hB1).trans (hb2.mono (hB1).size)
  refine hK.out _ _ (HCt.out _ hB2) (fun hHeld=>?_)
  (try simp only[Act.put,sIx,sZ0,sZ1])
  clear hK K
  refine lkT 19 14 (.agg #[.int .i64 0,.int .i64 0,.slice pE lE qE,.slice pI lI qI]) rfl (Or.inl ⟨by rfl,?_⟩) hHeld ?_
  ·intro w hSw;go_simp
  (try simp only[Act.put,sIx,sZ0,sZ1])
  have hoE:=hoE.on hb2
  have hoI:=hoI
  have kr:=HKr.out.on hB2
  have x0:=kr.cell 0
  have f0:=kr.frozen 0
  have x1:=kr.cell 1
  have f1:=kr.frozen 1
  have x2:=kr.cell 2
  have f2:=kr.frozen 2
  have x3:=kr.cell 3
  have f3:=kr.frozen 3
  simp only[gZ0,gZ1] at x0 x1 x2 x3
  refine lkZ rfl (fun K hK=>?_)
  go_simp
  refine hK.out _ _ ?_
  (try simp only[Exit.then])
  (try simp only[Act.put,sIx,sZ0,sZ1])
  clear hK K hHeld
  have hk:=store_pg (d0:=.int .i64 0) (d1:=.int .i64 0) (d2:=.slice pE lE qE) (d3:=.slice pI lI qI) kr
  have hbz:=((((HW1.out.trans (hB2 |>.mono hbsz)).setCell (p:=⟨w.heap.size+2,0,none⟩) (by show w.heap.size≤w.heap.size+2;omega) (.int .i64 0)).setCell (p:=⟨w.heap.size+2,1,none⟩) (by show w.heap.size≤w.heap.size+2;omega) (.int .i64 0)).setCell (p:=⟨w.heap.size+2,2,none⟩) (by show w.heap.size≤w.heap.size+2;omega) (.slice pE lE qE)).setCell (p:=⟨w.heap.size+2,3,none⟩) (by show w.heap.size≤w.heap.size+2;omega) (.slice pI lI qI)
  have hTz:KeepT [133] y2 ((((y2.setCell ⟨w.heap.size+2,0,none⟩ (.int .i64 0)).setCell ⟨w.heap.size+2,1,none⟩ (.int .i64 0)).setCell ⟨w.heap.size+2,2,none⟩ (.slice pE lE qE)).setCell ⟨w.heap.size+2,3,none⟩ (.slice pI lI qI)):=((((KeepT.refl _ y2).set kr (by decide) 0 _).set (kr.set 0 _) (by decide) 1 _).set ((kr.set 0 _).set 1 _) (by decide) 2 _).set (((kr.set 0 _).set 1 _).set 2 _) (by decide) 3 _
  have hoE2:=OwnRw.keep (us:=[64]) hoE (KeepO.ofT hTz (by decide)) (by decide)
  have hoI2:=OwnRw.keep (us:=[3]) hoI (KeepO.ofT hTz (by decide)) (by decide)
  have hoE3:=hoE2.base (show w.heap.size≤_ by simp;omega)
  have hoI3:=hoI2.base (show w.heap.size≤_ by have hz1:=hB1.size;first|omega|(simp;omega))
  have HF:=mkHid (And.intro hk (And.intro hbz (And.intro hoE3 hoI3)))
  clear hk hbz hTz hoE hoI hoE2 hoI2 hoE3 hoI3 kr
  go_wp2_with fail
  refine bodyPost_ret (results_cell1 (P:=Tryz.prog) rfl _ _ (w.heap.size+2) _ rfl (load_pg13 _ _ _ _ _ _ HF.out.1)) rfl ?_
  exact⟨⟨_,_,rfl,HF.out.2.2.1,HF.out.2.2.2⟩,HF.out.2.1⟩
theorem codMend1 (w w0:World)(S J P base m:Nat)(t:Tl)(j:Jl)(Bp rt s n cap g i bk:Nat)(A B:Ps)(l:List Et)(ke kk:SlV)(Lk:List Eq3)(pa:Option Addr)(pc:Nat)(h:SpAx w S J P base t j)(hF:FR t j m (A++(s,l):: B) [(rt:Int)])(hrd:spRdB t j (rt:Int)=nodeB ((A++(s,l):: B).map (·.1)))(hso:SrtE (entsP (A++(s,l):: B)))(hK:KS base w0 w)
  (hB:Blk w Bp 133 [.int .i64 (rt:Int),.int .i64 1,.slice pa 0 pc,.slice (some ⟨g,0,none⟩) n cap]) (hBp:w0.heap.size≤Bp) (hO:OwnZ w w0.heap.size (.slice (some ⟨g,0,none⟩) n cap) (((A++(s,l):: B).map (·.1)).map Int.ofNat)) (hke:OwnN w bk (slv13 ke) Lk) (hkx:∀x∈Lk,EtP w x.1 x.2) (hkm:Lk.map Prod.fst=l) (hkk:OwnZ w bk (slv13 kk) (([]:List Nat).map Int.ofNat)) (hi:A.length=i) (hn:n≤254) (hroom:t.l.length+3≤48) (hlo0:base≤w0.heap.size):
  Calls Tryz.prog 106 #[gT S,.pointer (some ⟨Bp,0,none⟩),.int .i64 (i:Int),.agg #[.int .i64 (s:Int),.int .i64 0,slv13 ke,slv13 kk]] w (MendPost w0 S J P base m t j Bp rt A B l pa pc):=by
 have hlo:=spcOK.lo h
 have hsz0:w0.heap.size≤w.heap.size:=hK.o.size
 have hBl:=hB.lt
 have hf:=hF.tk.fit
 have hn2:=hf.few.n
 have hl:LfOk l:=(hF.lf (s,l) (List.mem_append_right A List.mem_cons_self)).ok
 have hsr:=hF.rng (p:=(s,l)) (List.mem_append_right A List.mem_cons_self)
 have hrr:=hF.tk.rng (rt:Int) (List.mem_append_left _ List.mem_cons_self)
 have hnl:n=(A++(s,l):: B).length:=by obtain⟨_,_,_,hn',_⟩:=(OwnZ.c hO).cur;rw[hn',List.length_map,List.length_map]
 have hin:i<n:=by rw[hnl,←hi];simp
 obtain⟨hk0,hks⟩:=kids_none hkk
 have hes:SrcC rtE13 w ke.1 ke.2.1 ke.2.2 Lk:=OwnRw.src okE13 (show OwnRw rtE13 w bk (.slice ke.1 ke.2.1 ke.2.2) Lk from hke.c)
 have hen:ke.2.1=l.length:=by rw[←hes.len,←hkm,List.length_map]
 have hl0:0<l.length:=List.length_pos_iff.2 hl.ne
 have hll:=hl.len
 have hkv:slv13 kk=.slice kk.1 0 kk.2.2:=by unfold slv13;rw[hk0]
 have hkRd:PgR 0 w ⟨0,l,[]⟩ (.slice ke.1 ke.2.1 ke.2.2) (.slice kk.1 0 kk.2.2) Lk:=⟨hke.rd hkx,⟨kk.1,kk.2.2,rfl,Nat.zero_le _,fun hp=>absurd hp (Nat.lt_irrefl 0)⟩,hkm⟩
 rw[hkv]
 unfold gT slv13
 have W1:Below w.heap.size w ((w.alloc (.cells #[.pointer (some ⟨S,0,none⟩)] 87)).alloc (.cells #[.int .i64 (s:Int),.int .i64 0,.slice ke.1 ke.2.1 ke.2.2,.slice kk.1 0 kk.2.2] 133)):=((Below.refl _ w).alloc (Nat.le_refl _) _).alloc (by simp) _
 have k0:Blk ((w.alloc (.cells #[.pointer (some ⟨S,0,none⟩)] 87)).alloc (.cells #[.int .i64 (s:Int),.int .i64 0,.slice ke.1 ke.2.1 ke.2.2,.slice kk.1 0 kk.2.2] 133)) w.heap.size 87 [.pointer (some ⟨S,0,none⟩)]:=(Blk.newAt w w.heap.size 87 #[.pointer (some ⟨S,0,none⟩)] [.pointer (some ⟨S,0,none⟩)] rfl rfl).alloc _
 have k1:Blk ((w.alloc (.cells #[.pointer (some ⟨S,0,none⟩)] 87)).alloc (.cells #[.int .i64 (s:Int),.int .i64 0,.slice ke.1 ke.2.1 ke.2.2,.slice kk.1 0 kk.2.2] 133)) (w.heap.size+1) 133 [.int .i64 (s:Int),.int .i64 0,.slice ke.1 ke.2.1 ke.2.2,.slice kk.1 0 kk.2.2]:=Blk.newAt _ (w.heap.size+1) 133 _ _ (by simp) rfl
 generalize hW:(w.alloc (.cells #[.pointer (some ⟨S,0,none⟩)] 87)).alloc (.cells #[.int .i64 (s:Int),.int .i64 0,.slice ke.1 ke.2.1 ke.2.2,.slice kk.1 0 kk.2.2] 133)=Y0 at *
 have hA0:=SpAx.keep h (KeepT.of_below W1)
 have hK0:=hK.trans (KS.of_below W1 hlo)
 have hP0:=hB.on W1
 have hO0:OwnZ Y0 w0.heap.size (.slice (some ⟨g,0,none⟩) n cap) (((A++(s,l):: B).map (·.1)).map Int.ofNat):=own_keepO (us:=[3]) (KeepO.of_below W1) hO (by decide)
 have HLn:∀W,Calls Tryz.prog 70 #[.agg #[.int .i64 (s:Int),.int .i64 0,.slice ke.1 ke.2.1 ke.2.2,.slice kk.1 0 kk.2.2]] W fun e w'=>e=.returned (.int .i64 (ke.2.1:Int))∧Below W.heap.size W w':=fun W=>codLen13 (s:Int) 0 ke.1 kk.1 ke.2.1 ke.2.2 0 kk.2.2 W (by omega)
 have HSl:Hid (∀W,Below Y0.heap.size Y0 W→Calls Tryz.prog 150 #[.agg #[.int .i64 (s:Int),.int .i64 0,.slice ke.1 ke.2.1 ke.2.2,.slice kk.1 0 kk.2.2]] W fun e w'=>e=.returned (.bool (decide (szL l<254)))∧Below W.heap.size W w'):=fun W hW=>by
  have:=codSlim (fl:=0) (s:Int) ⟨0,l,[]⟩ (.slice ke.1 ke.2.1 ke.2.2) (.slice kk.1 0 kk.2.2) Lk W ((hkRd.below W1).below hW) (pgF_leaf13 hl.ok (by omega))
  rw[show szP ⟨0,l,[]⟩=szL l by unfold szP;simp] at this
  exact this
 have HSrc:Hid (∀W,Below Y0.heap.size Y0 W→SrcC rtE13 W ke.1 ke.2.1 ke.2.2 Lk∧SrcC rtI13 W kk.1 0 kk.2.2 []∧∀x∈Lk,EtP W x.1 x.2):=fun W hW=>⟨(hes.below W1).below hW,(hks.below W1).below hW,fun x hx=>((hkx x hx).below W1).below hW⟩
 have HCt:Hid (∀W,Below Y0.heap.size Y0 W→W.cell? ⟨w.heap.size,0,none⟩=some (.pointer (some ⟨S,0,none⟩))∧W.cell? ⟨w.heap.size+1,0,none⟩=some (.int .i64 (s:Int))∧W.cell? ⟨w.heap.size+1,1,none⟩=some (.int .i64 0)∧W.cell? ⟨w.heap.size+1,2,none⟩=some (.slice ke.1 ke.2.1 ke.2.2)∧W.cell? ⟨w.heap.size+1,3,none⟩=some (.slice kk.1 0 kk.2.2)∧W.cell? ⟨Bp,0,none⟩=some (.int .i64 (rt:Int))∧W.cell? ⟨Bp,1,none⟩=some (.int .i64 1)∧W.cell? ⟨Bp,2,none⟩=some (.slice pa 0 pc)∧W.cell? ⟨Bp,3,none⟩=some (.slice (some ⟨g,0,none⟩) n cap)):=fun W hW =>
  ⟨(k0.on hW).cell 0,(k1.on hW).cell 0,(k1.on hW).cell 1,(k1.on hW).cell 2,(k1.on hW).cell 3,(hP0.on hW).cell 0,(hP0.on hW).cell 1,(hP0.on hW).cell 2,(hP0.on hW).cell 3⟩
 have HBs:Hid (∀W,Below Y0.heap.size Y0 W→Calls Tryz.prog 151 #[.agg #[.pointer (some ⟨S,0,none⟩)],.agg #[.int .i64 (rt:Int),.int .i64 1,.slice pa 0 pc,.slice (some ⟨g,0,none⟩) n cap],.int .i64 (i:Int),.agg #[.int .i64 (s:Int),.int .i64 0,.slice ke.1 ke.2.1 ke.2.2,.slice kk.1 0 kk.2.2]] W (BesPost W ((A++(s,l):: B).map (·.1)) (fun i=>((A++(s,l):: B).getD i (0,[])).2) i s ke kk)):=fun W hW=>by
  have hz:OwnZ W w0.heap.size (.slice (some ⟨g,0,none⟩) n cap) (((A++(s,l):: B).map (·.1)).map Int.ofNat):=own_keepO (us:=[3]) (KeepO.of_below hW) hO0 (by decide)
  have:=codBeside W S J P base m t j (rt:Int) pa (some ⟨g,0,none⟩) 0 pc n cap i s ke kk ((A++(s,l):: B).map (·.1)) _ (SpAx.keep hA0 (KeepT.of_below hW)) hf hz.rd (fr_kids hF) (by rw[List.length_map,←hnl];omega) (by rw[List.length_map,←hnl];exact hin)
  rw[hkv] at this
  exact this
 have HA0:=mkHid hA0
 have HK0:=mkHid hK0
 have HB0:=mkHid k0
 have HB1:=mkHid k1
 have HP0:=mkHid hP0
 have HO0:=mkHid hO0
 have HW1:=mkHid W1
 have HF:=mkHid (And.intro hF (And.intro hrd hso))
 have HI:=mkHid hi
 have HLo:Hid (base≤Y0.heap.size):=spcOK.lo hA0
 have HNl:=mkHid hnl
 have HEn:=mkHid (And.intro hkm hk0)
 have c0:=k0.cell 0
 have q0:=k1.cell 0
 have q1:=k1.cell 1
 have q2:=k1.cell 2
 have q3:=k1.cell 3
 simp only[gZ0,gZ1] at c0 q0 q1 q2 q3
 have hne0:((ke.2.1:Int)==0)=false:=by rw[beq_eq_false_iff_ne];omega
 have hne1:¬ke.2.1=0:=by omega
 clear h hF hrd hso hK hB hO hke hkx hkm hkk hi hA0 hK0 hP0 hO0 k0 k1 W1 hnl hes hks hkRd hkv hk0 hen
 by_cases hsl:szL l<254
 rotate_left
 ·rw[decide_eq_false hsl] at HSl
  go_enter Tryz.func106,Tryz.ntmps106
  go_upto_region 1 with fail
  (try rw[hW])
  clear hW
  go_upto_region 4 with(go_at_call 70;refine(HLn _).mono ?_;rintro r1 y1 ⟨rfl,hb1⟩)
  obtain⟨c0,q0,q1,q2,q3,_,_,_,_⟩:=HCt.out y1 hb1
  have hSl:=HSl.out y1 hb1
  have HB1':=mkHid hb1
  clear hb1
  go_wp2_with (go_at_call 150;refine hSl.mono ?_;rintro r2 y2 ⟨rfl,hb2⟩;have HB2':=mkHid hb2;clear hb2)
  refine bodyPost_ret (results_none rfl _ _ _) rfl ?_
  have hb:=HB1'.out.trans (HB2'.out.mono HB1'.out.size)
  refine⟨rfl,⟨t,A++(s,l):: B,some ⟨g,0,none⟩,n,cap,SpAx.keep HA0.out (KeepT.of_below hb),⟨HF.out.1,HF.out.2.1,ents_mid A B s l,by simp;omega,by simp,by omega⟩,HP0.out.on hb,own_keepO (us:=[3]) (KeepO.of_below hb) HO0.out (by decide)⟩,HK0.out.trans (KS.of_below hb HLo.out)⟩
 rw[decide_eq_true hsl] at HSl
 go_enter Tryz.func106,Tryz.ntmps106
 go_upto_region 1 with fail
 (try rw[hW])
 clear hW
 go_upto_region 4 with(go_at_call 70;refine(HLn _).mono ?_;rintro r1 y1 ⟨rfl,hb1⟩)
 obtain⟨c0,q0,q1,q2,q3,_,_,_,_⟩:=HCt.out y1 hb1
 have hSl:=HSl.out y1 hb1
 go_upto_region 5 with(go_at_call 150;refine hSl.mono ?_;rintro r2 y2 ⟨rfl,hb2⟩)
 have hB02:=hb1.trans (hb2.mono hb1.size)
 have hBD:Below Y0.heap.size Y0 y2.drew:=hB02.trans ((Below.refl _ y2).drew.mono hB02.size)
 have hBs:=HBs.out _ hBD
 have HBD:=mkHid hBD
 clear hSl HSl HBs HLn hb1 hb2 hB02
 refine lk0 (fun W=>W.cell? ⟨w.heap.size,0,none⟩=some (.pointer (some ⟨S,0,none⟩))∧W.cell? ⟨w.heap.size+1,0,none⟩=some (.int .i64 (s:Int))∧W.cell? ⟨w.heap.size+1,1,none⟩=some (.int .i64 0)∧W.cell? ⟨w.heap.size+1,2,none⟩=some (.slice ke.1 ke.2.1 ke.2.2)∧W.cell? ⟨w.heap.size+1,3,none⟩=some (.slice kk.1 0 kk.2.2)∧W.cell? ⟨Bp,0,none⟩=some (.int .i64 (rt:Int))∧W.cell? ⟨Bp,1,none⟩=some (.int .i64 1)∧W.cell? ⟨Bp,2,none⟩=some (.slice pa 0 pc)∧W.cell? ⟨Bp,3,none⟩=some (.slice (some ⟨g,0,none⟩) n cap)) 7 (HCt.out _ hBD) (fun hHeld=>?_)
 refine lkT 34 0 (.agg #[.pointer (some ⟨S,0,none⟩)]) rfl (Or.inl ⟨by rfl,?_⟩) hHeld ?_
 ·intro w hSw;obtain⟨s0,s1,s2,s3,s4,s5,s6,s7,s8⟩:=hSw;go_simp
 (try simp only[Act.put,sIx,sZ0,sZ1])
 refine lkT 35 1 (.pointer (some ⟨Bp,0,none⟩)) rfl (Or.inl ⟨by rfl,?_⟩) hHeld ?_
 ·intro w hSw;go_simp
 (try simp only[Act.put,sIx,sZ0,sZ1])
 refine lkT 36 2 (.pointer (some ⟨Bp,0,none⟩)) rfl (Or.inl ⟨by rfl,?_⟩) hHeld ?_
 ·intro w hSw;go_simp
 (try simp only[Act.put,sIx,sZ0,sZ1])
 refine lkT 37 3 (.agg #[.int .i64 (rt:Int),.int .i64 1,.slice pa 0 pc,.slice (some ⟨g,0,none⟩) n cap]) rfl (Or.inl ⟨by rfl,?_⟩) hHeld ?_
 ·intro w hSw;obtain⟨s0,s1,s2,s3,s4,s5,s6,s7,s8⟩:=hSw;go_simp
 (try simp only[Act.put,sIx,sZ0,sZ1])
 refine lkT 38 4 (.int .i64 (i:Int)) rfl (Or.inl ⟨by rfl,?_⟩) hHeld ?_
 ·intro w hSw;go_simp
 (try simp only[Act.put,sIx,sZ0,sZ1])
 refine lkT 39 5 (.agg #[.int .i64 (s:Int),.int .i64 0,.slice ke.1 ke.2.1 ke.2.2,.slice kk.1 0 kk.2.2]) rfl (Or.inl ⟨by rfl,?_⟩) hHeld ?_
 ·intro w hSw;obtain⟨s0,s1,s2,s3,s4,s5,s6,s7,s8⟩:=hSw;go_simp
 (try simp only[Act.put,sIx,sZ0,sZ1])
 refine lk1 6 rfl (fun K hK=>?_)
 go_simp
 refine hBs.mono ?_
 rintro r3 y3 ⟨⟨v3,xs,rfl,hOx,hxl,hxo⟩,hb3⟩
 go_simp
 have hB3:=hBD.trans (hb3.mono hBD.size)
 obtain⟨xa,xcap,hv3,_,_,hcell⟩:=hOx.form okP13
 subst hv3
 refine hK.out _ _ (HCt.out _ hB3) (fun hHeld=>?_)
 (try simp only[Act.put,sIx,sZ0,sZ1])
 clear hK K hBs
 have HX:=mkHid (And.intro hxo (And.intro hcell hB3))
 obtain⟨nx,hnx⟩:∃nx,nx=xs.length:=⟨_,rfl⟩
 rw[←hnx] at hxl ⊢
 have HNx:=mkHid hnx
 clear hOx hxo hcell hb3 hBD hB3 hnx
 refine lkZ rfl (fun K hK=>?_)
 go_simp
 refine hK.out _ _ ?_
 (try simp only[Exit.then])
 (try simp only[Act.put,sIx,sZ0,sZ1])
 clear hK K hHeld
 go_wp2_with fail
 clear c0 q0 q1 q2 q3
 go_loopg [43] nx (fun kx i wr=>∃(k:Nat),k≤nx∧nx-k≤kx∧i=.int .i64 (k:Int)∧Hid (Below y3.heap.size y3 wr))
 case atStart=>exact⟨0,Nat.zero_le _,by omega,rfl,Below.refl _ _⟩
 case round =>
  obtain⟨k,hk,hkx,rfl,HBz⟩:=hrel
  have hBw:Below Y0.heap.size Y0 wr:=HX.out.2.2.trans (HBz.out.mono HX.out.2.2.size)
  obtain⟨c0,q0,q1,q2,q3,b0,b1,b2,b3⟩:=HCt.out wr hBw
  by_cases hlt:k<nx
  ·have hlt':(k:Int)<(nx:Int):=by omega
   have hk0i:(0:Int)≤(k:Int):=by omega
   have hwk:IntKind.i64.wrap ((k:Int)+1)=(k:Int)+1:=wrapi64_in _ (by omega) (by omega)
   have hklx:k<xs.length:=by rw[←HNx.out];exact hlt
   have hpo:=(HX.out.1 xs[k] (List.getElem_mem hklx)).below HBz.out
   obtain⟨e1',e2',e3'⟩:=HSrc.out wr hBw
   obtain⟨kq,a1,a2,gs,⟨u1a,u1n,u1c⟩,⟨v1a,v1n,v1c⟩,⟨u2a,u2n,u2c⟩,⟨v2a,v2n,v2c⟩,La,Lb,lj,J⟩:=pr_facts hpo HI.out HF.out.1 HF.out.2.2 hroom e1' e2' HEn.out.2 e3' HEn.out.1
   obtain rfl:v1n=0:=J.ka0
   obtain rfl:v2n=0:=J.kb0
   obtain⟨gx,hxa,_,hgx,hcl⟩:=HX.out.2.1 (by omega)
   have hcw:∀jj,jj<9→wr.cell? ⟨gx,k * 9+jj,none⟩=(prc xs[k])[jj]?:=fun jj hj=>(cell_same (HBz.out.5 gx hgx) _).trans (hcl k hklx jj hj)
   rw[J.x] at hcw
   have r0:=hcw 0 (by omega)
   have r1:=hcw 1 (by omega)
   have r2:=hcw 2 (by omega)
   have r3:=hcw 3 (by omega)
   have r4:=hcw 4 (by omega)
   have r5:=hcw 5 (by omega)
   have r6:=hcw 6 (by omega)
   have r7:=hcw 7 (by omega)
   have r8:=hcw 8 (by omega)
   simp only[prc,slv13,gZ0,gZ1,Nat.add_zero] at r0 r1 r2 r3 r4 r5 r6 r7 r8
   have hA1:Below wr.heap.size wr (wr.alloc (.cells #[.int .i64 (kq:Int),.int .i64 (a1:Int),.int .i64 0,.slice u1a u1n u1c,.slice v1a 0 v1c,.int .i64 (a2:Int),.int .i64 0,.slice u2a u2n u2c,.slice v2a 0 v2c] 215)):=(Below.refl _ wr).alloc (Nat.le_refl _) _
   have kpr:Blk (wr.alloc (.cells #[.int .i64 (kq:Int),.int .i64 (a1:Int),.int .i64 0,.slice u1a u1n u1c,.slice v1a 0 v1c,.int .i64 (a2:Int),.int .i64 0,.slice u2a u2n u2c,.slice v2a 0 v2c] 215)) wr.heap.size 215 [.int .i64 (kq:Int),.int .i64 (a1:Int),.int .i64 0,.slice u1a u1n u1c,.slice v1a 0 v1c,.int .i64 (a2:Int),.int .i64 0,.slice u2a u2n u2c,.slice v2a 0 v2c]:=Blk.new wr 215 [.int .i64 (kq:Int),.int .i64 (a1:Int),.int .i64 0,.slice u1a u1n u1c,.slice v1a 0 v1c,.int .i64 (a2:Int),.int .i64 0,.slice u2a u2n u2c,.slice v2a 0 v2c]
   have hJd:=codJoined13 (wr.alloc (.cells #[.int .i64 (kq:Int),.int .i64 (a1:Int),.int .i64 0,.slice u1a u1n u1c,.slice v1a 0 v1c,.int .i64 (a2:Int),.int .i64 0,.slice u2a u2n u2c,.slice v2a 0 v2c] 215)) (a1:Int) (a2:Int) u1a u2a v1a v2a u1n u2n u1c u2c v1c v2c La Lb (J.ea.below hA1) (J.eb.below hA1) (J.ka.below hA1) (J.kb.below hA1) J.len
   have hb1':=hBw.trans (hA1.mono hBw.size)
   have HJ:=mkHid J
   have HPr:=mkHid kpr
   have HBw1:=mkHid hb1'
   have hbz1:=HBz.out.trans (hA1.mono HBz.out.size)
   have HBz1:=mkHid hbz1
   have p1:=kpr.cell 1
   have p2:=kpr.cell 2
   have p3:=kpr.cell 3
   have p4:=kpr.cell 4
   have p5:=kpr.cell 5
   have p6:=kpr.cell 6
   have p7:=kpr.cell 7
   have p8:=kpr.cell 8
   simp only[gZ0,gZ1] at p1 p2 p3 p4 p5 p6 p7 p8
   have HEt1:Hid (∀x∈La++Lb,EtP (wr.alloc (.cells #[.int .i64 (kq:Int),.int .i64 (a1:Int),.int .i64 0,.slice u1a u1n u1c,.slice v1a 0 v1c,.int .i64 (a2:Int),.int .i64 0,.slice u2a u2n u2c,.slice v2a 0 v2c] 215)) x.1 x.2):=fun x hx=>(J.et x hx).below hA1
   have hLl:(La++Lb).length≤1000:=by rw[List.length_append,J.ea.len,J.eb.len];exact J.len
   have hljl:lj.length≤1000:=by rw[←J.map,List.length_map];exact hLl
   subst hxa
   clear J hpo e1' e2' e3' hcw hcl hA1 kpr hb1' hbz1 hBw
   generalize hA1e:wr.alloc (.cells #[.int .i64 (kq:Int),.int .i64 (a1:Int),.int .i64 0,.slice u1a u1n u1c,.slice v1a 0 v1c,.int .i64 (a2:Int),.int .i64 0,.slice u2a u2n u2c,.slice v2a 0 v2c] 215)=A1 at *
   by_cases hfit:szL lj≤509
   ·obtain⟨o1,o2,o3,o4,o5,o6,Q,o7,o8⟩:=HJ.out.ok hfit
    go_upto_region 11 with(first|(go_at_call 152;refine hJd.mono ?_;rintro r5 y5 ⟨⟨ve,vk,rfl,hoE,hoI⟩,hb5⟩;obtain⟨va,vc,hve,_⟩:=OwnRw.form okE13 hoE;obtain⟨za,zc,hvk,_⟩:=OwnRw.form okI13 hoI;simp only[List.length_nil] at hvk;obtain⟨nv,hnv⟩:∃nv,nv=(La++Lb).length:=⟨_,rfl⟩;rw[←hnv] at hve;subst hve hvk;have hA5:Below y5.heap.size y5 (y5.alloc (.cells #[.int .i64 0,.int .i64 0,.slice va nv vc,.slice za 0 zc] 133)):=(Below.refl _ y5).alloc (Nat.le_refl _) _;have kw5:Blk (y5.alloc (.cells #[.int .i64 0,.int .i64 0,.slice va nv vc,.slice za 0 zc] 133)) y5.heap.size 133 [.int .i64 0,.int .i64 0,.slice va nv vc,.slice za 0 zc]:=Blk.new y5 133 [.int .i64 0,.int .i64 0,.slice va nv vc,.slice za 0 zc];have hPg:PgR 0 (y5.alloc (.cells #[.int .i64 0,.int .i64 0,.slice va nv vc,.slice za 0 zc] 133)) ⟨0,lj,[]⟩ (.slice va nv vc) (.slice za 0 zc) (La++Lb):=⟨OwnN.rd (hoE.n13.on hA5) (fun x hx=>((HEt1.out x hx).below hb5).below hA5),⟨za,zc,rfl,Nat.zero_le _,fun hp=>absurd hp (Nat.lt_irrefl 0)⟩,HJ.out.map⟩;have hFi:=codFits 0 ⟨0,lj,[]⟩ (.slice va nv vc) (.slice za 0 zc) (La++Lb) _ hPg (pgF_leaf13 HJ.out.items hljl);rw[show szP ⟨0,lj,[]⟩=szL lj by (unfold szP;simp),decide_eq_true hfit] at hFi;unfold pgc at hFi;have hFi:Calls Tryz.prog 145 #[.agg #[.int .i64 0,.int .i64 0,.slice va nv vc,.slice za 0 zc]] (y5.alloc (.cells #[.int .i64 0,.int .i64 0,.slice va nv vc,.slice za 0 zc] 133)) (fun e w'=>e=.returned (.bool true)∧Below (y5.alloc (.cells #[.int .i64 0,.int .i64 0,.slice va nv vc,.slice za 0 zc] 133)).heap.size (y5.alloc (.cells #[.int .i64 0,.int .i64 0,.slice va nv vc,.slice za 0 zc] 133)) w'):=hFi;have HJ5:Hid (A1.heap.size≤y5.heap.size):=hb5.size;have hb15:=hb5.trans (hA5.mono hb5.size);have HB15:=mkHid hb15;have HKw:=mkHid kw5;have HPg:=mkHid hPg;have g0:=kw5.cell 0;have g1:=kw5.cell 1;have g2:=kw5.cell 2;have g3:=kw5.cell 3;simp only[gZ0,gZ1] at g0 g1 g2 g3;clear hb15 kw5 hPg hA5 hb5 hoE hoI hnv)|(go_at_call 145;refine hFi.mono ?_;rintro r6 y6 ⟨rfl,hb6⟩))
    have hB6:=HBw1.out.trans ((HB15.out.trans (hb6.mono HB15.out.size)).mono HBw1.out.size)
    obtain⟨c0,q0,q1,q2,q3,b0,b1,b2,b3⟩:=HCt.out _ hB6
    have kw6:=HKw.out.on hb6
    have g0:=kw6.cell 0
    have gf:=kw6.frozen 0
    simp only[List.getElem?_cons_zero] at g0
    have hlt5:wr.heap.size<y5.heap.size:=Nat.lt_of_lt_of_le HPr.out.lt HJ5.out
    have h05:Y0.heap.size≤y5.heap.size:=Nat.le_trans HBw1.out.size HJ5.out
    have kp6:=(HPr.out.on HB15.out).on hb6
    have kp7:=kp6.other ⟨y5.heap.size,0,none⟩ (.int .i64 (s:Int)) (by show wr.heap.size≠y5.heap.size;omega)
    have kw7:=kw6.set 0 (.int .i64 (s:Int))
    have hB7:=hB6.setCell (p:=⟨y5.heap.size,0,none⟩) h05 (.int .i64 (s:Int))
    have hPg7:=(HPg.out.below hb6).keep (KeepU.zero (KeepO.ofT ((KeepT.refl [133] y6).set kw6 (by decide) 0 (.int .i64 (s:Int))) (by decide)))
    go_upto_region 12 with fail
    clear c0 q0 q1 q2 q3 b0 b1 b2 b3 g0 gf kw6 hB6 kp6 hb6
    generalize y6.setCell ⟨y5.heap.size,0,none⟩ (.int .i64 (s:Int))=W7 at *
    obtain⟨c0,q0,q1,q2,q3,b0,b1,b2,b3⟩:=HCt.out _ hB7
    have p0:=kp7.cell 0
    have p1:=kp7.cell 1
    have p2:=kp7.cell 2
    have p3:=kp7.cell 3
    have p4:=kp7.cell 4
    have p5:=kp7.cell 5
    have p6:=kp7.cell 6
    have p7:=kp7.cell 7
    have p8:=kp7.cell 8
    have g0:=kw7.cell 0
    have g1:=kw7.cell 1
    have g2:=kw7.cell 2
    have g3:=kw7.cell 3
    simp only[List.set_cons_zero,gZ0,gZ1] at p0 p1 p2 p3 p4 p5 p6 p7 p8 g0 g1 g2 g3
    have hA7:=SpAx.keep HA0.out (KeepT.of_below hB7)
    have hO7:OwnZ W7 w0.heap.size (.slice (some ⟨g,0,none⟩) n cap) (((A++(s,l):: B).map (·.1)).map Int.ofNat):=own_keepO (us:=[3]) (KeepO.of_below hB7) HO0.out (by decide)
    have hks6:∀x∈(A++(s,l):: B).map (·.1),x<65536:=fun x hx=>by
     obtain⟨y,hy,rfl⟩:=List.mem_map.1 hx
     have:=HF.out.1.rng hy
     omega
    have hJn:=codJoin13 W7 w0 S J P base m t j Bp rt s gs a1 a2 kq n cap g pa va za pc nv vc zc (u1a,u1n,u1c) (v1a,0,v1c) (u2a,u2n,u2c) (v2a,0,v2c) ((A++(s,l):: B).map (·.1)) lj (La++Lb) hA7 hf o3 o5 o2 o4 o6 (by omega) HJ.out.gn (by omega) (HK0.out.trans (KS.of_below hB7 HLo.out)) (HP0.out.on hB7) hBp hO7 (by have:=HJ.out.hq;rw[List.length_map,←HNl.out] at this;exact this) hn hPg7 o1 hks6 HJ.out.go hlo0
    simp only at hJn
    unfold gT at hJn
    have HO7:=mkHid (And.intro o7 o8)
    clear o1 o2 o3 o4 o5 o6 o7 o8 hks6 hO7 hA7 kp7 kw7 hPg7
    go_wp2_with (go_at_call 153;refine hJn.mono ?_;rintro r8 y8 ⟨rfl,hA8,hB8,hO8,hk8⟩;have HR8:=mkHid (And.intro hA8 (And.intro hB8 (And.intro hO8 hk8)));clear hA8 hB8 hO8 hk8)
    refine bodyPost_ret (results_none rfl _ _ _) rfl ?_
    refine⟨rfl,⟨_,Q,some ⟨g,0,none⟩,n-1,cap,HR8.out.1,HO7.out.1,HR8.out.2.1,?_⟩,HR8.out.2.2.2⟩
    rw[←HO7.out.2]
    exact HR8.out.2.2.1
   ·go_wp2_with (first|(go_at_call 152;refine hJd.mono ?_;rintro r5 y5 ⟨⟨ve,vk,rfl,hoE,hoI⟩,hb5⟩;obtain⟨va,vc,hve,_⟩:=OwnRw.form okE13 hoE;obtain⟨za,zc,hvk,_⟩:=OwnRw.form okI13 hoI;simp only[List.length_nil] at hvk;obtain⟨nv,hnv⟩:∃nv,nv=(La++Lb).length:=⟨_,rfl⟩;rw[←hnv] at hve;subst hve hvk;have hA5:Below y5.heap.size y5 (y5.alloc (.cells #[.int .i64 0,.int .i64 0,.slice va nv vc,.slice za 0 zc] 133)):=(Below.refl _ y5).alloc (Nat.le_refl _) _;have kw5:Blk (y5.alloc (.cells #[.int .i64 0,.int .i64 0,.slice va nv vc,.slice za 0 zc] 133)) y5.heap.size 133 [.int .i64 0,.int .i64 0,.slice va nv vc,.slice za 0 zc]:=Blk.new y5 133 [.int .i64 0,.int .i64 0,.slice va nv vc,.slice za 0 zc];have hPg:PgR 0 (y5.alloc (.cells #[.int .i64 0,.int .i64 0,.slice va nv vc,.slice za 0 zc] 133)) ⟨0,lj,[]⟩ (.slice va nv vc) (.slice za 0 zc) (La++Lb):=⟨OwnN.rd (hoE.n13.on hA5) (fun x hx=>((HEt1.out x hx).below hb5).below hA5),⟨za,zc,rfl,Nat.zero_le _,fun hp=>absurd hp (Nat.lt_irrefl 0)⟩,HJ.out.map⟩;have hFi:=codFits 0 ⟨0,lj,[]⟩ (.slice va nv vc) (.slice za 0 zc) (La++Lb) _ hPg (pgF_leaf13 HJ.out.items hljl);rw[show szP ⟨0,lj,[]⟩=szL lj by (unfold szP;simp),decide_eq_false hfit] at hFi;unfold pgc at hFi;have hFi:Calls Tryz.prog 145 #[.agg #[.int .i64 0,.int .i64 0,.slice va nv vc,.slice za 0 zc]] (y5.alloc (.cells #[.int .i64 0,.int .i64 0,.slice va nv vc,.slice za 0 zc] 133)) (fun e w'=>e=.returned (.bool false)∧Below (y5.alloc (.cells #[.int .i64 0,.int .i64 0,.slice va nv vc,.slice za 0 zc] 133)).heap.size (y5.alloc (.cells #[.int .i64 0,.int .i64 0,.slice va nv vc,.slice za 0 zc] 133)) w'):=hFi;have HJ5:Hid (A1.heap.size≤y5.heap.size):=hb5.size;have hb15:=hb5.trans (hA5.mono hb5.size);have HB15:=mkHid hb15;have HKw:=mkHid kw5;have HPg:=mkHid hPg;have g0:=kw5.cell 0;have g1:=kw5.cell 1;have g2:=kw5.cell 2;have g3:=kw5.cell 3;simp only[gZ0,gZ1] at g0 g1 g2 g3;clear hb15 kw5 hPg hA5 hb5 hoE hoI hnv)|(go_at_call 145;refine hFi.mono ?_;rintro r6 y6 ⟨rfl,hb6⟩;have HB6:=mkHid hb6;clear hb6))
    go_roundg (nx-(k+1))
    all_goals first|exact Nat.lt_of_lt_of_le (Nat.sub_lt_sub_left hlt (Nat.lt_succ_self k)) hkx|skip
    all_goals exact⟨k+1,by omega,Nat.le_refl _,by go_num,HBz1.out.trans ((HB15.out.trans (HB6.out.mono HB15.out.size)).mono HBz1.out.size)⟩
  ·have hlt':¬(k:Int)<(nx:Int):=by omega
   have HBw:=mkHid hBw
   clear hBw
   go_wp2_with fail
   refine bodyPost_end (results_none rfl _ _ _) rfl ?_
   refine⟨rfl,⟨t,A++(s,l):: B,some ⟨g,0,none⟩,n,cap,SpAx.keep HA0.out (KeepT.of_below HBw.out),⟨HF.out.1,HF.out.2.1,ents_mid A B s l,by simp;omega,by simp,by omega⟩,HP0.out.on HBw.out,own_keepO (us:=[3]) (KeepO.of_below HBw.out) HO0.out (by decide)⟩,HK0.out.trans (KS.of_below HBw.out HLo.out)⟩
end
end Go.Proofs.YtpecobmfabmpkaaGreatDoor
