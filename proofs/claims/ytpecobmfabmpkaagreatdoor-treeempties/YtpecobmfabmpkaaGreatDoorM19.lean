/- Pj4 PjD -/
import Derived.Test.YtpecobmfabmpkaaGreatDoorM18
set_option maxRecDepth 20000
set_option maxHeartbeats 2000000
namespace Go.Proofs.YtpecobmfabmpkaaGreatDoor
open Go.RowKit Go.Maps
attribute [local go_sem ↓] zvJ arrJ
theorem codTWrite (w:World)(T J P base:Nat)(t:Tl)(j:Jl)(M:Nat)(tr:Bool)(i:Int)(ba:Option Addr)(bc:Nat)(b:List UInt8)(h:TAt w T J P base t j M tr)(hl:t.l.length≤48)(hn:j.p.n≤4096)(hi0 : -9223372036854775808≤i)(hi1:i≤9223372036854775807)(hB:IsB w ba b.length bc b):
  Calls Tryz.prog 56 #[.pointer (some ⟨T,0,none⟩),.int .i64 i,.slice ba b.length bc] w (TwPost w T J P base t j i b):=by
 have c0:w.cell? ⟨T,0,none⟩=some (.pointer (some ⟨J,0,none⟩)):=h.blk.cell 0
 have c1:w.cell? ⟨T,1,none⟩=some (.map (some M)):=h.blk.cell 1
 have c5:w.cell? ⟨T,5,none⟩=some (.bool tr):=h.blk.cell 5
 have HT:=mkHid h
 have HBy:=mkHid hB
 clear hB
 cases tr with
 | true =>
  have HZ:Hid (t.wrE j i b=51∧t.write j i b=t):=wr51 (by
   cases hd:j.dead with
   | true=>exact .inr rfl
   | false=>exact .inl (h.over hd).symm)
  clear h
  go_enter Tryz.func56,Tryz.ntmps56
  go_wp2_with fail
  go_ret
  exact twNo HT.out HZ.out (Below.refl _ _)
 | false =>
 have HLo:=atLoadAt J 2 j.dead w (h.ja.blk.cell 2)
 cases hd:j.dead with
 | true =>
  have HZ:Hid (t.wrE j i b=51∧t.write j i b=t):=wr51 (.inr hd)
  rw[hd] at HLo
  clear h
  go_enter Tryz.func56,Tryz.ntmps56
  go_wp2_with fail
  refine HLo.mono ?_
  rintro e w1 ⟨rfl,rfl⟩
  go_wp2_with fail
  go_ret
  exact twNo HT.out HZ.out (Below.refl _ _)
 | false =>
 have hov:¬(t.over=true∨j.dead=true):=by rw[←h.over hd,hd];simp
 have HZi:=codJSize w J P base j h.ja
 have HA:=codInArea i j.p.n w
 rw[hd] at HLo
 cases ha:areaI j.p.n i with
 | false =>
  have HZ:=mkHid (wr50 (b:=b) hov ha)
  rw[ha] at HA
  clear h hov hn
  generalize j.p.n=n at *
  go_enter Tryz.func56,Tryz.ntmps56
  go_wp2_with fail
  refine HLo.mono ?_
  rintro e w1 ⟨rfl,rfl⟩
  go_wp2_with fail
  refine HZi.mono ?_
  rintro e w2 ⟨rfl,hw2⟩
  obtain rfl:=hw2.symm
  go_wp2_with fail
  refine HA.mono ?_
  rintro e w3 ⟨rfl,hw3⟩
  obtain rfl:=hw3.symm
  go_wp2_with fail
  go_ret
  exact twNo HT.out HZ.out (Below.refl _ _)
 | true =>
 rw[ha] at HA
 by_cases hb5:b.length=512
 ·have hlk:=lookOk h.own hi0 hi1
  have hhit:hitQ t.l i.toNat=(Tl.find t.l i).isSome:=by
   have ha2:49≤i∧i<j.p.n:=by unfold areaI at ha;exact of_decide_eq_true ha
   have:=hit_find t.l i.toNat h.sort
   rwa [Int.toNat_of_nonneg (by omega)] at this
  obtain⟨C,hC,hCs,hCa⟩:∃C:Array Value,(Tl.find t.l i).elim (.agg zSec.toArray) secV=.agg C∧C.size=512∧C.all (·.oneCell')=true:=by
   cases hfd:Tl.find t.l i with
   | none=>exact⟨_,rfl,by rw[List.size_toArray,zSec_length],zAll⟩
   | some b0=>exact⟨_,rfl,by rw[List.size_toArray,bv_length,find_len hfd h.ok],bvAll9 b0⟩
  rw[hC,←hhit] at hlk
  have HRw:Hid (Blk (w.alloc (.cells zSec.toArray 152)) w.heap.size 152 zSec):=Blk.new w _ _
  have hS6:(Tryz.prog.info? 152).map (·.size)=some C.size:=by rw[hCs];exact infoJ
  have hS7:zSec.toArray.size=C.size:=by rw[hCs,List.size_toArray,zSec_length]
  have HS67:=mkHid (And.intro hS6 (And.intro hS7 hCa))
  have HD1:Hid (Below w.heap.size w ((w.alloc (.cells zSec.toArray 152)).setRow w.heap.size C)):=bel_row ((Below.refl _ w).alloc (Nat.le_refl _) _) (Nat.le_refl _) _
  have HAr:=mkHid ha
  have HN4:=mkHid hn
  have H5:=mkHid hb5
  obtain⟨bb,bo,rfl⟩:∃bb bo,ba=some ⟨bb,bo,none⟩:=by
   obtain⟨x,y,e,_⟩:=HBy.out.cells (by omega)
   exact⟨x,y,e⟩
  have hbz:(b.length:Int)=512:=by omega
  have hlen:(t.l.length:Int)≤48:=by omega
  have hhz:hitQ t.l i.toNat=false∧48≤t.l.length→_:=wr44 (b:=b) hov ha hb5
  have hhy:¬(hitQ t.l i.toNat=false∧48≤t.l.length)→_:=wr00 (b:=b) hov ha hb5
  have HKi:Hid (Lit.int .i64 i=keyQ i.toNat):=by
   have ha2:49≤i∧i<j.p.n:=by unfold areaI at ha;exact of_decide_eq_true ha
   unfold Hid keyQ
   rw[Int.toNat_of_nonneg (by omega)]
  have HL48:=mkHid hl
  have HLn:=(ownM_on h.own HD1.out).len Tryz.underlying120 3
  rw[mapD_size] at HLn
  have hd1:((w.alloc (.cells zSec.toArray 152)).setRow w.heap.size C).cell? ⟨T,1,none⟩=some (.map (some M)):=(HD1.out.cell (p:=⟨T,1,none⟩) (cell_lt c1)).trans c1
  rw[hb5] at HBy ⊢
  clear h hC hCs hCa hS6 hS7 hhit ha hn hov hbz hb5
  generalize hitQ t.l i.toNat=hit at *
  obtain⟨n,hn⟩:∃n,n=j.p.n:=⟨_,rfl⟩
  rw[←hn] at HZi HA
  clear hn
  cases hit with
  | true =>
   have HZ:=mkHid (hhy (fun e=>by cases e.1))
   clear hhy hhz
   go_enter Tryz.func56,Tryz.ntmps56
   go_wp2_with fail
   refine HLo.mono ?_
   rintro e w1 ⟨rfl,hw1⟩
   obtain rfl:=hw1.symm
   go_wp2_with fail
   refine HZi.mono ?_
   rintro e w2 ⟨rfl,hw2⟩
   obtain rfl:=hw2.symm
   go_wp2_with fail
   refine HA.mono ?_
   rintro e w3 ⟨rfl,hw3⟩
   obtain rfl:=hw3.symm
   go_upto_region 12 with(refine wpList_store_row rfl 152 _ _ rfl w.heap.size C rfl rfl _ _ HRw.out HS67.out.1 HS67.out.2.1 HS67.out.2.2 ?_)
   clear HRw HS67
   generalize (w.alloc (.cells zSec.toArray 152)).setRow w.heap.size C=W1 at *
   have k1:W1.cell? ⟨T,1,none⟩=some (.map (some M)):=(HD1.out.cell (p:=⟨T,1,none⟩) (cell_lt c1)).trans c1
   have HRg:Hid (W1.rangeAt bb bo (bv b)):=isB_range (HBy.out.below HD1.out rfl) (by omega)
   have HUp:Hid (∃w9,(Instr.mapUpdate 120 (.map (some M)) (.int .i64 i) (secV b)).run Tryz.prog W1.drew=.ok () w9∧w9.ownsMap Tryz.prog 3 secR M (t.l.length+1) ((mapD t.l).put (keyQ i.toNat) (.held (secV b)))∧W1.grownBy w9 (some M)):=by
    have hu:=(ownM_on HT.out.own HD1.out).drew.update (Maps.int_keyed Tryz.underlying3) Tryz.underlying120 (by unfold maxLen;have:=HL48.out;omega) (keyI hi0 hi1) (val:=secV b) (d:=.held (secV b)) (ps:=[]) rfl
    rw[HKi.out] at hu
    obtain⟨w9,q1,q2,q3⟩:=hu
    exact⟨w9,q1,q2,⟨q3.1,q3.2,q3.3,q3.4,fun k hk hne=>q3.5 k hk hne⟩⟩
   have HSd:Hid (∀w9,W1.grownBy w9 (some M)→w9.cell? ⟨T,1,none⟩=some (.map (some M))∧w9.rangeAt bb bo (bv b)):=fun w9 hg=>by
    have hko:=map_keepO (ownM_on HT.out.own HD1.out) hg
    obtain⟨cc,ty,fz,hcc⟩:=range_lt HRg.out (by rw[bv_length,H5.out];omega)
    refine⟨((hko [129]).blk (HT.out.on HD1.out).blk (by simp)).cell 1,fun k v hv=>?_⟩
    have h1:=HRg.out k v hv
    have h2:=(hko [ty]).same bb cc ty fz hcc (by simp)
    rw[←h1]
    unfold World.cell?
    rw[h2,hcc]
   clear c0 c1 c5 hlk HLo HZi HA HLn
   refine wp_region_noPanic ?_
   refine wp_region_held_drew (S:=fun w'=>w'.cell? ⟨T,1,none⟩=some (.map (some M))∧w'.rangeAt bb bo (bv b)) (by kernel_rfl) ⟨k1,HRg.out⟩ (fun hHeld=>?_)
   refine takeH (some 54) (i:=0) (v:=?_) rfl (by kernel_rfl) (by kernel_rfl) (by kernel_rfl) (fun _ _ _ h=>h) (Or.inl ⟨by rfl,?_⟩) hHeld rfl ?_
   rotate_left
   ·intro w hSw;have hS1:=hSw.1;go_simp;with_reducible rfl
   (try simp only[Act.put]);(try simp only[List.setIfInBounds_toArray]);(try simp only[List.set_cons_zero,List.set_cons_succ])
   refine takeH (some 55) (i:=1) (v:=?_) rfl (by kernel_rfl) (by kernel_rfl) (by kernel_rfl) (fun _ _ _ h=>h) (Or.inl ⟨by rfl,?_⟩) hHeld rfl ?_
   rotate_left
   ·intro w hSw;have hS1:=hSw.1;go_simp;with_reducible rfl
   (try simp only[Act.put]);(try simp only[List.setIfInBounds_toArray]);(try simp only[List.set_cons_zero,List.set_cons_succ])
   refine takeH (some 56) (i:=2) (v:=?_) rfl (by kernel_rfl) (by kernel_rfl) (by kernel_rfl) (fun _ _ _ h=>h) (Or.inl ⟨by rfl,?_⟩) hHeld rfl ?_
   rotate_left
   ·intro w hSw;have hS1:=hSw.1;go_simp;with_reducible rfl
   (try simp only[Act.put]);(try simp only[List.setIfInBounds_toArray]);(try simp only[List.set_cons_zero,List.set_cons_succ])
   refine takeH (some 57) (i:=3) (v:=?_) rfl (by kernel_rfl) (by kernel_rfl) (by kernel_rfl) (fun _ _ _ h=>h) (Or.inl ⟨by rfl,?_⟩) hHeld rfl ?_
   rotate_left
   ·intro w hSw;have hS1:=hSw.1;go_simp;with_reducible rfl
   (try simp only[Act.put]);(try simp only[List.setIfInBounds_toArray]);(try simp only[List.set_cons_zero,List.set_cons_succ])
   refine takeH (some 58) (i:=4) (v:=?_) rfl (by kernel_rfl) (by kernel_rfl) (by kernel_rfl) (fun _ _ _ h=>h) (Or.inl ⟨by rfl,?_⟩) hHeld rfl ?_
   rotate_left
   ·intro w hSw;have hS1:=hSw.1;go_simp;with_reducible rfl
   (try simp only[Act.put]);(try simp only[List.setIfInBounds_toArray]);(try simp only[List.set_cons_zero,List.set_cons_succ])
   refine takeH (some 59) (i:=5) (v:=?_) rfl (by kernel_rfl) (by kernel_rfl) (by kernel_rfl) (fun _ _ _ h=>h) (Or.inl ⟨by rfl,?_⟩) hHeld rfl ?_
   rotate_left
   ·intro w hSw;have hS1:=hSw.1;go_simp;with_reducible rfl
   (try simp only[Act.put]);(try simp only[List.setIfInBounds_toArray]);(try simp only[List.set_cons_zero,List.set_cons_succ])
   refine takeH (some 60) (i:=6) (v:=?_) rfl (by kernel_rfl) (by kernel_rfl) (by kernel_rfl) (fun _ _ _ h=>h) (Or.inl ⟨by rfl,?_⟩) hHeld rfl ?_
   rotate_left
   ·intro w hSw;have hS1:=hSw.1;go_simp;with_reducible rfl
   (try simp only[Act.put]);(try simp only[List.setIfInBounds_toArray]);(try simp only[List.set_cons_zero,List.set_cons_succ])
   refine takeH (some 61) (i:=7) (v:=.agg (bv b).toArray) rfl (by kernel_rfl) (by kernel_rfl) (by kernel_rfl) (fun _ _ _ h=>h) (yieldsIf_load_mid (by rfl) 152 (.tmp 60) (by rfl) bb bo (by rfl) (bv b) _ (fun w1 hw1=>hw1.2) Tryz.underlying152 rfl (infoJOf H5.out)) hHeld rfl ?_
   (try simp only[Act.put]);(try simp only[List.setIfInBounds_toArray]);(try simp only[List.set_cons_zero,List.set_cons_succ])
   obtain⟨w9,hrun,hM9,hg9⟩:=HUp.out
   refine oneH 8 rfl (by kernel_rfl) (by rfl) (stepMapUp (.tmp 57) (.tmp 58) (.tmp 61) 120 rfl (vm:=.map (some M)) (key:=.int .i64 i) (val:=secV b) rfl rfl rfl hrun none rfl ⟨?_,?_⟩)
   ·exact HSd.out w9 hg9
   ·refine wpAnyH_done (by kernel_rfl) ?_ _
    refine NoPanic.normal ?_
    have HP:=mkHid (twYes HT.out HD1.out HZ.out HAr.out HN4.out H5.out hM9 hg9)
    clear hM9 hg9 hrun
    (try simp only[Act.put]);(try simp only[List.setIfInBounds_toArray]);(try simp only[List.set_cons_zero,List.set_cons_succ])
    go_wp2_with fail
    go_ret
    exact HP.out
  | false =>
   obtain⟨ln,hln⟩:∃ln,ln=t.l.length:=⟨_,rfl⟩
   rw[←hln] at HLn hlen hl
   by_cases h48:ln=48
   ·have HZ:=mkHid (hhz ⟨rfl,by omega⟩)
    have h48z:(ln:Int)=48:=by omega
    clear hhy hhz hln
    rw[h48z] at HLn
    clear h48 h48z hlen
    go_enter Tryz.func56,Tryz.ntmps56
    go_wp2_with fail
    refine HLo.mono ?_
    rintro e w1 ⟨rfl,hw1⟩
    obtain rfl:=hw1.symm
    go_wp2_with fail
    refine HZi.mono ?_
    rintro e w2 ⟨rfl,hw2⟩
    obtain rfl:=hw2.symm
    go_wp2_with fail
    refine HA.mono ?_
    rintro e w3 ⟨rfl,hw3⟩
    obtain rfl:=hw3.symm
    go_wp2_with (refine wpList_store_row rfl 152 _ _ rfl w.heap.size C rfl rfl _ _ HRw.out HS67.out.1 HS67.out.2.1 HS67.out.2.2 ?_)
    go_ret
    exact twNo HT.out HZ.out HD1.out
   ·have HZ:=mkHid (hhy (fun e=>by have:=e.2;omega))
    have h48z:¬(ln:Int)=48:=by omega
    clear hhy hhz hln
    go_enter Tryz.func56,Tryz.ntmps56
    go_wp2_with fail
    refine HLo.mono ?_
    rintro e w1 ⟨rfl,hw1⟩
    obtain rfl:=hw1.symm
    go_wp2_with fail
    refine HZi.mono ?_
    rintro e w2 ⟨rfl,hw2⟩
    obtain rfl:=hw2.symm
    go_wp2_with fail
    refine HA.mono ?_
    rintro e w3 ⟨rfl,hw3⟩
    obtain rfl:=hw3.symm
    go_upto_region 12 with(refine wpList_store_row rfl 152 _ _ rfl w.heap.size C rfl rfl _ _ HRw.out HS67.out.1 HS67.out.2.1 HS67.out.2.2 ?_)
    clear HRw HS67
    generalize (w.alloc (.cells zSec.toArray 152)).setRow w.heap.size C=W1 at *
    have k1:W1.cell? ⟨T,1,none⟩=some (.map (some M)):=(HD1.out.cell (p:=⟨T,1,none⟩) (cell_lt c1)).trans c1
    have HRg:Hid (W1.rangeAt bb bo (bv b)):=isB_range (HBy.out.below HD1.out rfl) (by omega)
    have HUp:Hid (∃w9,(Instr.mapUpdate 120 (.map (some M)) (.int .i64 i) (secV b)).run Tryz.prog W1.drew=.ok () w9∧w9.ownsMap Tryz.prog 3 secR M (t.l.length+1) ((mapD t.l).put (keyQ i.toNat) (.held (secV b)))∧W1.grownBy w9 (some M)):=by
     have hu:=(ownM_on HT.out.own HD1.out).drew.update (Maps.int_keyed Tryz.underlying3) Tryz.underlying120 (by unfold maxLen;have:=HL48.out;omega) (keyI hi0 hi1) (val:=secV b) (d:=.held (secV b)) (ps:=[]) rfl
     rw[HKi.out] at hu
     obtain⟨w9,q1,q2,q3⟩:=hu
     exact⟨w9,q1,q2,⟨q3.1,q3.2,q3.3,q3.4,fun k hk hne=>q3.5 k hk hne⟩⟩
    have HSd:Hid (∀w9,W1.grownBy w9 (some M)→w9.cell? ⟨T,1,none⟩=some (.map (some M))∧w9.rangeAt bb bo (bv b)):=fun w9 hg=>by
     have hko:=map_keepO (ownM_on HT.out.own HD1.out) hg
     obtain⟨cc,ty,fz,hcc⟩:=range_lt HRg.out (by rw[bv_length,H5.out];omega)
     refine⟨((hko [129]).blk (HT.out.on HD1.out).blk (by simp)).cell 1,fun k v hv=>?_⟩
     have h1:=HRg.out k v hv
     have h2:=(hko [ty]).same bb cc ty fz hcc (by simp)
     rw[←h1]
     unfold World.cell?
     rw[h2,hcc]
    clear c0 c1 c5 hlk HLo HZi HA HLn
    refine wp_region_noPanic ?_
    refine wp_region_held_drew (S:=fun w'=>w'.cell? ⟨T,1,none⟩=some (.map (some M))∧w'.rangeAt bb bo (bv b)) (by kernel_rfl) ⟨k1,HRg.out⟩ (fun hHeld=>?_)
    refine takeH (some 54) (i:=0) (v:=?_) rfl (by kernel_rfl) (by kernel_rfl) (by kernel_rfl) (fun _ _ _ h=>h) (Or.inl ⟨by rfl,?_⟩) hHeld rfl ?_
    rotate_left
    ·intro w hSw;have hS1:=hSw.1;go_simp;with_reducible rfl
    (try simp only[Act.put]);(try simp only[List.setIfInBounds_toArray]);(try simp only[List.set_cons_zero,List.set_cons_succ])
    refine takeH (some 55) (i:=1) (v:=?_) rfl (by kernel_rfl) (by kernel_rfl) (by kernel_rfl) (fun _ _ _ h=>h) (Or.inl ⟨by rfl,?_⟩) hHeld rfl ?_
    rotate_left
    ·intro w hSw;have hS1:=hSw.1;go_simp;with_reducible rfl
    (try simp only[Act.put]);(try simp only[List.setIfInBounds_toArray]);(try simp only[List.set_cons_zero,List.set_cons_succ])
    refine takeH (some 56) (i:=2) (v:=?_) rfl (by kernel_rfl) (by kernel_rfl) (by kernel_rfl) (fun _ _ _ h=>h) (Or.inl ⟨by rfl,?_⟩) hHeld rfl ?_
    rotate_left
    ·intro w hSw;have hS1:=hSw.1;go_simp;with_reducible rfl
    (try simp only[Act.put]);(try simp only[List.setIfInBounds_toArray]);(try simp only[List.set_cons_zero,List.set_cons_succ])
    refine takeH (some 57) (i:=3) (v:=?_) rfl (by kernel_rfl) (by kernel_rfl) (by kernel_rfl) (fun _ _ _ h=>h) (Or.inl ⟨by rfl,?_⟩) hHeld rfl ?_
    rotate_left
    ·intro w hSw;have hS1:=hSw.1;go_simp;with_reducible rfl
    (try simp only[Act.put]);(try simp only[List.setIfInBounds_toArray]);(try simp only[List.set_cons_zero,List.set_cons_succ])
    refine takeH (some 58) (i:=4) (v:=?_) rfl (by kernel_rfl) (by kernel_rfl) (by kernel_rfl) (fun _ _ _ h=>h) (Or.inl ⟨by rfl,?_⟩) hHeld rfl ?_
    rotate_left
    ·intro w hSw;have hS1:=hSw.1;go_simp;with_reducible rfl
    (try simp only[Act.put]);(try simp only[List.setIfInBounds_toArray]);(try simp only[List.set_cons_zero,List.set_cons_succ])
    refine takeH (some 59) (i:=5) (v:=?_) rfl (by kernel_rfl) (by kernel_rfl) (by kernel_rfl) (fun _ _ _ h=>h) (Or.inl ⟨by rfl,?_⟩) hHeld rfl ?_
    rotate_left
    ·intro w hSw;have hS1:=hSw.1;go_simp;with_reducible rfl
    (try simp only[Act.put]);(try simp only[List.setIfInBounds_toArray]);(try simp only[List.set_cons_zero,List.set_cons_succ])
    refine takeH (some 60) (i:=6) (v:=?_) rfl (by kernel_rfl) (by kernel_rfl) (by kernel_rfl) (fun _ _ _ h=>h) (Or.inl ⟨by rfl,?_⟩) hHeld rfl ?_
    rotate_left
    ·intro w hSw;have hS1:=hSw.1;go_simp;with_reducible rfl
    (try simp only[Act.put]);(try simp only[List.setIfInBounds_toArray]);(try simp only[List.set_cons_zero,List.set_cons_succ])
    refine takeH (some 61) (i:=7) (v:=.agg (bv b).toArray) rfl (by kernel_rfl) (by kernel_rfl) (by kernel_rfl) (fun _ _ _ h=>h) (yieldsIf_load_mid (by rfl) 152 (.tmp 60) (by rfl) bb bo (by rfl) (bv b) _ (fun w1 hw1=>hw1.2) Tryz.underlying152 rfl (infoJOf H5.out)) hHeld rfl ?_
    (try simp only[Act.put]);(try simp only[List.setIfInBounds_toArray]);(try simp only[List.set_cons_zero,List.set_cons_succ])
    obtain⟨w9,hrun,hM9,hg9⟩:=HUp.out
    refine oneH 8 rfl (by kernel_rfl) (by rfl) (stepMapUp (.tmp 57) (.tmp 58) (.tmp 61) 120 rfl (vm:=.map (some M)) (key:=.int .i64 i) (val:=secV b) rfl rfl rfl hrun none rfl ⟨?_,?_⟩)
    ·exact HSd.out w9 hg9
    ·refine wpAnyH_done (by kernel_rfl) ?_ _
     refine NoPanic.normal ?_
     have HP:=mkHid (twYes HT.out HD1.out HZ.out HAr.out HN4.out H5.out hM9 hg9)
     clear hM9 hg9 hrun
     (try simp only[Act.put]);(try simp only[List.setIfInBounds_toArray]);(try simp only[List.set_cons_zero,List.set_cons_succ])
     go_wp2_with fail
     go_ret
     exact HP.out
 ·have HZ:=mkHid (wr1 (b:=b) hov ha hb5)
  have hb6:¬(b.length:Int)=512:=by omega
  clear h hov hn ha
  generalize j.p.n=n at *
  generalize hbn:b.length=bn at *
  clear hbn
  go_enter Tryz.func56,Tryz.ntmps56
  go_wp2_with fail
  refine HLo.mono ?_
  rintro e w1 ⟨rfl,rfl⟩
  go_wp2_with fail
  refine HZi.mono ?_
  rintro e w2 ⟨rfl,hw2⟩
  obtain rfl:=hw2.symm
  go_wp2_with fail
  refine HA.mono ?_
  rintro e w3 ⟨rfl,hw3⟩
  obtain rfl:=hw3.symm
  go_wp2_with fail
  go_ret
  exact twNo HT.out HZ.out (Below.refl _ _)
end Go.Proofs.YtpecobmfabmpkaaGreatDoor
namespace Go.Proofs.YtpecobmfabmpkaaGreatDoor
open Go.RowKit
abbrev CD:List TypeId:=[109,159,200,117,129,30]
abbrev CF:List TypeId:=[109,159,200,117,129]
theorem JAt.keepD {w w':World}{J P base:Nat}{j:Jl}(h:JAt w J P base j){ts:List TypeId}(hk:KeepT ts w w')(h0:117∉ts)(h1:109∉ts)(h2:159∉ts)(h3:200∉ts):JAt w' J P base j:=⟨hk.blk h.blk h0,h.low,h.d.keep hk h1 h2 h3,h.seq⟩
theorem u10_tx:∀t∈U10,t∉[129]:=by decide
theorem u10_cf:∀t∈U10,t∉CF:=by decide
structure InQ (w w':World)(T J P base M A2:Nat)(t:Tl)(j:Jl):Prop where
 ja:JAt w' J P base (inJ t j)
 own:OwnM w' M t.l
 e:Blk w' A2 30 [.int .i64 (inE t j)]
 k:KeepT CD w w'
 b:Below base w w'
 o:∀(k:Nat) (o:Obj),k≠A2→w.heap[k]?=some o→(∀c t fz,o=.cells c t fz→t∉CF)→w'.heap[k]?=some o
theorem codClosure (w:World)(T J P base m:Nat)(t:Tl)(j:Jl)(M A1 A2:Nat)(tr:Bool)(hT:Blk w T 129 (txC J M 0 1 tr))(hlT:base≤T)(hown:OwnM w M t.l)(hs:SortQ t.l)(hok:∀g∈t.l,g.2.length=512∧49≤g.1∧g.1<4096)(hj:JAt w J P base j)(hf:FewM j.p m)(hm:m≤80000)(h48:t.l.length≤48)(h1:Blk w A1 81 [.pointer (some ⟨T,0,none⟩)])(h2:Blk w A2 30 [.int .i64 51])(hl2:base≤A2):
  Calls Tryz.prog 81 #[.pointer (some ⟨A1,0,none⟩),.pointer (some ⟨A2,0,none⟩)] w fun e w'=>e=.returned (.tuple #[])∧InQ w w' T J P base M A2 t j∧Blk w' T 129 (txC J M 0 1 true):=by
 have hA:w.cell? ⟨A1,0,none⟩=some (.pointer (some ⟨T,0,none⟩)):=h1.cell 0
 have hTc:w.cell? ⟨T,5,none⟩=some (.bool tr):=hT.cell 5
 have hTf:=hT.frozen 5
 have HT1:Hid (Blk (w.setCell ⟨T,5,none⟩ (.bool true)) T 129 (txC J M 0 1 true)):=hT.set 5 (.bool true)
 have hK1:KeepT [129] w (w.setCell ⟨T,5,none⟩ (.bool true)):=(KeepT.refl _ w).set hT (by simp) 5 _
 have HB1:Hid (Below base w (w.setCell ⟨T,5,none⟩ (.bool true))):=bel_one (gr_cell w T 5 _) hlT hT.lt
 have HK1:=mkHid hK1
 have HA1:=mkHid (hK1.blk h1 (by decide))
 have HA2:=mkHid (hK1.blk h2 (by decide))
 have HIn:Hid (TIn (w.setCell ⟨T,5,none⟩ (.bool true)) T J M t.l [.int .u32 0,.int .i32 1,.int .u32 0,.bool true]):=⟨HT1.out,ownM_keep hown hK1,hs,hok⟩
 have HJ:=mkHid (hj.keepD hK1 (by decide) (by decide) (by decide) (by decide))
 have HLA:=mkHid hl2
 clear hT hown hs hok hj h1 h2 hK1 hlT hl2
 go_enter Tryz.func81,Tryz.ntmps81
 go_upto_region 1 with fail
 generalize w.setCell ⟨T,5,none⟩ (.bool true)=w1 at *
 have hA1:w1.cell? ⟨A1,0,none⟩=some (.pointer (some ⟨T,0,none⟩)):=HA1.out.cell 0
 have HC:=codInner w1 T J P base m t j M _ HIn.out HJ.out hf hm h48
 clear hA hTc hTf
 obtain⟨eI,heI⟩:∃eI,eI=inE t j:=⟨_,rfl⟩
 obtain⟨jI,hjI⟩:∃jI,jI=inJ t j:=⟨_,rfl⟩
 rw[←heI,←hjI] at HC
 have HeI:=mkHid heI
 have HjI:=mkHid hjI
 clear heI hjI
 go_wp2_with fail
 refine HC.mono ?_
 rintro e w2 ⟨rfl,hJ2,hK2,hB2⟩
 have HJ2:=mkHid hJ2
 have HK2:=mkHid hK2
 have HA22:=mkHid (hK2.blk HA2.out (by decide))
 have HT2:=mkHid (hK2.blk HT1.out (by decide))
 have HO2:=mkHid (ownM_keep HIn.out.own hK2)
 have c2:w2.cell? ⟨A2,0,none⟩=some (.int .i64 51):=HA22.out.cell 0
 have f2:=HA22.out.frozen 0
 have hK3:KeepT [30] w2 (w2.setCell ⟨A2,0,none⟩ (.int .i64 eI)):=(KeepT.refl _ w2).set HA22.out (by simp) 0 _
 have HR:Hid (JAt (w2.setCell ⟨A2,0,none⟩ (.int .i64 eI)) J P base jI∧OwnM (w2.setCell ⟨A2,0,none⟩ (.int .i64 eI)) M t.l∧Blk (w2.setCell ⟨A2,0,none⟩ (.int .i64 eI)) A2 30 [.int .i64 eI]∧KeepT CD w (w2.setCell ⟨A2,0,none⟩ (.int .i64 eI))∧Below base w (w2.setCell ⟨A2,0,none⟩ (.int .i64 eI))∧Blk (w2.setCell ⟨A2,0,none⟩ (.int .i64 eI)) T 129 (txC J M 0 1 true)∧∀(k:Nat) (o:Obj),k≠A2→w.heap[k]?=some o→(∀c t fz,o=.cells c t fz→t∉CF)→(w2.setCell ⟨A2,0,none⟩ (.int .i64 eI)).heap[k]?=some o):=
  ⟨HJ2.out.keepD hK3 (by decide) (by decide) (by decide) (by decide),ownM_keep HO2.out hK3,HA22.out.set 0 _,((HK1.out.wide (by decide)).trans (HK2.out.wide (by decide))).trans (hK3.wide (by decide)),(HB1.out.trans hB2).trans (bel_one (gr_cell w2 A2 0 _) HLA.out HA22.out.lt),hK3.blk HT2.out (by decide),fun k o hk ho hc=>(Below.heap_setCell _ _ _ _ hk).trans (((HK1.out.wide (by decide):KeepT CF _ _).trans (HK2.out.wide (by decide))).same k o ho hc)⟩
 clear hJ2 hK2 hB2 HC hK3 HJ2 HK2 HA22 HT2 HO2
 go_wp2_with fail
 go_end0
 exact⟨rfl,⟨by rw[←HjI.out];exact HR.out.1,HR.out.2.1,by rw[←HeI.out];exact HR.out.2.2.1,HR.out.2.2.2.1,HR.out.2.2.2.2.1,HR.out.2.2.2.2.2.2⟩,HR.out.2.2.2.2.2.1⟩
theorem cm_dead {t:Tl}{j:Jl}(h:t.over=true∨j.dead=true):cmE t j=51∧cmT t j=t∧cmJ t j=j:=by
 unfold cmE cmT cmJ;rw[if_pos h,if_pos h,if_pos h];exact⟨rfl,rfl,rfl⟩
theorem cm_in {t:Tl}{j:Jl}(hd:j.dead=false)(ho:t.over=false):cmE t j=inE t j∧cmT t j={ t with over:=true }∧cmJ t j=inJ t j:=by
 have hn:¬(t.over=true∨j.dead=true):=by simp[hd,ho]
 have hn2:¬j.dead=true:=by simp[hd]
 refine⟨?_,?_,?_⟩
 ·unfold cmE inE;rw[if_neg hn,if_neg hn2]
 ·unfold cmT;rw[if_neg hn]
 ·unfold cmJ inJ jCm;rw[if_neg hn,if_neg hn2]
theorem inJ_p {t:Tl}{j:Jl}(hd:j.dead=true):inE t j=51∧inJ t j=j:=by
 unfold inE inJ;rw[if_pos hd,if_pos hd];exact⟨rfl,rfl⟩
theorem TAt.txB {w:World}{T J P base:Nat}{t:Tl}{j:Jl}{M:Nat}{tr:Bool}(h:TAt w T J P base t j M tr):Blk w T 129 (txC J M (flag tr) 0 tr):=h.blk
theorem codCommit (w:World)(T J P base m:Nat)(t:Tl)(j:Jl)(h:TAx w T J P base t j)(hf:FewM j.p m)(hm:m≤80000)(h48:t.l.length≤48):
  Calls Tryz.prog 54 #[.pointer (some ⟨T,0,none⟩)] w fun e w'=>e=.returned (.int .i64 (cmE t j))∧TAx w' T J P base (cmT t j) (cmJ t j)∧KP base w w':=by
 obtain⟨M,tr,h⟩:=h
 have HT:=mkHid h
 have HLow:Hid (base≤w.heap.size):=h.ja.d.low
 have HF:=mkHid hf
 clear h hf
 have KB1:Hid (Blk ((w.alloc (.cells #[.pointer (some ⟨T,0,none⟩)] 81)).alloc (.cells #[.int .i64 51] 30)) w.heap.size 81 [.pointer (some ⟨T,0,none⟩)]):=(Blk.new w _ _).alloc _
 have KB2:Hid (Blk ((w.alloc (.cells #[.pointer (some ⟨T,0,none⟩)] 81)).alloc (.cells #[.int .i64 51] 30)) (w.heap.size+1) 30 [.int .i64 51]):=Blk.newAt _ _ _ _ _ (by simp) rfl
 have HB:Hid (Below w.heap.size w ((w.alloc (.cells #[.pointer (some ⟨T,0,none⟩)] 81)).alloc (.cells #[.int .i64 51] 30))):=((Below.refl _ w).alloc (Nat.le_refl _) _).alloc (by simp) _
 go_enter Tryz.func54,Tryz.ntmps54
 go_upto_region 4 with fail
 generalize (w.alloc (.cells #[.pointer (some ⟨T,0,none⟩)] 81)).alloc (.cells #[.int .i64 51] 30)=w1 at *
 have HT1:=mkHid (HT.out.on HB.out)
 have HLA:Hid (base≤w.heap.size+1):=Nat.le_succ_of_le HLow.out
 obtain⟨A2,hA2⟩:∃A2,A2=w.heap.size+1:=⟨_,rfl⟩
 have HNe:Hid (∀(k:Nat) (o:Obj),w.heap[k]?=some o→k≠A2):=fun k o hk=>by have:=(Array.getElem?_eq_some_iff.1 hk).1;omega
 rw[←hA2] at KB2 HLA ⊢
 clear hA2
 have HKw:Hid (KP base w w1):=KP.of_below HB.out HLow.out
 clear HT HB
 generalize w.heap.size=A1 at *
 have hA1:w1.cell? ⟨A1,0,none⟩=some (.pointer (some ⟨T,0,none⟩)):=KB1.out.cell 0
 cases tr with
 | true =>
  have HE:Hid (cmE t j=51∧cmT t j=t∧cmJ t j=j):=cm_dead (by
   cases hd:j.dead with
   | true=>exact .inr rfl
   | false=>exact .inl (HT1.out.over hd).symm)
  have hA2:w1.cell? ⟨A2,0,none⟩=some (.int .i64 51):=KB2.out.cell 0
  have HD:=fun fv=>onceDone T J M 0 true fv w1 HT1.out.txB
  have hmf:∀(fn:Fn) (first cap:Array Value) (w:World),(Instr.makeFunc fn first cap).run Tryz.prog w=.ok (.func fn first cap) w:=fun _ _ _ _=>rfl
  go_wp2_with fail
  refine(HD _).mono ?_
  rintro e w2 ⟨rfl,hw2⟩
  obtain rfl:=hw2.symm
  go_wp2_with fail
  go_ret
  exact⟨by rw[HE.out.1];rfl,by rw[HE.out.2.1,HE.out.2.2];exact⟨M,true,HT1.out⟩,HKw.out⟩
 | false =>
  have hK3:KeepT [129] w1 (w1.setCell ⟨T,3,none⟩ (.int .i32 1)):=(KeepT.refl _ w1).set HT1.out.txB (by simp) 3 _
  have hB3:Below base w1 (w1.setCell ⟨T,3,none⟩ (.int .i32 1)):=bel_one (gr_cell w1 T 3 _) HT1.out.low HT1.out.blk.lt
  have HCl:=codClosure (w1.setCell ⟨T,3,none⟩ (.int .i32 1)) T J P base m t j M A1 A2 false (HT1.out.txB.set 3 _) HT1.out.low (ownM_keep HT1.out.own hK3) HT1.out.sort HT1.out.ok (HT1.out.ja.keepD hK3 (by decide) (by decide) (by decide) (by decide)) HF.out hm h48 (hK3.blk KB1.out (by decide)) (hK3.blk KB2.out (by decide)) HLA.out
  have HO:=onceFirst T J M false ⟨A1,0,none⟩ ⟨A2,0,none⟩ (fun w2=>InQ (w1.setCell ⟨T,3,none⟩ (.int .i32 1)) w2 T J P base M A2 t j) w1 HT1.out.txB HCl
  have HK3:=mkHid (And.intro hK3 hB3)
  have hmf:∀(fn:Fn) (first cap:Array Value) (w:World),(Instr.makeFunc fn first cap).run Tryz.prog w=.ok (.func fn first cap) w:=fun _ _ _ _=>rfl
  clear hK3 hB3 HCl
  go_wp2_with fail
  refine HO.mono ?_
  rintro e w4 ⟨rfl,w2,hQ,hT2,hw4⟩
  have hK5:KeepT [129] w2 w4:=by
   rw[hw4]
   have hd:KeepT [129] w2 w2.drew:=KeepT.of_below ((Below.refl _ w2).drew)
   have h1:Blk w2.drew T 129 (txC J M 0 1 true):=hT2
   have h2:=h1.set 2 (.int .u32 1)
   exact(hd.set h1 (by simp) 2 _).set h2 (by simp) 3 _
  have hT4:Blk w4 T 129 (txC J M 1 0 true):=by
   rw[hw4]
   have h1:Blk w2.drew T 129 (txC J M 0 1 true):=hT2
   exact(h1.set 2 (.int .u32 1)).set 3 (.int .i32 0)
  have hB4:Below base w2 w4:=by
   rw[hw4]
   have h1:Blk w2.drew T 129 (txC J M 0 1 true):=hT2
   have h2:=h1.set 2 (.int .u32 1)
   have hd:Below base w2 w2.drew:=((Below.refl _ w2).drew).mono (by have:=HT1.out.low;have:=hT2.lt;omega)
   exact(hd.trans (bel_one (gr_cell w2.drew T 2 _) HT1.out.low h1.lt)).trans (bel_one (gr_cell _ T 3 _) HT1.out.low h2.lt)
  have hE4:Blk w4 A2 30 [.int .i64 (inE t j)]:=hK5.blk hQ.e (by decide)
  have hJ4:JAt w4 J P base (inJ t j):=hQ.ja.keepD hK5 (by decide) (by decide) (by decide) (by decide)
  have hO4:OwnM w4 M t.l:=ownM_keep hQ.own hK5
  have hKP:KP base w w4:=by
   refine⟨⟨Nat.le_trans HKw.out.o.size (Nat.le_trans HK3.out.1.size (Nat.le_trans hQ.k.size hK5.size)),fun k c ty fz hk ht=>?_,fun k o hk hc=>?_⟩,HKw.out.b.trans (HK3.out.2.trans (hQ.b.trans hB4))⟩
   ·have h1:=HK3.out.1.same k _ (HKw.out.o.same k c ty fz hk ht) (fun c' t' fz' e=>by injection e with _ h2 _;rw[←h2];exact u10_tx ty ht)
    exact hK5.same k _ (hQ.o k _ (HNe.out k _ hk) h1 (fun c' t' fz' e=>by injection e with _ h2 _;rw[←h2];exact u10_cf ty ht)) (fun c' t' fz' e=>by injection e with _ h2 _;rw[←h2];exact u10_tx ty ht)
   ·have h1:=HK3.out.1.same k _ (HKw.out.o.ctl k o hk hc) (fun c' t' fz' e=>by subst e;cases hc)
    exact hK5.same k _ (hQ.o k _ (HNe.out k _ hk) h1 (fun c' t' fz' e=>by subst e;cases hc)) (fun c' t' fz' e=>by subst e;cases hc)
  have hA2:w4.cell? ⟨A2,0,none⟩=some (.int .i64 (inE t j)):=hE4.cell 0
  have HR:Hid (inE t j=cmE t j∧TAx w4 T J P base (cmT t j) (cmJ t j)∧KP base w w4):=by
   cases hd:j.dead with
   | true =>
    obtain⟨e1,e2,e3⟩:=cm_dead (t:=t) (j:=j) (.inr hd)
    obtain⟨e4,e5⟩:=inJ_p (t:=t) hd
    rw[e5] at hJ4
    exact⟨by rw[e1,e4],by rw[e2,e3];exact⟨M,true,⟨hJ4,hT4,HT1.out.low,HT1.out.lowM,hO4,HT1.out.sort,HT1.out.ok,fun h=>by rw[hd] at h;cases h⟩⟩,hKP⟩
   | false =>
    obtain⟨e1,e2,e3⟩:=cm_in (t:=t) hd (HT1.out.over hd).symm
    exact⟨e1.symm,by rw[e2,e3];exact⟨M,true,⟨hJ4,hT4,HT1.out.low,HT1.out.lowM,hO4,HT1.out.sort,HT1.out.ok,fun _=>rfl⟩⟩,hKP⟩
  clear hK5 hT4 hB4 hE4 hJ4 hO4 hKP hw4 hQ hT2 HO
  generalize inE t j=eI at *
  go_wp2_with fail
  go_ret
  exact⟨by rw[←HR.out.1];rfl,HR.out.2.1,HR.out.2.2⟩
end Go.Proofs.YtpecobmfabmpkaaGreatDoor
