/- TsD RLaid Env13 -/
import Derived.Test.YtpecobmfabmpkaaGreatDoorM42
import Derived.Stop.LaidErr
import Derived.Shelf.Vars
import Derived.Lib.LaidTab
import Derived.MakeChecks
import Derived.SizedLaws
import Derived.Test.YtpecobmfabmpkaaGreatDoorRows
set_option maxRecDepth 20000
set_option maxHeartbeats 8000000
namespace Go.Proofs.YtpecobmfabmpkaaGreatDoor
open Go.RowKit
theorem make_run100 (w:World):∃w',(Instr.makeSlice 33 (.int .i64 100) (.int .i64 100)).run Tryz.prog w=.ok (.slice (some ⟨w.heap.size,0,none⟩) 100 100) w'∧OwnB w' w.heap.size (.slice (some ⟨w.heap.size,0,none⟩) 100 100) (List.replicate 100 0)∧Below w.heap.size w w':=by
  obtain⟨i0,hi,hz0,hz1,hz2⟩:=info_parts info8
  obtain⟨w',hrun,r1,r2⟩:=run_make_full (P:=Tryz.prog) w w.heap.size 33 5 i0 (.int .u8 0) 1 Tryz.underlying33 hi hz0 hz1 .i64 .i64 100 (by rw[hz2];omega) (by unfold maxLen;omega) (Nat.le_refl _)
  refine⟨w',hrun,?_,(Below.refl _ _).grown r2 (Nat.le_refl _) (fun k h=>by cases h)⟩
  rw[made_zeros] at r1
  unfold OwnB
  rw[List.length_replicate]
  exact r1
theorem key_item (i:Nat):itemOk (keyN i) (List.replicate 100 0)=true:=by
  unfold itemOk keyOk
  rw[show (keyN i).length=3 from rfl,List.length_replicate]
  decide
theorem key_ok (i:Nat):keyOk (keyN i)=true:=by
  unfold keyOk
  rw[show (keyN i).length=3 from rfl]
  decide
theorem tr_nil {t:Tl}{j:Jl}{root:Nat}{S:List Int}(h:TR t j root [] S):root=0∧S=[]:=by
  have hp:=h.pages
  have h0:S.length=0:=hp.1.2 rfl
  have h1:S=[]:=List.length_eq_zero_iff.1 h0
  subst h1
  rcases h.2 with⟨hr,_,_⟩|⟨hS,_⟩|⟨ps,_,_,hS⟩
  · exact⟨hr,rfl⟩
  · cases hS
  · cases hS
theorem empties13 (n0 step0:Int)(w:World)(hr:(-9223372036854775808≤n0∧n0≤9223372036854775807)∧(-9223372036854775808≤step0∧step0≤9223372036854775807)):
    Calls Tryz.prog 5 #[.int .i64 n0,.int .i64 step0] w fun e w'=>e=.returned (.bool true)∧Below w.heap.size w w':=by
  have HAl:=lawAlive13
  by_cases h1:n0<0
  · go_enter Tryz.func5,Tryz.ntmps5
    go_wp2_with fail
    refine(HAl w).mono ?_
    rintro e x1 ⟨rfl,hb1⟩
    go_wp2_with fail
    go_ret
    exact⟨rfl,hb1⟩
  by_cases h2:80<n0
  · go_enter Tryz.func5,Tryz.ntmps5
    go_wp2_with fail
    refine(HAl w).mono ?_
    rintro e x1 ⟨rfl,hb1⟩
    go_wp2_with fail
    go_ret
    exact⟨rfl,hb1⟩
  by_cases h3:step0<1
  · go_enter Tryz.func5,Tryz.ntmps5
    go_wp2_with fail
    refine(HAl w).mono ?_
    rintro e x1 ⟨rfl,hb1⟩
    go_wp2_with fail
    go_ret
    exact⟨rfl,hb1⟩
  by_cases h4:80<step0
  · go_enter Tryz.func5,Tryz.ntmps5
    go_wp2_with fail
    refine(HAl w).mono ?_
    rintro e x1 ⟨rfl,hb1⟩
    go_wp2_with fail
    go_ret
    exact⟨rfl,hb1⟩
  obtain⟨n,rfl⟩:∃n:Nat,n0=(n:Int):=⟨n0.toNat,by omega⟩
  obtain⟨step,rfl⟩:∃n:Nat,step0=(n:Int):=⟨step0.toNat,by omega⟩
  have hn80:n≤80:=by omega
  have hs0:0<step:=by omega
  have hs80:step≤80:=by omega
  clear hr
  have HFr:=lawFreshN 4096 (by omega) (by omega) w w.heap.size (Nat.le_refl _)
  rw[show ((4096:Nat):Int)=4096 from rfl] at HFr
  have hfn:∀args w,(callFunc 31 args).run Tryz.prog w=.ok (.enter 31 args) w:=fun args w=>by simp[callFunc,Tryz.func31];rfl
  go_enter Tryz.func5,Tryz.ntmps5
  go_wp2_with fail
  refine HFr.mono ?_
  rintro e x1 ⟨⟨J,S0,P,rfl,hS1⟩,hk1⟩
  have HB1:=mkHid hk1.out.b
  have HSp:=mkHid hS1.out
  have HFe:=spcOK.free x1 S0 J P w.heap.size 50 t0 ⟨Pl.new 4096,0,false⟩ HSp.out (tk_new 4096 (by omega) (by omega)).fit
  have hfe:freeL (mapL t0 ⟨Pl.new 4096,0,false⟩) 4045=4045:=(tk_new 4096 (by omega) (by omega)).all
  rw[show (freeL (mapL t0 ⟨Pl.new 4096,0,false⟩) ((⟨Pl.new 4096,0,false⟩:Jl).p.n-51):Int)=4045 by show ((freeL (mapL t0 ⟨Pl.new 4096,0,false⟩) 4045:Nat):Int)=4045;rw[hfe];rfl] at HFe
  clear HFr hS1 hk1 hfe
  go_wp2_with fail
  refine HFe.mono ?_
  rintro e x2 ⟨rfl,hS2,hk2⟩
  have HB2:=mkHid (HB1.out.trans hk2.b)
  have HT2:=mkHid (tj_new (by omega) (by omega) hS2)
  clear HFe hS2 hk2 HSp HB1
  go_wp2_with fail
  go_loopw [8,10] (fun v8 v10 wr=>∃(i:Nat) (j:Jl) (root:Nat) (SS:List Int),i≤n∧v8=.int .i64 (root:Int)∧v10=.int .i64 (i:Int)∧Hid (TJ wr J P w.heap.size (50+150 * i) 4096 j root ((List.range i).map kE) SS)∧Hid (Below w.heap.size w wr)) (fun _ v _=>n-(Go.RowKit.intOf v).toNat)
  case atStart=>exact⟨0,⟨Pl.new 4096,0,false⟩,0,[],Nat.zero_le _,rfl,rfl,HT2,HB2⟩
  case round =>
    clear HT2 HB2
    obtain⟨i,j,root,SS,hi,rfl,rfl,HT,HB⟩:=hrel
    by_cases hlt:i<n
    · have hlt':(i:Int)<(n:Int):=by omega
      have hi80:i<80:=by omega
      have HOp:=treeOpen HT.out
      go_wp2_with fail
      refine HOp.mono ?_
      rintro e y1 ⟨⟨S,rfl,hS1⟩,hk1⟩
      have HS1:=mkHid hS1
      have HK1:=mkHid hk1
      clear HOp hS1 hk1
      have HKey:=fun W=>lawKeyN13 i W (by omega)
      go_upto_region 15 with fail
      go_cut [13,14] from 51 to 84 (fun v13 v14 wx=>(∃(t':Tl) (r':Nat) (S':List Int),v13=.int .i64 (r':Int)∧v14=.int .i64 0∧Hid (SpAx wx S J P w.heap.size t' j∧Tk t' j (50+150 * i) S'∧TR t' j r' ((List.range (i+1)).map kE) S'))∧Hid (KS w.heap.size wr wx))
      case first =>
        have hD1:Below y1.heap.size y1 y1.drew:=(Below.refl _ y1).drew
        refine wp_region_noPanic ?_
        refine wp_region_held_drew (S:=fun _=>True) (by kernel_rfl) trivial (fun hHeld=>?_)
        refine takeH (some 68) (i:=0) (v:=?_) rfl (by kernel_rfl) (by kernel_rfl) (by kernel_rfl) (fun _ _ _ h=>h) (Or.inl ⟨by rfl,?_⟩) hHeld rfl ?_
        rotate_left
        · intro w hSw;go_simp;with_reducible rfl
        (try simp only[Act.put,sIx,sZ0,sZ1])
        refine takeH (some 69) (i:=1) (v:=?_) rfl (by kernel_rfl) (by kernel_rfl) (by kernel_rfl) (fun _ _ _ h=>h) (Or.inl ⟨by rfl,?_⟩) hHeld rfl ?_
        rotate_left
        · intro w hSw;go_simp;with_reducible rfl
        (try simp only[Act.put,sIx,sZ0,sZ1])
        refine takeH (some 70) (i:=2) (v:=?_) rfl (by kernel_rfl) (by kernel_rfl) (by kernel_rfl) (fun _ _ _ h=>h) (Or.inl ⟨by rfl,?_⟩) hHeld rfl ?_
        rotate_left
        · intro w hSw;go_simp;with_reducible rfl
        (try simp only[Act.put,sIx,sZ0,sZ1])
        refine takeH (some 71) (i:=3) (v:=?_) rfl (by kernel_rfl) (by kernel_rfl) (by kernel_rfl) (fun _ _ _ h=>h) (Or.inl ⟨by rfl,?_⟩) hHeld rfl ?_
        rotate_left
        · intro w hSw;go_simp;with_reducible rfl
        (try simp only[Act.put,sIx,sZ0,sZ1])
        refine wpAnyH_ready (rs:=[4,5]) (by kernel_rfl) (by simp) (AllReadyH.cons rfl (fun K hK=>?_) (AllReadyH.cons rfl (fun K hK=>?_) AllReadyH.nil))
        · go_simp
          refine(HKey y1.drew).mono ?_
          rintro e y2 ⟨⟨ka,kc,rfl,hkk⟩,hb2⟩
          go_simp
          refine hK.out _ _ trivial (fun hHeld=>?_)
          (try simp only[Act.put,sIx,sZ0,sZ1])
          clear hK K
          refine wpAnyH_ready (rs:=[5]) (by kernel_rfl) (by simp) (AllReadyH.cons rfl (fun K hK=>?_) AllReadyH.nil)
          obtain⟨y3,hrun,hob,hb3⟩:=make_run100 y2
          have Hrun:=mkHid hrun
          clear hrun
          go_simp
          rw[Hrun.out]
          go_simp
          refine hK.out _ _ trivial (fun hHeld=>?_)
          (try simp only[Act.put,sIx,sZ0,sZ1])
          clear hK K Hrun
          have hb13:Below y1.heap.size y1 y3:=hD1.trans ((hb2.trans (hb3.mono hb2.size)).mono hD1.size)
          have q1:BsP 0 y3 ka (keyN i).length kc (keyN i):=IsB.bsp (fun W hW=>hkk W ((KeepU.of_below hb3).trans hW))
          have q2:BsP 0 y3 (some ⟨y2.heap.size,0,none⟩) (List.replicate 100 (0:UInt8)).length 100 (List.replicate 100 0):=own_bsp (by rw[List.length_replicate]) (by rw[List.length_replicate];exact hob)
          have HP:=codPut13 y3 S J P w.heap.size (50+150 * i) t0 j root ((List.range i).map kE) SS ⟨keyN i,List.replicate 100 0⟩ ⟨ka,kc,some ⟨y2.heap.size,0,none⟩,100⟩ (SpAx.keep HS1.out (KeepT.of_below hb13)) HT.out.tk HT.out.tr (EtQ.of q1 q2) (key_item i) (by show 0+8≤48;omega) (by rw[List.length_map,List.length_range];omega) (by have h1:=HT.out.pages.2.2;rw[List.length_map,List.length_range] at h1;rw[HT.out.n];omega)
          rw[range_put hi80] at HP
          have HK13:=mkHid (HK1.out.trans (KS.of_below hb13 (spcOK.lo HS1.out)))
          clear q1 q2 hb13
          refine wpAnyH_ready (rs:=[6]) (by kernel_rfl) (by simp) (AllReadyH.cons rfl (fun K hK=>?_) AllReadyH.nil)
          go_simp
          refine HP.mono ?_
          rintro e y5 ⟨⟨t',r',S',rfl,hA5,hT5,hR5,_⟩,hk5⟩
          have HA5:=mkHid (And.intro hA5 (And.intro hT5 hR5))
          have HK5:=mkHid (HK13.out.trans hk5)
          clear hA5 hT5 hR5 hk5 HP HK13
          go_simp
          refine hK.out _ _ trivial (fun hHeld=>?_)
          (try simp only[Act.put,sIx,sZ0,sZ1])
          clear hK K
          refine takeH (some 67) (i:=7) (v:=?_) rfl (by kernel_rfl) (by kernel_rfl) (by kernel_rfl) (fun _ _ _ h=>h) (Or.inl ⟨by rfl,?_⟩) hHeld rfl ?_
          rotate_left
          · intro w hSw;go_simp;with_reducible rfl
          (try simp only[Act.put,sIx,sZ0,sZ1])
          refine takeH (some 75) (i:=8) (v:=?_) rfl (by kernel_rfl) (by kernel_rfl) (by kernel_rfl) (fun _ _ _ h=>h) (Or.inl ⟨by rfl,?_⟩) hHeld rfl ?_
          rotate_left
          · intro w hSw;go_simp;with_reducible rfl
          (try simp only[Act.put,sIx,sZ0,sZ1])
          refine takeH (some 76) (i:=9) (v:=?_) rfl (by kernel_rfl) (by kernel_rfl) (by kernel_rfl) (fun _ _ _ h=>h) (Or.inl ⟨by rfl,?_⟩) hHeld rfl ?_
          rotate_left
          · intro w hSw;go_simp;with_reducible rfl
          (try simp only[Act.put,sIx,sZ0,sZ1])
          refine takeH (some 13) (i:=10) (v:=?_) rfl (by kernel_rfl) (by kernel_rfl) (by kernel_rfl) (fun _ _ _ h=>h) (Or.inl ⟨by rfl,?_⟩) hHeld rfl ?_
          rotate_left
          · intro w hSw;go_simp;with_reducible rfl
          (try simp only[Act.put,sIx,sZ0,sZ1])
          refine takeH (some 14) (i:=11) (v:=?_) rfl (by kernel_rfl) (by kernel_rfl) (by kernel_rfl) (fun _ _ _ h=>h) (Or.inl ⟨by rfl,?_⟩) hHeld rfl ?_
          rotate_left
          · intro w hSw;go_simp;with_reducible rfl
          (try simp only[Act.put,sIx,sZ0,sZ1])
          refine wpAnyH_done (by kernel_rfl) ?_ _
          refine NoPanic.normal ?_
          go_wp2_with fail
          go_meet
          case rel=>exact⟨⟨t',r',S',rfl,rfl,HA5⟩,HK5⟩
        · obtain⟨y2,hrun,hob,hb2⟩:=make_run100 y1.drew
          have Hrun:=mkHid hrun
          clear hrun
          go_simp
          rw[Hrun.out]
          go_simp
          refine hK.out _ _ trivial (fun hHeld=>?_)
          (try simp only[Act.put,sIx,sZ0,sZ1])
          clear hK K Hrun
          refine wpAnyH_ready (rs:=[4]) (by kernel_rfl) (by simp) (AllReadyH.cons rfl (fun K hK=>?_) AllReadyH.nil)
          go_simp
          refine(HKey y2).mono ?_
          rintro e y3 ⟨⟨ka,kc,rfl,hkk⟩,hb3⟩
          go_simp
          refine hK.out _ _ trivial (fun hHeld=>?_)
          (try simp only[Act.put,sIx,sZ0,sZ1])
          clear hK K
          have hb13:Below y1.heap.size y1 y3:=hD1.trans ((hb2.trans (hb3.mono hb2.size)).mono hD1.size)
          have q1:BsP 0 y3 ka (keyN i).length kc (keyN i):=IsB.bsp hkk
          have q2:BsP 0 y3 (some ⟨y1.drew.heap.size,0,none⟩) (List.replicate 100 (0:UInt8)).length 100 (List.replicate 100 0):=own_bsp (by rw[List.length_replicate]) (by rw[List.length_replicate];exact own_keepO (us:=[5]) (KeepO.of_below hb3) hob (by decide))
          have HP:=codPut13 y3 S J P w.heap.size (50+150 * i) t0 j root ((List.range i).map kE) SS ⟨keyN i,List.replicate 100 0⟩ ⟨ka,kc,some ⟨y1.drew.heap.size,0,none⟩,100⟩ (SpAx.keep HS1.out (KeepT.of_below hb13)) HT.out.tk HT.out.tr (EtQ.of q1 q2) (key_item i) (by show 0+8≤48;omega) (by rw[List.length_map,List.length_range];omega) (by have h1:=HT.out.pages.2.2;rw[List.length_map,List.length_range] at h1;rw[HT.out.n];omega)
          rw[range_put hi80] at HP
          have HK13:=mkHid (HK1.out.trans (KS.of_below hb13 (spcOK.lo HS1.out)))
          clear q1 q2 hb13
          refine wpAnyH_ready (rs:=[6]) (by kernel_rfl) (by simp) (AllReadyH.cons rfl (fun K hK=>?_) AllReadyH.nil)
          go_simp
          refine HP.mono ?_
          rintro e y5 ⟨⟨t',r',S',rfl,hA5,hT5,hR5,_⟩,hk5⟩
          have HA5:=mkHid (And.intro hA5 (And.intro hT5 hR5))
          have HK5:=mkHid (HK13.out.trans hk5)
          clear hA5 hT5 hR5 hk5 HP HK13
          go_simp
          refine hK.out _ _ trivial (fun hHeld=>?_)
          (try simp only[Act.put,sIx,sZ0,sZ1])
          clear hK K
          refine takeH (some 67) (i:=7) (v:=?_) rfl (by kernel_rfl) (by kernel_rfl) (by kernel_rfl) (fun _ _ _ h=>h) (Or.inl ⟨by rfl,?_⟩) hHeld rfl ?_
          rotate_left
          · intro w hSw;go_simp;with_reducible rfl
          (try simp only[Act.put,sIx,sZ0,sZ1])
          refine takeH (some 75) (i:=8) (v:=?_) rfl (by kernel_rfl) (by kernel_rfl) (by kernel_rfl) (fun _ _ _ h=>h) (Or.inl ⟨by rfl,?_⟩) hHeld rfl ?_
          rotate_left
          · intro w hSw;go_simp;with_reducible rfl
          (try simp only[Act.put,sIx,sZ0,sZ1])
          refine takeH (some 76) (i:=9) (v:=?_) rfl (by kernel_rfl) (by kernel_rfl) (by kernel_rfl) (fun _ _ _ h=>h) (Or.inl ⟨by rfl,?_⟩) hHeld rfl ?_
          rotate_left
          · intro w hSw;go_simp;with_reducible rfl
          (try simp only[Act.put,sIx,sZ0,sZ1])
          refine takeH (some 13) (i:=10) (v:=?_) rfl (by kernel_rfl) (by kernel_rfl) (by kernel_rfl) (fun _ _ _ h=>h) (Or.inl ⟨by rfl,?_⟩) hHeld rfl ?_
          rotate_left
          · intro w hSw;go_simp;with_reducible rfl
          (try simp only[Act.put,sIx,sZ0,sZ1])
          refine takeH (some 14) (i:=11) (v:=?_) rfl (by kernel_rfl) (by kernel_rfl) (by kernel_rfl) (fun _ _ _ h=>h) (Or.inl ⟨by rfl,?_⟩) hHeld rfl ?_
          rotate_left
          · intro w hSw;go_simp;with_reducible rfl
          (try simp only[Act.put,sIx,sZ0,sZ1])
          refine wpAnyH_done (by kernel_rfl) ?_ _
          refine NoPanic.normal ?_
          go_wp2_with fail
          go_meet
          case rel=>exact⟨⟨t',r',S',rfl,rfl,HA5⟩,HK5⟩
      case rest =>
        obtain⟨⟨t',r',S',rfl,rfl,HA5⟩,HK5⟩:=hcut
        rename World=>y5
        have HCm:=treeCommit HA5.out.1 HA5.out.2.1 HA5.out.2.2 HT.out.n (by omega)
        clear HKey HS1 HK1
        go_wp2_with fail
        refine HCm.mono ?_
        rintro e y6 ⟨rfl,hT6,hk6⟩
        have HT6:Hid (TJ y6 J P w.heap.size (50+150 * (i+1)) 4096 (cmJ t' j) r' ((List.range (i+1)).map kE) S'):=by rw[show 50+150 * (i+1)=50+150 * i+150 by omega];exact hT6
        have HB6:=mkHid (HB.out.trans (HK5.out.trans hk6).b)
        clear HCm hT6 hk6 HT HB HA5 HK5
        go_wp2_with fail
        go_roundw
        case rel=>exact⟨i+1,cmJ t' j,r',S',by omega,rfl,by go_num,HT6,HB6⟩
        case measure=>simp[Go.RowKit.intOf];omega
    · have hlt':¬(i:Int)<(n:Int):=by omega
      obtain rfl:i=n:=by omega
      clear hlt
      go_wp2_with fail
      go_loopw [8,15] (fun v8 v15 wx=>∃(at_:Nat) (m:Nat) (j:Jl) (root:Nat) (SS:List Int),at_≤step∧v8=.int .i64 (root:Int)∧v15=.int .i64 (at_:Int)∧m+150 * (leftN i step at_ at_).length≤50+300 * i∧Hid (TJ wx J P w.heap.size m 4096 j root ((leftN i step at_ at_).map kE) SS)∧Hid (Below w.heap.size w wx)) (fun _ v _=>step-(Go.RowKit.intOf v).toNat)
      case atStart=>exact⟨0,50+150 * i,j,root,SS,Nat.zero_le _,rfl,rfl,by rw[leftN_0,List.length_range];omega,by rw[leftN_0];exact HT,HB⟩
      case round =>
        clear HT HB
        obtain⟨at_,m,j,root,SS,ha,rfl,rfl,hm,HT,HB⟩:=hrel
        by_cases hla:at_<step
        · have hla':(at_:Int)<(step:Int):=by omega
          go_wp2_with fail
          go_loopw [8,16] (fun v8 v16 wy=>∃(k:Nat) (m:Nat) (j:Jl) (root:Nat) (SS:List Int),k≤i+step∧k%step=at_∧v8=.int .i64 (root:Int)∧v16=.int .i64 (k:Int)∧m+150 * (leftN i step at_ k).length≤50+300 * i∧Hid (TJ wy J P w.heap.size m 4096 j root ((leftN i step at_ k).map kE) SS)∧Hid (Below w.heap.size w wy)) (fun _ v _=>i+step-(Go.RowKit.intOf v).toNat)
          case atStart=>exact⟨at_,m,j,root,SS,by omega,Nat.mod_eq_of_lt hla,rfl,rfl,hm,HT,HB⟩
          case round =>
            clear HT HB hm
            obtain⟨k,m,j,root,SS,hk,hkm,rfl,rfl,hm,HT,HB⟩:=hrel
            by_cases hlk:k<i
            · have hlk':(k:Int)<(i:Int):=by omega
              obtain⟨d1,d2,d3⟩:=leftN_del hn80 hs0 hlk hkm
              have HOp:=treeOpen HT.out
              go_wp2_with fail
              refine HOp.mono ?_
              rintro e y1 ⟨⟨S,rfl,hS1⟩,hk1⟩
              have HS1:=mkHid hS1
              have HK1:=mkHid hk1
              clear HOp hS1 hk1
              have HKey:=lawKeyN13 k y1 (by omega)
              go_wp2_with (first
                | (go_at_fn 31;refine HKey.mono ?_;rintro e y2 ⟨⟨ka,kc,rfl,hkk⟩,hb2⟩)
                | (go_at_call 16
                   have HD:=codDel13 y2 S J P w.heap.size m t0 j root _ SS ka (keyN k).length kc (keyN k) (SpAx.keep HS1.out (KeepT.of_below hb2)) HT.out.tk HT.out.tr (hkk y2 (KeepU.refl _ _ _)) (key_ok k) (by show 0+6≤48;omega)
                   rw[d1,d2] at HD
                   refine HD.mono ?_
                   rintro e y3 ⟨⟨t',r',S',rfl,hA3,hT3,hR3,_⟩,hk3⟩
                   have HA3:=mkHid (And.intro hA3 (And.intro hT3 hR3))
                   have HK3:=mkHid (HK1.out.trans ((KS.of_below hb2 (spcOK.lo HS1.out)).trans hk3))
                   clear hA3 hT3 hR3 hk3 HD hkk hb2))
              have HCm:=treeCommit HA3.out.1 HA3.out.2.1 HA3.out.2.2 HT.out.n (by omega)
              refine HCm.mono ?_
              rintro e y6 ⟨rfl,hT6,hk6⟩
              have HT6:=mkHid hT6
              have HB6:=mkHid (HB.out.trans (HK3.out.trans hk6).b)
              have HM6:Hid (m+150+150 * (leftN i step at_ (k+step)).length≤50+300 * i):=by unfold Hid;omega
              clear HCm hT6 hk6 HT HB HA3 HK3 HKey HS1 HK1 d1 d2 d3 hm
              go_wp2_with fail
              go_roundw
              case rel=>exact⟨k+step,m+150,cmJ t' j,r',S',by omega,by rw[Nat.add_mod_right];exact hkm,rfl,by go_num,HM6.out,HT6,HB6⟩
              case measure=>simp[Go.RowKit.intOf];omega
            · have hlk':¬(k:Int)<(i:Int):=by omega
              rw[leftN_next (by omega)] at hm HT
              have HM:=mkHid hm
              clear hm
              go_wp2_with fail
              go_roundw
              case rel=>exact⟨at_+1,m,j,root,SS,by omega,rfl,by go_num,HM.out,HT,HB⟩
              case measure=>simp[Go.RowKit.intOf];omega
        · have hla':¬(at_:Int)<(step:Int):=by omega
          obtain rfl:at_=step:=by omega
          rw[leftN_end hs0] at HT
          obtain⟨hr0,hs00⟩:=tr_nil HT.out.tr
          subst hr0 hs00
          have HOp:=treeOpen HT.out
          clear hm
          go_wp2_with fail
          refine HOp.mono ?_
          rintro e y1 ⟨⟨S,rfl,hS1⟩,hk1⟩
          have HFe:=spcOK.free y1 S J P w.heap.size m t0 j hS1 HT.out.tk.fit
          have hfe:=HT.out.tk.all
          rw[show (freeL (mapL t0 j) (j.p.n-51):Int)=4045 by have h9:=HT.out.n;rw[h9] at hfe ⊢;simp only[List.length_nil] at hfe;omega] at HFe
          have HB1:=mkHid (HB.out.trans hk1.b)
          clear HOp hS1 hk1 hfe HT HB
          go_wp2_with fail
          refine HFe.mono ?_
          rintro e y2 ⟨rfl,-,hk2⟩
          have HB2:=mkHid (HB1.out.trans hk2.b)
          clear HFe hk2 HB1
          go_wp2_with fail
          refine(HAl y2).mono ?_
          rintro e y3 ⟨rfl,hb3⟩
          have HB3:=mkHid (HB2.out.trans (hb3.mono HB2.out.size))
          clear hb3 HB2
          go_wp2_with fail
          go_ret
          exact⟨rfl,HB3.out⟩
theorem returns_laid {H:Type}{enc:TypeId × Value→H}{a:Assume}{C:Checked}{os:Os}{f:FuncId}{fn:Func}{s:ChangeSpec}{conds:List PathCond}{apart fresh handsOn again:Bool}{X:World→Array Value→Prop}
  (hX:∀(w w':World) (args:Array Value),w.heap=w'.heap→X w args→X w' args)
  (own:ownKnob C.prog.godebug=none) (started:os.Started) (noInit:C.prog.inits.idxOf? f=none) (hfn:C.prog.funcs[f]?=some fn)
  (witness:∃(w:World) (tape:Tape) (i:Input),w.os=os∧(w.forCall tape i).Shaped C.prog∧i.vars=[]∧Input.okWide C.prog (w.forCall tape i) .any w.heap.size f i ∧
   ((s.pre enc C.prog fn conds apart (w.forCall tape i).memory i.args∧X (w.forCall tape i).memory i.args)∧sizedMet enc C.prog fn (OpenSpec.ofChange s) apart (w.forCall tape i).memory i.args)∧a.holds C.prog (lone (Frame.enter C.prog f i.args .normal) [] (w.forCall tape i)))
  (contract:∀(W:World) (base:Nat) (args:Array Value) (ds gs:List (DataW H)) (before:List MemPlace),
   (∀(j:Nat) t v,fn.params[j]?=some t→args[j]?=some v→Value.okWide C.prog W .any base t v) →
   DataW.Whole enc C.prog fn.params.toList s.vars apart W args.toList ds gs before →
   conds.all (PathCond.test C.prog ⟨fn.params.toList,ds,s.plain.varTypes C.prog,gs⟩)=true →
   (DataW.weightsEach C.prog (fn.params.toList++s.plain.varTypes C.prog) (ds++gs)).all (·≤reachBytes)=true→X W args→W.ShapedOpen C.prog →
   a.holds C.prog (lone (Frame.enter C.prog f args .normal) [] W) →
   Calls C.prog f args W fun e W'=>∃v,e=.returned v∧s.post enc C.prog fn apart fresh handsOn again W args v W'):
  ReturnsInHanded a C os f .any (fun w args=>(s.pre enc C.prog fn conds apart w args∧X w args)∧sizedMet enc C.prog fn (OpenSpec.ofChange s) apart w args) (s.post enc C.prog fn apart fresh handsOn again):=by
 refine returnsInHanded_of_calls own started noInit witness ?_
 intro w tape i _ hsh _ hok hpre hholds
 obtain⟨_,_,_,fn',hfn',_,_,_,_,hval⟩:=hok
 have e:fn'=fn:=Option.some.inj (hfn'.symm.trans hfn)
 subst e
 obtain⟨⟨⟨ds,gs,before,hw,hc⟩,hx⟩,hz⟩:=hpre
 have hw':=DataW.Whole.of_heap (w':=w.forCall tape i) (by rfl) hw
 refine(contract (w.forCall tape i) w.heap.size i.args ds gs before hval hw' hc (hz.weights hw) (hX _ _ _ (by rfl) hx) hsh hholds).mono fun e W' ⟨v,he,hp⟩=>?_
 subst he
 exact ChangeSpec.post_blind hp
abbrev laidQ13:List (String × DataW Unit):=[("unicode/utf8.acceptRanges",Rows.laid_unicode_utf8_acceptRanges),("unicode/utf8.first",Rows.laid_unicode_utf8_first)]
end Go.Proofs.YtpecobmfabmpkaaGreatDoor
