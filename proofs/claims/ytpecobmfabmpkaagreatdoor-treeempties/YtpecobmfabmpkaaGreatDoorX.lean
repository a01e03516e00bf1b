/- What this proof uses besides. -/
import Derived.Test.YtpecobmfabmpkaaGreatDoorM23
namespace Go.Proofs.YtpecobmfabmpkaaGreatDoor
section
open Go.RowKit
theorem has_nil (k:List UInt8):hasE13 [] k=false:=rfl
end
section
open Go.RowKit
theorem TJ.pages {w:World}{J P base m n:Nat}{j:Jl}{root:Nat}{l:List Et}{SS:List Int}(h:TJ w J P base m n j root l SS):(SS.length=0↔l.length=0)∧SS.length≤2 * l.length-1∧SS.length≤l.length+1:=h.tr.pages
theorem own_bsp {fl:Nat}{w:World}{base n c:Nat}{a:Option Addr}{l:List UInt8}(hn:n=l.length)(h:OwnB w base (.slice a n c) l):BsP fl w a n c l:=fun W hW=>by
 have h2:OwnB W base (.slice a n c) l:=own_keepO hW.o h (by decide)
 have h3:=own_isB h2
 rw[←hn] at h3
 exact h3
end
section
open Go.RowKit
set_option maxHeartbeats 1000000 in
theorem lawKeyN13 (i:Nat)(w:World)(hi:i≤80):
  Calls Tryz.prog 31 #[.int .i64 (i:Int)] w fun e w'=>KeyPost 0 (keyN i) e w'∧Below w.heap.size w w':=by
 have q1:(i:Int).tdiv 26=((i/26:Nat):Int):=by rw[Int.tdiv_eq_ediv_of_nonneg (by omega)];omega
 have q2:(i:Int).tmod 26=((i%26:Nat):Int):=by rw[Int.tmod_eq_emod_of_nonneg (by omega)];omega
 have v1:(97:Int)+((i/26:Nat):Int)=((UInt8.ofNat (97+i/26)).toNat:Int):=by rw[UInt8.toNat_ofNat'];omega
 have v2:(97:Int)+((i%26:Nat):Int)=((UInt8.ofNat (97+i%26)).toNat:Int):=by rw[UInt8.toNat_ofNat'];omega
 have v3:(i:Int)=((UInt8.ofNat i).toNat:Int):=by rw[UInt8.toNat_ofNat'];omega
 have b1:i/26<5:=by omega
 have b2:i%26<26:=by omega
 have HM:Hid (keyN i=[UInt8.ofNat (97+i/26),UInt8.ofNat (97+i%26),UInt8.ofNat i]):=rfl
 generalize UInt8.ofNat (97+i/26)=d1 at *
 generalize UInt8.ofNat (97+i%26)=d2 at *
 generalize UInt8.ofNat i=d3 at *
 generalize i/26=r1 at *
 generalize i%26=r2 at *
 have HO1:=mkHid (own_lit w w.heap.size [d1,d2,d3] (Nat.le_refl _) (by unfold maxLen;simp))
 have HB1:Hid (Below w.heap.size w (w.alloc (.cells (bv [d1,d2,d3]).toArray 5))):=(Below.refl _ w).alloc (Nat.le_refl _) _
 change Hid (OwnB (w.alloc (.cells #[.int .u8 (d1.toNat:Int),.int .u8 (d2.toNat:Int),.int .u8 (d3.toNat:Int)] 5)) w.heap.size (.slice (some ⟨w.heap.size,0,none⟩) 3 3) [d1,d2,d3]) at HO1
 change Hid (Below w.heap.size w (w.alloc (.cells #[.int .u8 (d1.toNat:Int),.int .u8 (d2.toNat:Int),.int .u8 (d3.toNat:Int)] 5))) at HB1
 rw[←v1,←v2,←v3] at HO1 HB1
 clear v1 v2 v3
 go_enter Tryz.func31,Tryz.ntmps31
 go_wp2_with fail
 go_ret
 rw[HM.out]
 exact⟨⟨_,_,rfl,fun W hW=>own_isB (own_keepO hW.o HO1.out (by decide))⟩,HB1.out⟩
end
section
open Go.RowKit
theorem u8_lt {a b:Nat}(ha:a<256)(hb:b<256)(h:a<b):UInt8.ofNat a<UInt8.ofNat b:=by
 rw[UInt8.lt_iff_toNat_lt,UInt8.toNat_ofNat',UInt8.toNat_ofNat'];omega
theorem keyN_lt {i j:Nat}(h:i<j)(hj:j≤80):Op.bytesLess (keyN i) (keyN j)=true:=by
 unfold keyN
 rw[lt_cons,lt_cons,lt_cons]
 by_cases h1:i/26<j/26
 ·have:=u8_lt (a:=97+i/26) (b:=97+j/26) (by omega) (by omega) (by omega)
  rw[decide_eq_true this];rfl
 ·have e:i/26=j/26:=by omega
  have:=u8_lt (a:=97+i%26) (b:=97+j%26) (by omega) (by omega) (by omega)
  rw[e,decide_eq_true this];simp
def X13 (X:List Nat):Prop:=X.Pairwise (· < ·)∧∀x∈X,x<80
theorem kE_del {X:List Nat}(hX:X13 X){i:Nat}(hi:i<80):hasE13 (X.map kE) (keyN i)=decide (i∈X)∧delE13 (X.map kE) (keyN i)=(X.filter (fun x=>x != i)).map kE:=by
 induction X with
 | nil=>exact⟨by simp[has_nil],rfl⟩
 | cons x X ih =>
  have hX2:X13 X:=⟨(List.pairwise_cons.1 hX.1).2,fun y hy=>hX.2 y (List.mem_cons_of_mem _ hy)⟩
  have hx:=hX.2 x List.mem_cons_self
  have ih:=ih hX2
  rw[List.map_cons,has_cons,del_cons]
  rcases Nat.lt_trichotomy x i with h|h|h
  ·have hl:Op.bytesLess (kE x).k (keyN i)=true:=keyN_lt h (by omega)
   rw[if_pos hl,if_pos hl,ih.1,ih.2]
   have hne:(x != i)=true:=by simp;omega
   have hne2:¬i=x:=by omega
   exact⟨by simp[hne2],by rw[List.filter_cons,if_pos hne,List.map_cons]⟩
  ·subst h
   have hl:¬Op.bytesLess (kE x).k (keyN x)=true:=by rw[show (kE x).k=keyN x from rfl,lt_irr];simp
   rw[if_neg hl,if_neg hl,if_pos (show (kE x).k=keyN x from rfl)]
   refine⟨by simp[show (kE x).k=keyN x from rfl],?_⟩
   rw[List.filter_cons,if_neg (by simp),List.filter_eq_self.2 (fun y hy=>by have:=(List.pairwise_cons.1 hX.1).1 y hy;simp;omega)]
  ·have hl:Op.bytesLess (keyN i) (kE x).k=true:=keyN_lt h (by omega)
   have hl2:¬Op.bytesLess (kE x).k (keyN i)=true:=by rw[lt_no hl];simp
   have hne:=lt_ne hl
   have hni:¬i∈x::X:=fun hm=>by
    rcases List.mem_cons.1 hm with e|hm
    ·omega
    ·have:=(List.pairwise_cons.1 hX.1).1 i hm;omega
   rw[if_neg hl2,if_neg hl2,if_neg hne]
   refine⟨?_,?_⟩
   ·rw[decide_eq_false hni];simpa using hne
   ·rw[List.filter_eq_self.2 (fun y hy=>by have:y≠i:=fun e=>hni (e▸hy);simpa using this),List.map_cons]
theorem kE_put {i:Nat}{X:List Nat}(hX:∀x∈X,x<i)(hi:i<80)(v:List UInt8):putE13 (X.map kE) (keyN i) v=X.map kE++[⟨keyN i,v⟩]:=by
 induction X with
 | nil=>rfl
 | cons x X ih =>
  have hl:Op.bytesLess (kE x).k (keyN i)=true:=keyN_lt (hX x List.mem_cons_self) (by omega)
  rw[List.map_cons,put_cons,if_pos hl,ih (fun y hy=>hX y (List.mem_cons_of_mem _ hy))]
  rfl
theorem range_put {i:Nat}(hi:i<80):putE13 ((List.range i).map kE) (keyN i) (List.replicate 100 0)=(List.range (i+1)).map kE:=by
 rw[kE_put (fun x hx=>List.mem_range.1 hx) hi,List.range_succ,List.map_append];rfl
def goneB (step at_ i x:Nat):Bool:=decide (x%step<at_)||(decide (x%step=at_)&&decide (x<i))
def leftN (n step at_ i:Nat):List Nat:=(List.range n).filter (fun x => !goneB step at_ i x)
theorem leftN_ok {n step at_ i:Nat}(hn:n≤80):X13 (leftN n step at_ i):=⟨List.Pairwise.filter _ List.pairwise_lt_range,fun x hx=>by have:=List.mem_range.1 (List.mem_filter.1 hx).1;omega⟩
theorem leftN_0 (n step:Nat):leftN n step 0 0=List.range n:=by
 unfold leftN
 exact List.filter_eq_self.2 (fun x _=>by unfold goneB;simp)
theorem leftN_next {n step at_ i:Nat}(h:n≤i):leftN n step at_ i=leftN n step (at_+1) (at_+1):=by
 unfold leftN
 refine List.filter_congr fun x hx=>?_
 have hx:=List.mem_range.1 hx
 have hle:=Nat.mod_le x step
 unfold goneB
 congr 1
 rw[Bool.eq_iff_iff]
 simp only[Bool.or_eq_true,Bool.and_eq_true,decide_eq_true_eq]
 omega
theorem leftN_end {n step:Nat}(hs:0<step)(i:Nat):leftN n step step i=[]:=by
 unfold leftN
 refine List.filter_eq_nil_iff.2 fun x _=>?_
 have:=Nat.mod_lt x hs
 unfold goneB
 rw[decide_eq_true this];simp
theorem leftN_mem {n step at_ i:Nat}(hi:i<n)(hm:i%step=at_):i∈leftN n step at_ i:=by
 unfold leftN
 refine List.mem_filter.2 ⟨List.mem_range.2 hi,?_⟩
 unfold goneB
 simp[hm]
theorem mod_between {step i x:Nat}(h1:i≤x)(h2:x<i+step)(h:x%step=i%step):x=i:=by
 have h3:=Nat.sub_mod_eq_zero_of_mod_eq h
 rw[Nat.mod_eq_of_lt (by omega)] at h3
 omega
theorem leftN_step {n step at_ i:Nat}(hm:i%step=at_)(hs:0<step):(leftN n step at_ i).filter (fun x=>x != i)=leftN n step at_ (i+step):=by
 unfold leftN
 rw[List.filter_filter]
 refine List.filter_congr fun x hx=>?_
 unfold goneB
 rw[Bool.eq_iff_iff]
 simp only[Bool.and_eq_true,Bool.not_eq_true',Bool.or_eq_false_iff,Bool.and_eq_false_iff,decide_eq_false_iff_not,bne_iff_ne,ne_eq]
 constructor
 ·rintro⟨h1,h2,h3⟩
  refine⟨h2,?_⟩
  rcases h3 with h3|h3
  ·exact .inl h3
  ·by_cases h4:x%step=at_
   ·refine .inr fun h5=>h1 (mod_between (by omega) h5 (h4.trans hm.symm))
   ·exact .inl h4
 ·rintro⟨h1,h2⟩
  refine⟨?_,h1,?_⟩
  ·rintro rfl
   rcases h2 with h2|h2
   ·exact h2 hm
   ·omega
  ·rcases h2 with h2|h2
   ·exact .inl h2
   ·exact .inr (by omega)
theorem del_len1 {l:List Et}{key:List UInt8}(h:hasE13 l key=true):(delE13 l key).length+1=l.length:=by
 unfold hasE13 at h
 unfold delE13
 rw[if_pos h,List.length_append,List.length_take,List.length_drop]
 unfold isE at h
 have h2:atE l key<l.length:=by
  have:=(Bool.and_eq_true _ _▸h).1
  exact of_decide_eq_true this
 omega
theorem leftN_del {n step at_ i:Nat}(hn:n≤80)(hs:0<step)(hi:i<n)(hm:i%step=at_):
  hasE13 ((leftN n step at_ i).map kE) (keyN i)=true∧delE13 ((leftN n step at_ i).map kE) (keyN i)=(leftN n step at_ (i+step)).map kE∧(leftN n step at_ (i+step)).length+1=(leftN n step at_ i).length:=by
 have h:=kE_del (leftN_ok (step:=step) (at_:=at_) (i:=i) hn) (i:=i) (by omega)
 rw[decide_eq_true (leftN_mem hi hm),leftN_step hm hs] at h
 have h3:=del_len1 h.1
 rw[h.2,List.length_map,List.length_map] at h3
 exact⟨h.1,h.2,h3⟩
end
section
open Go.RowKit
theorem make_run100 (w:World):∃w',(Instr.makeSlice 33 (.int .i64 100) (.int .i64 100)).run Tryz.prog w=.ok (.slice (some ⟨w.heap.size,0,none⟩) 100 100) w'∧OwnB w' w.heap.size (.slice (some ⟨w.heap.size,0,none⟩) 100 100) (List.replicate 100 0)∧Below w.heap.size w w':=by
  obtain⟨i0,hi,hz0,hz1,hz2⟩:=info_parts info8
  obtain⟨w',hrun,r1,r2⟩:=run_make_full (P:=Tryz.prog) w w.heap.size 33 5 i0 (.int .u8 0) 1 Tryz.underlying33 hi hz0 hz1 .i64 .i64 100 (by rw[hz2];omega) (by unfold maxLen;omega) (Nat.le_refl _)
  refine⟨w',hrun,?_,(Below.refl _ _).grown r2 (Nat.le_refl _) (fun k h=>by cases h)⟩
  rw[made_zeros] at r1
  unfold OwnB
  rw[List.length_replicate]
  exact r1
theorem key_item (i:Nat):itemOk (keyN i) (List.replicate 100 0)=true:=by
  unfold itemOk keyOk
  rw[show (keyN i).length=3 from rfl,List.length_replicate]
  decide
theorem key_ok (i:Nat):keyOk (keyN i)=true:=by
  unfold keyOk
  rw[show (keyN i).length=3 from rfl]
  decide
theorem tr_nil {t:Tl}{j:Jl}{root:Nat}{S:List Int}(h:TR t j root [] S):root=0∧S=[]:=by
  have hp:=h.pages
  have h0:S.length=0:=hp.1.2 rfl
  have h1:S=[]:=List.length_eq_zero_iff.1 h0
  subst h1
  rcases h.2 with⟨hr,_,_⟩|⟨hS,_⟩|⟨ps,_,_,hS⟩
  · exact⟨hr,rfl⟩
  · cases hS
  · cases hS
set_option maxRecDepth 20000 in
set_option maxHeartbeats 8000000 in
theorem empties13 (n0 step0:Int)(w:World)(hr:(-9223372036854775808≤n0∧n0≤9223372036854775807)∧(-9223372036854775808≤step0∧step0≤9223372036854775807)):
    Calls Tryz.prog 5 #[.int .i64 n0,.int .i64 step0] w fun e w'=>e=.returned (.bool true)∧Below w.heap.size w w':=by
  have HAl:=lawAlive13
  by_cases h1:n0<0
  · go_enter Tryz.func5,Tryz.ntmps5
    go_wp2_with fail
    refine(HAl w).mono ?_
    rintro e x1 ⟨rfl,hb1⟩
    go_wp2_with fail
    go_ret
    exact⟨rfl,hb1⟩
  by_cases h2:80<n0
  · go_enter Tryz.func5,Tryz.ntmps5
    go_wp2_with fail
    refine(HAl w).mono ?_
    rintro e x1 ⟨rfl,hb1⟩
    go_wp2_with fail
    go_ret
    exact⟨rfl,hb1⟩
  by_cases h3:step0<1
  · go_enter Tryz.func5,Tryz.ntmps5
    go_wp2_with fail
    refine(HAl w).mono ?_
    rintro e x1 ⟨rfl,hb1⟩
    go_wp2_with fail
    go_ret
    exact⟨rfl,hb1⟩
  by_cases h4:80<step0
  · go_enter Tryz.func5,Tryz.ntmps5
    go_wp2_with fail
    refine(HAl w).mono ?_
    rintro e x1 ⟨rfl,hb1⟩
    go_wp2_with fail
    go_ret
    exact⟨rfl,hb1⟩
  obtain⟨n,rfl⟩:∃n:Nat,n0=(n:Int):=⟨n0.toNat,by omega⟩
  obtain⟨step,rfl⟩:∃n:Nat,step0=(n:Int):=⟨step0.toNat,by omega⟩
  have hn80:n≤80:=by omega
  have hs0:0<step:=by omega
  have hs80:step≤80:=by omega
  clear hr
  have HFr:=lawFreshN 4096 (by omega) (by omega) w w.heap.size (Nat.le_refl _)
  rw[show ((4096:Nat):Int)=4096 from rfl] at HFr
  have hfn:∀args w,(callFunc 31 args).run Tryz.prog w=.ok (.enter 31 args) w:=fun args w=>by simp[callFunc,Tryz.func31];rfl
  go_enter Tryz.func5,Tryz.ntmps5
  go_wp2_with fail
  refine HFr.mono ?_
  rintro e x1 ⟨⟨J,S0,P,rfl,hS1⟩,hk1⟩
  have HB1:=mkHid hk1.out.b
  have HSp:=mkHid hS1.out
  have HFe:=spcOK.free x1 S0 J P w.heap.size 50 t0 ⟨Pl.new 4096,0,false⟩ HSp.out (tk_new 4096 (by omega) (by omega)).fit
  have hfe:freeL (mapL t0 ⟨Pl.new 4096,0,false⟩) 4045=4045:=(tk_new 4096 (by omega) (by omega)).all
  rw[show (freeL (mapL t0 ⟨Pl.new 4096,0,false⟩) ((⟨Pl.new 4096,0,false⟩:Jl).p.n-51):Int)=4045 by show ((freeL (mapL t0 ⟨Pl.new 4096,0,false⟩) 4045:Nat):Int)=4045;rw[hfe];rfl] at HFe
  clear HFr hS1 hk1 hfe
  go_wp2_with fail
  refine HFe.mono ?_
  rintro e x2 ⟨rfl,hS2,hk2⟩
  have HB2:=mkHid (HB1.out.trans hk2.b)
  have HT2:=mkHid (tj_new (by omega) (by omega) hS2)
  clear HFe hS2 hk2 HSp HB1
  go_wp2_with fail
  go_loopw [8,10] (fun v8 v10 wr=>∃(i:Nat) (j:Jl) (root:Nat) (SS:List Int),i≤n∧v8=.int .i64 (root:Int)∧v10=.int .i64 (i:Int)∧Hid (TJ wr J P w.heap.size (50+150 * i) 4096 j root ((List.range i).map kE) SS)∧Hid (Below w.heap.size w wr)) (fun _ v _=>n-(Go.RowKit.intOf v).toNat)
  case atStart=>exact⟨0,⟨Pl.new 4096,0,false⟩,0,[],Nat.zero_le _,rfl,rfl,HT2,HB2⟩
  case round =>
    clear HT2 HB2
    obtain⟨i,j,root,SS,hi,rfl,rfl,HT,HB⟩:=hrel
    by_cases hlt:i<n
    · have hlt':(i:Int)<(n:Int):=by omega
      have hi80:i<80:=by omega
      have HOp:=treeOpen HT.out
      go_wp2_with fail
      refine HOp.mono ?_
      rintro e y1 ⟨⟨S,rfl,hS1⟩,hk1⟩
      have HS1:=mkHid hS1
      have HK1:=mkHid hk1
      clear HOp hS1 hk1
      have HKey:=fun W=>lawKeyN13 i W (by omega)
      go_upto_region 15 with fail
      go_cut [13,14] from 51 to 84 (fun v13 v14 wx=>(∃(t':Tl) (r':Nat) (S':List Int),v13=.int .i64 (r':Int)∧v14=.int .i64 0∧Hid (SpAx wx S J P w.heap.size t' j∧Tk t' j (50+150 * i) S'∧TR t' j r' ((List.range (i+1)).map kE) S'))∧Hid (KS w.heap.size wr wx))
      case first =>
        have hD1:Below y1.heap.size y1 y1.drew:=(Below.refl _ y1).drew
        refine wp_region_noPanic ?_
        refine wp_region_held_drew (S:=fun _=>True) (by kernel_rfl) trivial (fun hHeld=>?_)
        refine takeH (some 68) (i:=0) (v:=?_) rfl (by kernel_rfl) (by kernel_rfl) (by kernel_rfl) (fun _ _ _ h=>h) (Or.inl ⟨by rfl,?_⟩) hHeld rfl ?_
        rotate_left
        · intro w hSw;go_simp;with_reducible rfl
        (try simp only[Act.put,sIx,sZ0,sZ1])
        refine takeH (some 69) (i:=1) (v:=?_) rfl (by kernel_rfl) (by kernel_rfl) (by kernel_rfl) (fun _ _ _ h=>h) (Or.inl ⟨by rfl,?_⟩) hHeld rfl ?_
        rotate_left
        · intro w hSw;go_simp;with_reducible rfl
        (try simp only[Act.put,sIx,sZ0,sZ1])
        refine takeH (some 70) (i:=2) (v:=?_) rfl (by kernel_rfl) (by kernel_rfl) (by kernel_rfl) (fun _ _ _ h=>h) (Or.inl ⟨by rfl,?_⟩) hHeld rfl ?_
        rotate_left
        · intro w hSw;go_simp;with_reducible rfl
        (try simp only[Act.put,sIx,sZ0,sZ1])
        refine takeH (some 71) (i:=3) (v:=?_) rfl (by kernel_rfl) (by kernel_rfl) (by kernel_rfl) (fun _ _ _ h=>h) (Or.inl ⟨by rfl,?_⟩) hHeld rfl ?_
        rotate_left
        · intro w hSw;go_simp;with_reducible rfl
        (try simp only[Act.put,sIx,sZ0,sZ1])
        refine wpAnyH_ready (rs:=[4,5]) (by kernel_rfl) (by simp) (AllReadyH.cons rfl (fun K hK=>?_) (AllReadyH.cons rfl (fun K hK=>?_) AllReadyH.nil))
        · go_simp
          refine(HKey y1.drew).mono ?_
          rintro e y2 ⟨⟨ka,kc,rfl,hkk⟩,hb2⟩
          go_simp
          refine hK.out _ _ trivial (fun hHeld=>?_)
          (try simp only[Act.put,sIx,sZ0,sZ1])
          clear hK K
          refine wpAnyH_ready (rs:=[5]) (by kernel_rfl) (by simp) (AllReadyH.cons rfl (fun K hK=>?_) AllReadyH.nil)
          obtain⟨y3,hrun,hob,hb3⟩:=make_run100 y2
          have Hrun:=mkHid hrun
          clear hrun
          go_simp
          rw[Hrun.out]
          go_simp
          refine hK.out _ _ trivial (fun hHeld=>?_)
          (try simp only[Act.put,sIx,sZ0,sZ1])
          clear hK K Hrun
          have hb13:Below y1.heap.size y1 y3:=hD1.trans ((hb2.trans (hb3.mono hb2.size)).mono hD1.size)
          have q1:BsP 0 y3 ka (keyN i).length kc (keyN i):=IsB.bsp (fun W hW=>hkk W ((KeepU.of_below hb3).trans hW))
          have q2:BsP 0 y3 (some ⟨y2.heap.size,0,none⟩) (List.replicate 100 (0:UInt8)).length 100 (List.replicate 100 0):=own_bsp (by rw[List.length_replicate]) (by rw[List.length_replicate];exact hob)
          have HP:=codPut13 y3 S J P w.heap.size (50+150 * i) t0 j root ((List.range i).map kE) SS ⟨keyN i,List.replicate 100 0⟩ ⟨ka,kc,some ⟨y2.heap.size,0,none⟩,100⟩ (SpAx.keep HS1.out (KeepT.of_below hb13)) HT.out.tk HT.out.tr (EtQ.of q1 q2) (key_item i) (by show 0+8≤48;omega) (by rw[List.length_map,List.length_range];omega) (by have h1:=HT.out.pages.2.2;rw[List.length_map,List.length_range] at h1;rw[HT.out.n];omega)
          rw[range_put hi80] at HP
          have HK13:=mkHid (HK1.out.trans (KS.of_below hb13 (spcOK.lo HS1.out)))
          clear q1 q2 hb13
          refine wpAnyH_ready (rs:=[6]) (by kernel_rfl) (by simp) (AllReadyH.cons rfl (fun K hK=>?_) AllReadyH.nil)
          go_simp
          refine HP.mono ?_
          rintro e y5 ⟨⟨t',r',S',rfl,hA5,hT5,hR5,_⟩,hk5⟩
          have HA5:=mkHid (And.intro hA5 (And.intro hT5 hR5))
          have HK5:=mkHid (HK13.out.trans hk5)
          clear hA5 hT5 hR5 hk5 HP HK13
          go_simp
          refine hK.out _ _ trivial (fun hHeld=>?_)
          (try simp only[Act.put,sIx,sZ0,sZ1])
          clear hK K
          refine takeH (some 67) (i:=7) (v:=?_) rfl (by kernel_rfl) (by kernel_rfl) (by kernel_rfl) (fun _ _ _ h=>h) (Or.inl ⟨by rfl,?_⟩) hHeld rfl ?_
          rotate_left
          · intro w hSw;go_simp;with_reducible rfl
          (try simp only[Act.put,sIx,sZ0,sZ1])
          refine takeH (some 75) (i:=8) (v:=?_) rfl (by kernel_rfl) (by kernel_rfl) (by kernel_rfl) (fun _ _ _ h=>h) (Or.inl ⟨by rfl,?_⟩) hHeld rfl ?_
          rotate_left
          · intro w hSw;go_simp;with_reducible rfl
          (try simp only[Act.put,sIx,sZ0,sZ1])
          refine takeH (some 76) (i:=9) (v:=?_) rfl (by kernel_rfl) (by kernel_rfl) (by kernel_rfl) (fun _ _ _ h=>h) (Or.inl ⟨by rfl,?_⟩) hHeld rfl ?_
          rotate_left
          · intro w hSw;go_simp;with_reducible rfl
          (try simp only[Act.put,sIx,sZ0,sZ1])
          refine takeH (some 13) (i:=10) (v:=?_) rfl (by kernel_rfl) (by kernel_rfl) (by kernel_rfl) (fun _ _ _ h=>h) (Or.inl ⟨by rfl,?_⟩) hHeld rfl ?_
          rotate_left
          · intro w hSw;go_simp;with_reducible rfl
          (try simp only[Act.put,sIx,sZ0,sZ1])
          refine takeH (some 14) (i:=11) (v:=?_) rfl (by kernel_rfl) (by kernel_rfl) (by kernel_rfl) (fun _ _ _ h=>h) (Or.inl ⟨by rfl,?_⟩) hHeld rfl ?_
          rotate_left
          · intro w hSw;go_simp;with_reducible rfl
          (try simp only[Act.put,sIx,sZ0,sZ1])
          refine wpAnyH_done (by kernel_rfl) ?_ _
          refine NoPanic.normal ?_
          go_wp2_with fail
          go_meet
          case rel=>exact⟨⟨t',r',S',rfl,rfl,HA5⟩,HK5⟩
        · obtain⟨y2,hrun,hob,hb2⟩:=make_run100 y1.drew
          have Hrun:=mkHid hrun
          clear hrun
          go_simp
          rw[Hrun.out]
          go_simp
          refine hK.out _ _ trivial (fun hHeld=>?_)
          (try simp only[Act.put,sIx,sZ0,sZ1])
          clear hK K Hrun
          refine wpAnyH_ready (rs:=[4]) (by kernel_rfl) (by simp) (AllReadyH.cons rfl (fun K hK=>?_) AllReadyH.nil)
          go_simp
          refine(HKey y2).mono ?_
          rintro e y3 ⟨⟨ka,kc,rfl,hkk⟩,hb3⟩
          go_simp
          refine hK.out _ _ trivial (fun hHeld=>?_)
          (try simp only[Act.put,sIx,sZ0,sZ1])
          clear hK K
          have hb13:Below y1.heap.size y1 y3:=hD1.trans ((hb2.trans (hb3.mono hb2.size)).mono hD1.size)
          have q1:BsP 0 y3 ka (keyN i).length kc (keyN i):=IsB.bsp hkk
          have q2:BsP 0 y3 (some ⟨y1.drew.heap.size,0,none⟩) (List.replicate 100 (0:UInt8)).length 100 (List.replicate 100 0):=own_bsp (by rw[List.length_replicate]) (by rw[List.length_replicate];exact own_keepO (us:=[5]) (KeepO.of_below hb3) hob (by decide))
          have HP:=codPut13 y3 S J P w.heap.size (50+150 * i) t0 j root ((List.range i).map kE) SS ⟨keyN i,List.replicate 100 0⟩ ⟨ka,kc,some ⟨y1.drew.heap.size,0,none⟩,100⟩ (SpAx.keep HS1.out (KeepT.of_below hb13)) HT.out.tk HT.out.tr (EtQ.of q1 q2) (key_item i) (by show 0+8≤48;omega) (by rw[List.length_map,List.length_range];omega) (by have h1:=HT.out.pages.2.2;rw[List.length_map,List.length_range] at h1;rw[HT.out.n];omega)
          rw[range_put hi80] at HP
          have HK13:=mkHid (HK1.out.trans (KS.of_below hb13 (spcOK.lo HS1.out)))
          clear q1 q2 hb13
          refine wpAnyH_ready (rs:=[6]) (by kernel_rfl) (by simp) (AllReadyH.cons rfl (fun K hK=>?_) AllReadyH.nil)
          go_simp
          refine HP.mono ?_
          rintro e y5 ⟨⟨t',r',S',rfl,hA5,hT5,hR5,_⟩,hk5⟩
          have HA5:=mkHid (And.intro hA5 (And.intro hT5 hR5))
          have HK5:=mkHid (HK13.out.trans hk5)
          clear hA5 hT5 hR5 hk5 HP HK13
          go_simp
          refine hK.out _ _ trivial (fun hHeld=>?_)
          (try simp only[Act.put,sIx,sZ0,sZ1])
          clear hK K
          refine takeH (some 67) (i:=7) (v:=?_) rfl (by kernel_rfl) (by kernel_rfl) (by kernel_rfl) (fun _ _ _ h=>h) (Or.inl ⟨by rfl,?_⟩) hHeld rfl ?_
          rotate_left
          · intro w hSw;go_simp;with_reducible rfl
          (try simp only[Act.put,sIx,sZ0,sZ1])
          refine takeH (some 75) (i:=8) (v:=?_) rfl (by kernel_rfl) (by kernel_rfl) (by kernel_rfl) (fun _ _ _ h=>h) (Or.inl ⟨by rfl,?_⟩) hHeld rfl ?_
          rotate_left
          · intro w hSw;go_simp;with_reducible rfl
          (try simp only[Act.put,sIx,sZ0,sZ1])
          refine takeH (some 76) (i:=9) (v:=?_) rfl (by kernel_rfl) (by kernel_rfl) (by kernel_rfl) (fun _ _ _ h=>h) (Or.inl ⟨by rfl,?_⟩) hHeld rfl ?_
          rotate_left
          · intro w hSw;go_simp;with_reducible rfl
          (try simp only[Act.put,sIx,sZ0,sZ1])
          refine takeH (some 13) (i:=10) (v:=?_) rfl (by kernel_rfl) (by kernel_rfl) (by kernel_rfl) (fun _ _ _ h=>h) (Or.inl ⟨by rfl,?_⟩) hHeld rfl ?_
          rotate_left
          · intro w hSw;go_simp;with_reducible rfl
          (try simp only[Act.put,sIx,sZ0,sZ1])
          refine takeH (some 14) (i:=11) (v:=?_) rfl (by kernel_rfl) (by kernel_rfl) (by kernel_rfl) (fun _ _ _ h=>h) (Or.inl ⟨by rfl,?_⟩) hHeld rfl ?_
          rotate_left
          · intro w hSw;go_simp;with_reducible rfl
          (try simp only[Act.put,sIx,sZ0,sZ1])
          refine wpAnyH_done (by kernel_rfl) ?_ _
          refine NoPanic.normal ?_
          go_wp2_with fail
          go_meet
          case rel=>exact⟨⟨t',r',S',rfl,rfl,HA5⟩,HK5⟩
      case rest =>
        obtain⟨⟨t',r',S',rfl,rfl,HA5⟩,HK5⟩:=hcut
        rename World=>y5
        have HCm:=treeCommit HA5.out.1 HA5.out.2.1 HA5.out.2.2 HT.out.n (by omega)
        clear HKey HS1 HK1
        go_wp2_with fail
        refine HCm.mono ?_
        rintro e y6 ⟨rfl,hT6,hk6⟩
        have HT6:Hid (TJ y6 J P w.heap.size (50+150 * (i+1)) 4096 (cmJ t' j) r' ((List.range (i+1)).map kE) S'):=by rw[show 50+150 * (i+1)=50+150 * i+150 by omega];exact hT6
        have HB6:=mkHid (HB.out.trans (HK5.out.trans hk6).b)
        clear HCm hT6 hk6 HT HB HA5 HK5
        go_wp2_with fail
        go_roundw
        case rel=>exact⟨i+1,cmJ t' j,r',S',by omega,rfl,by go_num,HT6,HB6⟩
        case measure=>simp[Go.RowKit.intOf];omega
    · have hlt':¬(i:Int)<(n:Int):=by omega
      obtain rfl:i=n:=by omega
      clear hlt
      go_wp2_with fail
      go_loopw [8,15] (fun v8 v15 wx=>∃(at_:Nat) (m:Nat) (j:Jl) (root:Nat) (SS:List Int),at_≤step∧v8=.int .i64 (root:Int)∧v15=.int .i64 (at_:Int)∧m+150 * (leftN i step at_ at_).length≤50+300 * i∧Hid (TJ wx J P w.heap.size m 4096 j root ((leftN i step at_ at_).map kE) SS)∧Hid (Below w.heap.size w wx)) (fun _ v _=>step-(Go.RowKit.intOf v).toNat)
      case atStart=>exact⟨0,50+150 * i,j,root,SS,Nat.zero_le _,rfl,rfl,by rw[leftN_0,List.length_range];omega,by rw[leftN_0];exact HT,HB⟩
      case round =>
        clear HT HB
        obtain⟨at_,m,j,root,SS,ha,rfl,rfl,hm,HT,HB⟩:=hrel
        by_cases hla:at_<step
        · have hla':(at_:Int)<(step:Int):=by omega
          go_wp2_with fail
          go_loopw [8,16] (fun v8 v16 wy=>∃(k:Nat) (m:Nat) (j:Jl) (root:Nat) (SS:List Int),k≤i+step∧k%step=at_∧v8=.int .i64 (root:Int)∧v16=.int .i64 (k:Int)∧m+150 * (leftN i step at_ k).length≤50+300 * i∧Hid (TJ wy J P w.heap.size m 4096 j root ((leftN i step at_ k).map kE) SS)∧Hid (Below w.heap.size w wy)) (fun _ v _=>i+step-(Go.RowKit.intOf v).toNat)
          case atStart=>exact⟨at_,m,j,root,SS,by omega,Nat.mod_eq_of_lt hla,rfl,rfl,hm,HT,HB⟩
          case round =>
            clear HT HB hm
            obtain⟨k,m,j,root,SS,hk,hkm,rfl,rfl,hm,HT,HB⟩:=hrel
            by_cases hlk:k<i
            · have hlk':(k:Int)<(i:Int):=by omega
              obtain⟨d1,d2,d3⟩:=leftN_del hn80 hs0 hlk hkm
              have HOp:=treeOpen HT.out
              go_wp2_with fail
              refine HOp.mono ?_
              rintro e y1 ⟨⟨S,rfl,hS1⟩,hk1⟩
              have HS1:=mkHid hS1
              have HK1:=mkHid hk1
              clear HOp hS1 hk1
              have HKey:=lawKeyN13 k y1 (by omega)
              go_wp2_with (first
                | (go_at_fn 31;refine HKey.mono ?_;rintro e y2 ⟨⟨ka,kc,rfl,hkk⟩,hb2⟩)
                | (go_at_call 16
                   have HD:=codDel13 y2 S J P w.heap.size m t0 j root _ SS ka (keyN k).length kc (keyN k) (SpAx.keep HS1.out (KeepT.of_below hb2)) HT.out.tk HT.out.tr (hkk y2 (KeepU.refl _ _ _)) (key_ok k) (by show 0+6≤48;omega)
                   rw[d1,d2] at HD
                   refine HD.mono ?_
                   rintro e y3 ⟨⟨t',r',S',rfl,hA3,hT3,hR3,_⟩,hk3⟩
                   have HA3:=mkHid (And.intro hA3 (And.intro hT3 hR3))
                   have HK3:=mkHid (HK1.out.trans ((KS.of_below hb2 (spcOK.lo HS1.out)).trans hk3))
                   clear hA3 hT3 hR3 hk3 HD hkk hb2))
              have HCm:=treeCommit HA3.out.1 HA3.out.2.1 HA3.out.2.2 HT.out.n (by omega)
              refine HCm.mono ?_
              rintro e y6 ⟨rfl,hT6,hk6⟩
              have HT6:=mkHid hT6
              have HB6:=mkHid (HB.out.trans (HK3.out.trans hk6).b)
              have HM6:Hid (m+150+150 * (leftN i step at_ (k+step)).length≤50+300 * i):=by unfold Hid;omega
              clear HCm hT6 hk6 HT HB HA3 HK3 HKey HS1 HK1 d1 d2 d3 hm
              go_wp2_with fail
              go_roundw
              case rel=>exact⟨k+step,m+150,cmJ t' j,r',S',by omega,by rw[Nat.add_mod_right];exact hkm,rfl,by go_num,HM6.out,HT6,HB6⟩
              case measure=>simp[Go.RowKit.intOf];omega
            · have hlk':¬(k:Int)<(i:Int):=by omega
              rw[leftN_next (by omega)] at hm HT
              have HM:=mkHid hm
              clear hm
              go_wp2_with fail
              go_roundw
              case rel=>exact⟨at_+1,m,j,root,SS,by omega,rfl,by go_num,HM.out,HT,HB⟩
              case measure=>simp[Go.RowKit.intOf];omega
        · have hla':¬(at_:Int)<(step:Int):=by omega
          obtain rfl:at_=step:=by omega
          rw[leftN_end hs0] at HT
          obtain⟨hr0,hs00⟩:=tr_nil HT.out.tr
          subst hr0 hs00
          have HOp:=treeOpen HT.out
          clear hm
          go_wp2_with fail
          refine HOp.mono ?_
          rintro e y1 ⟨⟨S,rfl,hS1⟩,hk1⟩
          have HFe:=spcOK.free y1 S J P w.heap.size m t0 j hS1 HT.out.tk.fit
          have hfe:=HT.out.tk.all
          rw[show (freeL (mapL t0 j) (j.p.n-51):Int)=4045 by have h9:=HT.out.n;rw[h9] at hfe ⊢;simp only[List.length_nil] at hfe;omega] at HFe
          have HB1:=mkHid (HB.out.trans hk1.b)
          clear HOp hS1 hk1 hfe HT HB
          go_wp2_with fail
          refine HFe.mono ?_
          rintro e y2 ⟨rfl,-,hk2⟩
          have HB2:=mkHid (HB1.out.trans hk2.b)
          clear HFe hk2 HB1
          go_wp2_with fail
          refine(HAl y2).mono ?_
          rintro e y3 ⟨rfl,hb3⟩
          have HB3:=mkHid (HB2.out.trans (hb3.mono HB2.out.size))
          clear hb3 HB2
          go_wp2_with fail
          go_ret
          exact⟨rfl,HB3.out⟩
end
end Go.Proofs.YtpecobmfabmpkaaGreatDoor
