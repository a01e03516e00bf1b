/- PtT PtU PtV PtW PtX PtY -/
import Derived.Test.YtpecobmfabmpkaaGreatDoorM14
import Derived.Lib.SliceRun
import Derived.Recover
set_option maxRecDepth 20000
set_option maxHeartbeats 4000000
namespace Go.Proofs.YtpecobmfabmpkaaGreatDoor
section
open Go.RowKit
theorem codClone13 (a:Option Addr)(n c:Nat)(l:List UInt8)(w:World)(h:IsB w a n c l)(hn:n≤1000000):
  Calls Tryz.prog 75 #[.slice a n c] w fun e w'=>(∃v,e=.returned v∧OwnB w' w.heap.size v l)∧Below w.heap.size w w':=by
 cases a with
 | none =>
  have h0:=h.nil rfl
  have h1:=h.le
  have h2:=h.len_eq
  have hl:l=[]:=List.eq_nil_of_length_eq_zero (by omega)
  have hn0:n=0:=by omega
  subst hl hn0 h0
  clear h h1 h2
  have hE:∀W,(binOp .eql 33 (.slice none 0 0) (.slice none 0 0)).run Tryz.prog W=.ok (.bool true) W:=fun W=>Lib.run_eql_slice_nil (P:=Tryz.prog) W 33 5 none 0 0 0 0 Tryz.underlying33
  go_enter Tryz.func75,Tryz.ntmps75
  go_wp2_with fail
  go_ret
  exact⟨⟨_,rfl,OwnB.nil _ _⟩,Below.refl _ _⟩
 | some ad =>
  have hY:Below w.heap.size w (w.alloc (.cells #[] 5)):=(Below.refl _ w).alloc (Nat.le_refl _) _
  have HO:Hid (OwnB (w.alloc (.cells #[] 5)) w.heap.size (.slice (some ⟨w.heap.size,0,none⟩) 0 0) []):=OwnB.empty w w.heap.size (Nat.le_refl _)
  have HI:=mkHid (h.below hY rfl)
  have HY:=mkHid hY
  have hl:=h.len_eq
  clear h hY
  have hE:∀W,(binOp .eql 33 (.slice (some ad) n c) (.slice none 0 0)).run Tryz.prog W=.ok (.bool false) W:=fun W=>Lib.run_eql_slice_nil (P:=Tryz.prog) W 33 5 (some ad) n c 0 0 Tryz.underlying33
  go_enter Tryz.func75,Tryz.ntmps75
  go_wp2_with (at_builtin;refine list_appS _ rfl (.tmp 5) (.tmp 6) rfl w.heap.size _ [] rfl HO.out (some ad) n c l rfl HI.out (by simp only[List.length_nil];omega) HY.out.size ?_;intro v2 V2 ho2 hg2;rw[List.nil_append] at ho2;have HD2:=mkHid (HY.out.grown hg2 HY.out.size (fun j hj=>(World.ownsRow.lt HO.out j hj).1)))
  go_ret
  exact⟨⟨_,rfl,ho2⟩,HD2.out⟩
theorem node_kids {t:Tl}{j:Jl}{m:Nat}{s:Nat}{ps:Ps}(h:NdAt t j s ps)(hk:Tk t j m ((s:Int):: secsP ps)):KidL t j (ps.map (·.1)) (fun i=>(ps.getD i (0,[])).2):=fun i x hx=>by
 rw[List.getElem?_map] at hx
 obtain⟨p,hp,rfl⟩:=Option.map_eq_some_iff.1 hx
 have hpm:=List.mem_of_getElem? hp
 have hl:=h.lf p hpm
 have hr:=hk.rng (p.1:Int) (List.mem_cons_of_mem _ (List.mem_map.2 ⟨p,hpm,rfl⟩))
 have hg:(ps.getD i (0,[])).2=p.2:=by rw[List.getD_eq_getElem?_getD,hp];rfl
 show _∧_∧pgOf _=some ⟨0,(ps.getD i (0,[])).2,[]⟩∧(ps.getD i (0,[])).2≠[]
 rw[hg]
 exact⟨by omega,by omega,by rw[hl.rd];exact pg_leaf hl.ok,hl.ok.ne⟩
theorem node_cut {t:Tl}{j:Jl}{s:Nat}{ps:Ps}{key:List UInt8}(h:NdAt t j s ps)(hs:SrtE (entsP ps)){i:Nat}(hi:i<ps.length)(h1:0<i→Op.bytesLess key (fstK (ps.getD i (0,[])).2)=false)(h2:i+1<ps.length→Op.bytesLess key (fstK (ps.getD (i+1) (0,[])).2)=true):
  ∃A p B,ps=A++p::B∧A.length=i∧ps.getD i (0,[])=p∧p∈ps∧AllLt (entsP A) key∧AllGt (entsP B) key:=by
 have hp:ps.getD i (0,[])=ps[i]:=by simp[hi]
 have e:ps=ps.take i++ps[i]::ps.drop (i+1):=by rw[List.getElem_cons_drop,List.take_append_drop]
 refine⟨ps.take i,ps[i],ps.drop (i+1),e,by rw[List.length_take];omega,hp,List.getElem_mem hi,?_⟩
 rw[e] at hs
 refine kid_cut hs (h.lf _ (List.getElem_mem hi)).ok.ne (fun hA=>?_) (fun q B' hq=>?_)
 ·rw[←hp]
  refine h1 ?_
  rcases Nat.eq_zero_or_pos i with h0|h0
  ·exact absurd (by rw[h0,List.take_zero]) hA
  ·exact h0
 ·have hl:i+1<ps.length:=by
   have:(ps.drop (i+1)).length=B'.length+1:=by rw[hq];rfl
   rw[List.length_drop] at this
   omega
  have hq2:ps.getD (i+1) (0,[])=q:=by
   have h3:(ps.drop (i+1))[0]?=some q:=by rw[hq];rfl
   rw[List.getElem?_drop,Nat.add_zero] at h3
   rw[List.getD_eq_getElem?_getD,h3];rfl
  have hqm:q∈ps:=List.mem_of_mem_drop (by rw[hq];exact List.mem_cons_self)
  exact⟨(h.lf q hqm).ok.ne,by rw[←hq2];exact h2 hl⟩
inductive GtAt (t:Tl) (j:Jl) (m:Nat) (w wr:World) (Bp:Nat) (l:List Et) (key:List UInt8):Nat→Prop
 | leaf (at_:Int) (l':List Et) (ve vk:Value) (L:List Eq3) (hB:Blk wr Bp 133 [.int .i64 at_,.int .i64 0,ve,vk]) (hp:PgR 0 wr ⟨0,l',[]⟩ ve vk L) (hl:LfOk l') (hg:getE13 l key=getE13 l' key) (hh:hasE13 l key=hasE13 l' key):GtAt t j m w wr Bp l key 0
 | node (s:Nat) (ps:Ps) (ve vk:Value) (hB:Blk wr Bp 133 [.int .i64 (s:Int),.int .i64 1,ve,vk]) (hz:RdZ wr vk (ps.map (·.1))) (hve:∃a n c,ve=.slice a n c) (hn:NdAt t j s ps) (hl:l=entsP ps) (hk:Tk t j m ((s:Int):: secsP ps)):GtAt t j m w wr Bp l key 1
theorem store_pg {w:World}{B:Nat}{c0 c1 c2 c3 d0 d1 d2 d3:Value}(h:Blk w B 133 [c0,c1,c2,c3]):Blk ((((w.setCell ⟨B,0,none⟩ d0).setCell ⟨B,1,none⟩ d1).setCell ⟨B,2,none⟩ d2).setCell ⟨B,3,none⟩ d3) B 133 [d0,d1,d2,d3]:=(((h.set 0 d0).set 1 d1).set 2 d2).set 3 d3
theorem pgGet (w:World)(S J P base m:Nat)(t:Tl)(j:Jl)(root:Nat)(l:List Et)(SS:List Int)(ka:Option Addr)(kn kc:Nat)(key:List UInt8)(h:SpAx w S J P base t j)(hk:Tk t j m SS)(ht:TR t j root l SS)(hkey:IsB w ka kn kc key):
  Calls Tryz.prog 49 #[gT S,.int .i64 (root:Int),.slice ka kn kc] w fun e w'=>(∃v,e=.returned (.tuple #[v,.bool (hasE13 l key)])∧IsV w' v (getE13 l key))∧Below w.heap.size w w':=by
 have hf:=hk.fit
 rcases ht.2 with⟨rfl,rfl,rfl⟩|hcase
 ·unfold gT
  go_enter Tryz.func49,Tryz.ntmps49
  go_wp2_with fail
  go_ret2
  exact⟨⟨_,rfl,IsV.nil _⟩,(Below.refl _ w).alloc (Nat.le_refl _) _⟩
 ·have hroot:51≤root∧root<j.p.n:=by
   have:(root:Int)∈SS:=by
    rcases hcase with⟨h1,_⟩|⟨ps,_,_,h1⟩
    ·rw[h1];exact List.mem_cons_self
    ·rw[h1];exact List.mem_cons_self
   have:=hk.rng _ this
   omega
  have hn2:=hf.few.n
  obtain⟨pp,hpp,hfirst⟩:∃pp:Pg,pgOf (spRdB t j (root:Int))=some pp∧((pp=⟨0,l,[]⟩∧LfOk l)∨∃ps,pp=⟨1,[],ps.map (·.1)⟩∧NdAt t j root ps∧l=entsP ps∧SS=(root:Int):: secsP ps):=by
   rcases hcase with⟨_,h2⟩|⟨ps,h1,h2,h3⟩
   ·exact⟨_,by rw[h2.rd];exact pg_leaf h2.ok,.inl ⟨rfl,h2.ok⟩⟩
   ·refine⟨⟨1,[],ps.map (·.1)⟩,?_,.inr ⟨ps,rfl,h1,h2,h3⟩⟩
    rw[h1.rd]
    refine pg_node (by rw[List.length_map];exact h1.n) (by rw[List.length_map];exact h1.n2) (fun i hi=>?_)
    obtain⟨p,hp,rfl⟩:=List.mem_map.1 hi
    have:=hk.rng (p.1:Int) (by rw[h3];exact List.mem_cons_of_mem _ (List.mem_map.2 ⟨p,hp,rfl⟩))
    omega
  have hY:Below w.heap.size w (w.alloc (.cells #[.pointer (some ⟨S,0,none⟩)] 87)):=(Below.refl _ w).alloc (Nat.le_refl _) _
  have kG:=Blk.new w 87 [.pointer (some ⟨S,0,none⟩)]
  have HRd:=pgRead _ S J P base m t j root pp (SpAx.keep h (KeepT.of_below hY)) hf hroot.1 hroot.2 hpp
  unfold gT at *
  have c0:=kG.cell 0
  simp only[List.getElem?_cons_zero] at c0
  have hr0:¬(root:Int)=0:=by omega
  have HKG:=mkHid kG
  have HY:=mkHid hY
  have HSx:Hid (∀W,Below w.heap.size w W→SpAx W S J P base t j):=fun W hW=>SpAx.keep h (KeepT.of_below hW)
  have HKy:Hid (∀W,Below w.heap.size w W→IsB W ka kn kc key):=fun W hW=>hkey.below hW rfl
  have HTk:=mkHid hk
  have HTs:=mkHid ht.1
  have HFst:=mkHid hfirst
  clear h hk ht hkey hcase hfirst kG hY
  go_enter Tryz.func49,Tryz.ntmps49
  go_wp2_with fail
  refine HRd.mono ?_
  rintro e y1 ⟨⟨v1,ve1,vk1,L1,rfl,hp1⟩,hb1⟩
  have hv1:=hp1.v
  obtain⟨ea1,ec1,he1,_⟩:=hp1.e.form
  obtain⟨ka1,kc1,hk1,_⟩:=hp1.k.isZ
  rw[List.length_map] at hk1
  subst he1 hk1 hv1
  unfold pgc
  have hB1:=HY.out.trans (hb1.mono HY.out.size)
  have hAl:=(Below.refl _ y1).alloc (Nat.le_refl _) (.cells #[.int .i64 (root:Int),.int .i64 (pp.lv:Int),.slice ea1 L1.length ec1,.slice ka1 pp.ks.length kc1] 133)
  have HB2:=mkHid (hB1.trans (hAl.mono hB1.size))
  have HKG2:=mkHid ((HKG.out.on hb1).on hAl)
  have hsz:w.heap.size+1≤y1.heap.size:=Nat.le_trans HKG.out.lt hb1.size
  have HG0:Hid (∃q,q≤1∧GtAt t j m w (y1.alloc (.cells #[.int .i64 (root:Int),.int .i64 (pp.lv:Int),.slice ea1 L1.length ec1,.slice ka1 pp.ks.length kc1] 133)) y1.heap.size l key q):=by
   have hnb:=Blk.new y1 133 [.int .i64 (root:Int),.int .i64 (pp.lv:Int),.slice ea1 L1.length ec1,.slice ka1 pp.ks.length kc1]
   have hpr:=(hp1.below hAl).r
   rcases HFst.out with⟨e,hl⟩|⟨ps,e,hn,hl,hSS⟩
   ·subst e
    exact⟨0,by omega,.leaf _ l _ _ L1 hnb hpr hl rfl rfl⟩
   ·subst e
    exact⟨1,by omega,.node root ps _ _ hnb hpr.k ⟨_,_,_,rfl⟩ hn hl (hSS▸HTk.out)⟩
  clear HRd hp1 hAl hB1 hb1 HY HKG c0
  go_wp2_with fail
  generalize y1.alloc (.cells #[.int .i64 (root:Int),.int .i64 (pp.lv:Int),.slice ea1 L1.length ec1,.slice ka1 pp.ks.length kc1] 133)=Z at *
  generalize y1.heap.size=Bp at *
  go_loopg [17] 1 (fun kx _ wr=>Hid (Below w.heap.size w wr)∧Hid (Blk wr w.heap.size 87 [.pointer (some ⟨S,0,none⟩)])∧Hid (∃q,q≤kx∧GtAt t j m w wr Bp l key q))
  case atStart=>exact⟨HB2,HKG2,HG0⟩
  case round =>
   clear HB2 HKG2 HG0
   obtain⟨HB,HKG,HG⟩:=hrel
   obtain⟨q,hq,hG⟩:=HG.out
   cases hG with
   | leaf at2 l' ve2 vk2 L2 hB2 hp2 hl2 hg2 hh2 =>
    obtain⟨ea2,ec2,ka2,kc2,he2,hk2⟩:=hp2.forms
    subst he2 hk2
    change PgR 0 wr ⟨0,l',[]⟩ (.slice ea2 l'.length ec2) (.slice ka2 0 kc2) L2 at hp2
    change Blk wr Bp 133 [.int .i64 at2,.int .i64 0,.slice ea2 l'.length ec2,.slice ka2 0 kc2] at hB2
    have HPR:=mkHid hp2
    have HBk:=mkHid hB2
    have b0:=hB2.cell 0
    have b1:=hB2.cell 1
    have b2:=hB2.cell 2
    have b3:=hB2.cell 3
    simp only[gZ0,gZ1] at b0 b1 b2 b3
    have hes:L2.map Prod.fst=l':=hp2.es
    have HF:=codFind13 at2 0 (.slice ea2 l'.length ec2) (.slice ka2 0 kc2) L2 ka kn kc key wr hp2.e (by rw[hes];exact hl2.srt) (HKy.out wr HB.out) (by rw[←List.length_map (f:=Prod.fst),hes];have:=hl2.len;omega)
    rw[hes,←hh2] at HF
    unfold pgc at HF
    simp only[Int.natCast_zero] at HF
    have HGe:=mkHid hg2
    have HHe:=mkHid hh2
    have HEs:=mkHid hes
    have hlen:L2.length=l'.length:=by rw[←hes,List.length_map]
    have HLf:=mkHid hl2
    clear hp2 hB2 HG hg2 hh2 hl2 hes
    cases hhas:hasE13 l key with
    | false =>
     rw[hhas] at HF
     have HGn:Hid (getE13 l key=[]):=by
      unfold Hid
      unfold getE13
      unfold hasE13 at hhas
      rw[hhas]
      rfl
     go_wp2_with fail
     refine HF.mono ?_
     rintro e y3 ⟨rfl,hb3⟩
     go_wp2_with fail
     go_ret2
     exact⟨⟨_,by rw[hhas];rfl,by rw[HGn.out];exact IsV.nil _⟩,HB.out.trans (hb3.mono HB.out.size)⟩
    | true =>
     rw[hhas] at HF
     have hh2:hasE13 l' key=true:=by rw[←HHe.out];exact hhas
     have hat:atE l' key<l'.length:=by
      unfold hasE13 isE at hh2
      rw[Bool.and_eq_true,decide_eq_true_eq] at hh2
      exact hh2.1
     have HGv:Hid (getE13 l key=(l'.getD (atE l' key) et0).v):=by
      unfold Hid
      rw[HGe.out]
      unfold getE13
      unfold hasE13 at hh2
      rw[if_pos hh2]
     obtain⟨x,hx⟩:∃x,L2[atE l' key]?=some x:=⟨_,List.getElem?_eq_getElem (by omega)⟩
     have hxe:l'.getD (atE l' key) et0=x.1:=by have:=getD_map L2 (atE l' key) x hx;rw[HEs.out] at this;exact this
     rw[hxe] at HGv
     have HPy:Hid (∀W,Below wr.heap.size wr W→RdN 0 W (.slice ea2 l'.length ec2) L2):=fun W hW=>HPR.out.e.keep (KeepU.of_below hW)
     have hvl:x.1.v.length≤1000000:=by
      have:=item_facts (HLf.out.ok x.1 (by rw[←HEs.out];exact List.mem_map.2 ⟨x,List.mem_of_getElem? hx,rfl⟩))
      omega
     generalize atE l' key=ai at *
     generalize l'.length=n' at *
     have hai:(ai:Int)<(n':Int):=by omega
     have hai0:(0:Int)≤(ai:Int):=by omega
     go_wp2_with fail
     refine HF.mono ?_
     rintro e y3 ⟨rfl,hb3⟩
     obtain⟨-,-,g,off,hae,d0,d1,hIE⟩:=(HPy.out y3 hb3).at_ ai x hx
     subst hae
     have p2:y3.cell? ⟨Bp,2,none⟩=some (.slice (some ⟨g,off,none⟩) n' ec2):=(HBk.out.on hb3).cell 2
     have HCl:=codClone13 x.2.b x.1.v.length x.2.d x.1.v y3 hIE.v hvl
     have HB3:=mkHid (HB.out.trans (hb3.mono HB.out.size))
     clear HF hb3 b0 b1 b2 b3 hIE
     generalize x.1.v=xv at *
     go_wp2_with fail
     refine HCl.mono ?_
     rintro e y4 ⟨⟨v4,rfl,ho4⟩,hb4⟩
     obtain⟨va4,vc4,hv4,hi4⟩:=ho4.isB
     subst hv4
     go_wp2_with fail
     go_ret2
     exact⟨⟨_,by rw[hhas];rfl,by rw[HGv.out];exact⟨va4,vc4,rfl,hi4⟩⟩,HB3.out.trans (hb4.mono HB3.out.size)⟩
   | node s2 ps ve2 vk2 hB2 hz2 hve2 hn2 hl2 hk2 =>
    obtain⟨ea2,en2,ec2,he2⟩:=hve2
    have hzz:=hz2
    obtain⟨za,zc,hzv,_⟩:=hz2
    subst he2 hzv
    have hps:ps.length≤254:=hn2.n2
    have hps2:2≤ps.length:=hn2.n
    have HKl:=mkHid (node_kids hn2 hk2)
    have HNd:=mkHid hn2
    have HLp:=mkHid hl2
    have b1:wr.cell? ⟨Bp,1,none⟩=some (.int .i64 1):=hB2.cell 1
    have HBp:=mkHid hB2
    have HZp:=mkHid hzz
    have HD:Below wr.heap.size wr wr.drew:=Below.drew (Below.refl _ wr)
    have HFd:=pgFind wr.drew S J P base m t j (s2:Int) (.slice ea2 en2 ec2) (.slice za (ps.map (·.1)).length zc) (ps.map (·.1)) _ ka kn kc key (HSx.out _ (HB.out.trans (HD.mono HB.out.size))) hf (hzz.keep (KeepO.of_below HD)) ⟨_,_,_,rfl⟩ (HKy.out _ (HB.out.trans (HD.mono HB.out.size))) HKl.out (by rw[List.length_map];omega) (by rw[List.length_map];omega)
    have HDd:=mkHid HD
    unfold gT pgc at HFd
    simp only[Int.natCast_one] at HFd
    obtain⟨nz,hnz⟩:∃nz,(ps.map (·.1)).length=nz:=⟨_,rfl⟩
    rw[hnz] at HFd HBp HZp
    have HNz:=mkHid hnz
    have HCt:Hid (∀W,Below wr.heap.size wr W→W.cell? ⟨w.heap.size,0,none⟩=some (.pointer (some ⟨S,0,none⟩))∧W.cell? ⟨Bp,0,none⟩=some (.int .i64 (s2:Int))∧W.cell? ⟨Bp,1,none⟩=some (.int .i64 1)∧W.cell? ⟨Bp,2,none⟩=some (.slice ea2 en2 ec2)∧W.cell? ⟨Bp,3,none⟩=some (.slice za nz zc)):=fun W hW=>⟨(HKG.out.on hW).cell 0,(HBp.out.on hW).cell 0,(HBp.out.on hW).cell 1,(HBp.out.on hW).cell 2,(HBp.out.on hW).cell 3⟩
    clear hB2 hzz hn2 hl2 hk2 HG hnz HD
    go_wp2_with fail
    refine lk0 (fun W=>W.cell? ⟨w.heap.size,0,none⟩=some (.pointer (some ⟨S,0,none⟩))∧W.cell? ⟨Bp,0,none⟩=some (.int .i64 (s2:Int))∧W.cell? ⟨Bp,1,none⟩=some (.int .i64 1)∧W.cell? ⟨Bp,2,none⟩=some (.slice ea2 en2 ec2)∧W.cell? ⟨Bp,3,none⟩=some (.slice za nz zc)) 7 (HCt.out _ HDd.out) (fun hHeld=>?_)
    generalize wr.drew=Y1 at *
    refine lkT 19 0 (.agg #[.pointer (some ⟨S,0,none⟩)]) rfl (Or.inl ⟨by rfl,?_⟩) hHeld ?_
    ·intro w hSw;obtain⟨s0,s1,s2,s3,s4⟩:=hSw;go_simp
    (try simp only[Act.put,sIx,sZ0,sZ1])
    refine lkT 20 1 (.agg #[.int .i64 (s2:Int),.int .i64 1,.slice ea2 en2 ec2,.slice za nz zc]) rfl (Or.inl ⟨by rfl,?_⟩) hHeld ?_
    ·intro w hSw;obtain⟨s0,s1,s2,s3,s4⟩:=hSw;go_simp
    (try simp only[Act.put,sIx,sZ0,sZ1])
    refine lkT 21 2 (.agg #[.pointer (some ⟨S,0,none⟩)]) rfl (Or.inl ⟨by rfl,?_⟩) hHeld ?_
    ·intro w hSw;obtain⟨s0,s1,s2,s3,s4⟩:=hSw;go_simp
    (try simp only[Act.put,sIx,sZ0,sZ1])
    refine lkT 22 3 (.agg #[.int .i64 (s2:Int),.int .i64 1,.slice ea2 en2 ec2,.slice za nz zc]) rfl (Or.inl ⟨by rfl,?_⟩) hHeld ?_
    ·intro w hSw;obtain⟨s0,s1,s2,s3,s4⟩:=hSw;go_simp
    (try simp only[Act.put,sIx,sZ0,sZ1])
    refine lkT 23 4 ?_ rfl (Or.inl ⟨by rfl,?_⟩) hHeld ?_
    rotate_left
    ·intro w hSw;obtain⟨s0,s1,s2,s3,s4⟩:=hSw;go_simp;with_reducible rfl
    (try simp only[Act.put,sIx,sZ0,sZ1])
    refine lk1 5 rfl (fun K hK=>?_)
    go_simp
    go_wp2_with (go_at_call 73;refine HFd.mono ?_;rintro e y2 ⟨⟨i,rfl,hi,hlo,hhi⟩,hb2⟩)
    have hb2':=HDd.out.trans (hb2.mono HDd.out.size)
    have HB2:=mkHid hb2'
    refine hK.out _ _ (HCt.out _ hb2') (fun hHeld=>?_)
    (try simp only[Act.put,sIx,sZ0,sZ1])
    clear hK K HFd
    have hi2:i<ps.length:=by rw[←List.length_map (f:=fun p:Nat × List Et=>p.1),HNz.out];exact hi
    obtain⟨A,p,B,hpe,hAl,hpi,hpm,hlt,hgt⟩:=node_cut (key:=key) HNd.out (HLp.out▸HTs.out) hi2 hlo (fun h=>hhi (by rw[←HNz.out,List.length_map];exact h))
    have hks:(ps.map (·.1))[i]?=some p.1:=by
     rw[List.getElem?_map,List.getElem?_eq_getElem hi2]
     have:ps.getD i (0,[])=ps[i]:=by simp[hi2]
     rw[←this,hpi];rfl
    obtain⟨q51,qn,qpg,_⟩:=HKl.out i p.1 hks
    change pgOf (spRdB t j (p.1:Int))=some ⟨0,(ps.getD i (0,[])).2,[]⟩ at qpg
    rw[hpi] at qpg
    have HKd:=pgKid y2 S J P base m t j (s2:Int) 1 (.slice ea2 en2 ec2) (.slice za nz zc) (ps.map (·.1)) i p.1 ⟨0,p.2,[]⟩ (HSx.out _ (HB.out.trans (hb2'.mono HB.out.size))) hf (HZp.out.keep (KeepO.of_below hb2')) hks q51 qn qpg rfl (by omega)
    unfold gT pgc at HKd
    simp only[Int.natCast_one] at HKd
    have HEq:Hid (getE13 l key=getE13 p.2 key∧hasE13 l key=hasE13 p.2 key∧LfOk p.2):=by
     have e1:l=entsP A++(p.2++entsP B):=by rw[HLp.out,hpe,entsP_append,entsP]
     rw[e1]
     exact⟨mid_get hlt hgt,mid_has hlt hgt,(HNd.out.lf p hpm).ok⟩
    clear hlo hhi hpe hpm hlt hgt hks qpg hb2 hb2' hpi
    refine lk1 6 rfl (fun K hK=>?_)
    go_simp
    go_wp2_with (go_at_call 72;refine HKd.mono ?_;rintro e y3 ⟨⟨v3,ve3,vk3,L3,rfl,hp3⟩,hb3⟩)
    have hb3':=HB2.out.trans (hb3.mono HB2.out.size)
    have HB3:=mkHid hb3'
    refine hK.out _ _ (HCt.out _ hb3') (fun hHeld=>?_)
    (try simp only[Act.put,sIx,sZ0,sZ1])
    clear hK K HKd
    obtain⟨ea3,ec3,he3,_⟩:=hp3.e.form
    obtain⟨ka3,kc3,hk3,_⟩:=hp3.k.isZ
    have hv3:=hp3.v
    subst he3 hk3 hv3
    have HP3:=mkHid hp3
    have a:=HBp.out.on hb3'
    have a0:=a.cell 0
    have a1:=a.cell 1
    have a2:=a.cell 2
    have a3:=a.cell 3
    simp only[gZ0,gZ1] at a0 a1 a2 a3
    have f0:=a.frozen 0
    have f1:=a.frozen 1
    have f2:=a.frozen 2
    have f3:=a.frozen 3
    have HAb:=mkHid a
    clear hp3 hb3 hb3' a
    unfold pgc
    simp only[List.length_map,Int.natCast_zero]
    refine lkZ rfl (fun K hK=>?_)
    go_simp
    refine hK.out _ _ (NoPanic.normal ?_)
    (try simp only[Act.put,sIx,sZ0,sZ1])
    clear hK K hHeld a0 a1 a2 a3 f0 f1 f2 f3
    have hg3:=grown4 y3 Bp (.int .i64 (p.1:Int)) (.int .i64 0) (.slice ea3 L3.length ec3) (.slice ka3 0 kc3)
    have hB9:Below w.heap.size w ((((y3.setCell ⟨Bp,0,none⟩ (.int .i64 (p.1:Int))).setCell ⟨Bp,1,none⟩ (.int .i64 0)).setCell ⟨Bp,2,none⟩ (.slice ea3 L3.length ec3)).setCell ⟨Bp,3,none⟩ (.slice ka3 0 kc3)):=by
     have h1:=HB.out.trans (HB3.out.mono HB.out.size)
     exact h1.grown hg3 h1.size (fun k e=>by have:=Option.some.inj e;omega)
    have hK9:Blk ((((y3.setCell ⟨Bp,0,none⟩ (.int .i64 (p.1:Int))).setCell ⟨Bp,1,none⟩ (.int .i64 0)).setCell ⟨Bp,2,none⟩ (.slice ea3 L3.length ec3)).setCell ⟨Bp,3,none⟩ (.slice ka3 0 kc3)) w.heap.size 87 [.pointer (some ⟨S,0,none⟩)]:=(hg3.block w.heap.size (HKG.out.on HB3.out).lt (fun e=>by have:=Option.some.inj e;omega)).trans (HKG.out.on HB3.out)
    have hG9:GtAt t j m w ((((y3.setCell ⟨Bp,0,none⟩ (.int .i64 (p.1:Int))).setCell ⟨Bp,1,none⟩ (.int .i64 0)).setCell ⟨Bp,2,none⟩ (.slice ea3 L3.length ec3)).setCell ⟨Bp,3,none⟩ (.slice ka3 0 kc3)) Bp l key 0 :=
     .leaf _ p.2 _ _ L3 (store_pg HAb.out) ((HP3.out.keep (KeepO.grown1 HAb.out (by decide) hg3)).r) HEq.out.2.2 HEq.out.1 HEq.out.2.1
    have HB9:=mkHid hB9
    have HK9:=mkHid hK9
    have HG9:Hid (∃q,q≤0∧GtAt t j m w ((((y3.setCell ⟨Bp,0,none⟩ (.int .i64 (p.1:Int))).setCell ⟨Bp,1,none⟩ (.int .i64 0)).setCell ⟨Bp,2,none⟩ (.slice ea3 L3.length ec3)).setCell ⟨Bp,3,none⟩ (.slice ka3 0 kc3)) Bp l key q):=⟨0,Nat.le_refl _,hG9⟩
    clear hB9 hK9 hG9 hg3
    generalize (((y3.setCell ⟨Bp,0,none⟩ (.int .i64 (p.1:Int))).setCell ⟨Bp,1,none⟩ (.int .i64 0)).setCell ⟨Bp,2,none⟩ (.slice ea3 L3.length ec3)).setCell ⟨Bp,3,none⟩ (.slice ka3 0 kc3)=Z9 at *
    go_wp2_with fail
    go_roundg 0
    case measure=>omega
    case rel=>exact⟨HB9,HK9,HG9⟩
theorem idle13 (E:Nat)(w:World):
  CallsD Tryz.prog 64 #[.pointer (some ⟨E,0,none⟩)] .returning w fun e u' w'=>e=.returned (.tuple #[])∧u'=.returning∧w'=w:=by
 refine callsD_of_wpS Tryz.func64 rfl fun c₀ cs hu=>?_
 apply wpS_seq
 apply wpS_region
 simp[wpOpsS,go_sem,recoverD,hu,Tryz.ntmps64,Exit.thenS]
 apply wpS_seq
 apply wpS_region
 simp[wpOpsS,go_sem,Exit.thenS]
 refine wpS_cond (t:=false) (by simp[Act.eval,Array.replicate]) ?_
 simp only[Bool.false_eq_true,if_false]
 refine wpS_of_wp (wp_skip ?_)
 cases c₀
 simp_all [bodyPostS,results,Tryz.results64]
theorem load_er13 (w:World)(g:Nat)(v:Value)(h:Blk w g 30 [v]):(loadVar 30 ⟨g,0,none⟩).run Tryz.prog w=.ok v w:=by
 have hc:w.cell? ⟨g,0,none⟩=some v:=h.cell 0
 simp[loadVar,go_sem,hc]
theorem guardRet (tmps:Array Value)(k:Value)(w1:World)(N:Nat)(R:Ending→World→Prop)
  (h2:tmps.getD 2 undef=.pointer (some ⟨N,0,none⟩)) (KE:Blk w1 N 30 [k]) (hR:R (.returned k) w1):
  bodyPostD Tryz.prog Tryz.f41 R .ret { tmps:=tmps,defers:=[{ target:=.fn (.func 64) #[.pointer (some ⟨N,0,none⟩)],args:=#[] }] } w1:=by
 refine leaves_cons (f:=64) (args:=#[.pointer (some ⟨N,0,none⟩)]) (by simp) (by simp[go_sem]) ?_
 refine(idle13 N w1).mono ?_
 rintro e u' w'' ⟨rfl,rfl,rfl⟩
 exact⟨_,results_cell1 (P:=Tryz.prog) rfl tmps w'' N _ h2 (load_er13 w'' N _ KE),hR⟩
theorem guardYes (f:Nat)(cap:Array Value)(w:World)(R:World→Prop)(hB:∀W,R W→Blk W w.heap.size 30 [.int .i64 0])(hf:∀args w,(callFunc f args).run Tryz.prog w=.ok (.enter f args) w)
  (hdo:Calls Tryz.prog f cap (w.alloc (.cells #[.int .i64 0] 30)) fun e w'=>e=.returned (.tuple #[])∧R w'):
  Calls Tryz.prog 41 #[.func (.func f) #[] cap] w fun e w'=>∃w1,R w1∧e=.returned (.int .i64 0)∧w'=w1.setCell ⟨w.heap.size,0,none⟩ (.int .i64 0):=by
 have hmf:=mkF0
 go_enter_defers Tryz.func41,Tryz.ntmps41
 go_wp2_with (go_at_fn f;refine hdo.mono ?_;rintro x w1 ⟨rfl,hR⟩;have KE:=hB w1 hR;have q1:w1.cell? ⟨w.heap.size,0,none⟩=some (.int .i64 0):=KE.cell 0;have f1:=KE.frozen 0)
 exact guardRet _ _ _ w.heap.size _ rfl (KE.set 0 _) ⟨w1,hR,rfl,rfl⟩
theorem load_sl13 (w:World)(g:Nat)(v:Value)(h:Blk w g 33 [v]):(loadVar 33 ⟨g,0,none⟩).run Tryz.prog w=.ok v w:=by
 have hc:w.cell? ⟨g,0,none⟩=some v:=h.cell 0
 simp[loadVar,go_sem,hc]
theorem load_bo13 (w:World)(g:Nat)(v:Value)(h:Blk w g 4 [v]):(loadVar 4 ⟨g,0,none⟩).run Tryz.prog w=.ok v w:=by
 have hc:w.cell? ⟨g,0,none⟩=some v:=h.cell 0
 simp[loadVar,go_sem,hc]
theorem results_cct {P:Program}{fn:Func}{p u q:Tmp}{ty tu:TypeId}(h:fn.results=#[.cell p ty,.cell u tu,.tmp q])(tmps:Array Value)(w:World)(g g2:Nat)(x v:Value)
  (hp:tmps.getD p undef=.pointer (some ⟨g,0,none⟩)) (hl:(loadVar ty ⟨g,0,none⟩).run P w=.ok x w)
  (hp2:tmps.getD u undef=.pointer (some ⟨g2,0,none⟩)) (hl2:(loadVar tu ⟨g2,0,none⟩).run P w=.ok v w):
  (results fn tmps).run P w=.ok (.tuple #[x,v,tmps.getD q undef]) w:=by
 have q1:tmps[p]?.getD undef=.pointer (some ⟨g,0,none⟩):=by simpa using hp
 have q2:tmps[u]?.getD undef=.pointer (some ⟨g2,0,none⟩):=by simpa using hp2
 simp only[results,h]
 simp[Sem.run_bind,Result.andThen,q1,q2,asAddr,hl,hl2]
theorem isB_ne13 {w:World}{a:Option Addr}{len cap:Nat}{l:List UInt8}{B t:Nat}{v:Value}(h:IsB w a len cap l)(hb:Blk w B t [v])(hv:∀n:Int,v≠.int .u8 n):0<len→∀x,a=some x→x.block≠B:=fun hp x hx e=>by
 obtain⟨b,off,e1,hc⟩:=h.cells hp
 have h0:=hc 0 hp
 rw[hx] at e1
 have e2:=Option.some.inj e1
 subst e2
 change b=B at e
 subst e
 rw[Nat.add_zero,cell_of_row w b off _ _ _ hb] at h0
 cases off with
 | zero=>exact hv _ (Option.some.inj h0)
 | succ n=>simp at h0
structure GvAt (W:World)(N S:Nat)(root:Int)(kv:Value)(v h:Value):Prop where
 t:Blk W N 26 [.pointer (some ⟨S,0,none⟩)]
 r:Blk W (N+1) 3 [.int .i64 root]
 k:Blk W (N+2) 33 [kv]
 v:Blk W (N+3) 33 [v]
 h:Blk W (N+4) 4 [h]
theorem GvAt.on {W W':World}{N S:Nat}{root:Int}{kv v h:Value}(g:GvAt W N S root kv v h)(hb:Below W.heap.size W W'):GvAt W' N S root kv v h:=⟨g.t.on hb,g.r.on hb,g.k.on hb,g.v.on hb,g.h.on hb⟩
theorem codGet1 (w:World)(S J P base m N:Nat)(t:Tl)(j:Jl)(root:Nat)(l:List Et)(SS:List Int)(ka:Option Addr)(kn kc:Nat)(key:List UInt8)(h:SpAx w S J P base t j)(hk:Tk t j m SS)(ht:TR t j root l SS)(hkey:IsB w ka kn kc key)(hg:GvAt w N S (root:Int) (.slice ka kn kc) (.slice none 0 0) (.bool false))(hE:Blk w (N+5) 30 [.int .i64 0]):
  Calls Tryz.prog 48 #[.pointer (some ⟨N,0,none⟩),.pointer (some ⟨N+1,0,none⟩),.pointer (some ⟨N+2,0,none⟩),.pointer (some ⟨N+3,0,none⟩),.pointer (some ⟨N+4,0,none⟩)] w fun e w'=>e=.returned (.tuple #[])∧∃v,GvAt w' N S (root:Int) (.slice ka kn kc) v (.bool (hasE13 l key))∧IsV w' v (getE13 l key)∧Blk w' (N+5) 30 [.int .i64 0]∧Below N w w':=by
 have HG:=pgGet w S J P base m t j root l SS ka kn kc key h hk ht hkey
 unfold gT at HG
 have c0:w.cell? ⟨N,0,none⟩=some (.pointer (some ⟨S,0,none⟩)):=hg.t.cell 0
 have c1:w.cell? ⟨N+1,0,none⟩=some (.int .i64 (root:Int)):=hg.r.cell 0
 have c2:w.cell? ⟨N+2,0,none⟩=some (.slice ka kn kc):=hg.k.cell 0
 have HGv:=mkHid hg
 have HE:=mkHid hE
 clear h hk ht hkey hg hE
 generalize hasE13 l key=hh at *
 generalize getE13 l key=gg at *
 go_enter Tryz.func48,Tryz.ntmps48
 go_wp2_with fail
 refine HG.mono ?_
 rintro e y1 ⟨⟨v1,rfl,hv1⟩,hb1⟩
 obtain⟨va,vc,rfl,hi⟩:=hv1
 have g1:=HGv.out.on hb1
 have e1:=HE.out.on hb1
 have a3:=g1.v.cell 0
 have a4:=g1.h.cell 0
 simp only[List.getElem?_cons_zero] at a3 a4
 have f3:=g1.v.frozen 0
 have f4:=g1.h.frozen 0
 have HG1:=mkHid g1
 have HE1:=mkHid e1
 have HI1:=mkHid hi
 have HB1:=mkHid hb1
 clear HG hb1 hi g1 e1
 go_wp2_with fail
 go_end0
 refine⟨rfl,.slice va gg.length vc,?_⟩
 have i1:=HI1.out.setOther (N+3) 0 (.slice va gg.length vc) (isB_ne13 HI1.out HG1.out.v (fun n e=>by cases e))
 have h4:Blk (y1.setCell ⟨N+3,0,none⟩ (.slice va gg.length vc)) (N+4) 4 [.bool false]:=HG1.out.h.other _ _ (by show N+4≠N+3;omega)
 have i2:=i1.setOther (N+4) 0 (.bool hh) (isB_ne13 i1 h4 (fun n e=>by cases e))
 refine⟨⟨(HG1.out.t.other _ _ (by show N≠N+3;omega)).other _ _ (by show N≠N+4;omega),(HG1.out.r.other _ _ (by show N+1≠N+3;omega)).other _ _ (by show N+1≠N+4;omega),(HG1.out.k.other _ _ (by show N+2≠N+3;omega)).other _ _ (by show N+2≠N+4;omega),(HG1.out.v.set 0 _).other _ _ (by show N+3≠N+4;omega),h4.set 0 _⟩,⟨va,vc,rfl,i2⟩,(HE1.out.other _ _ (by show N+5≠N+3;omega)).other _ _ (by show N+5≠N+4;omega),?_⟩
 exact((HB1.out.mono (Nat.le_of_lt HGv.out.t.lt)).setCell (p:=⟨N+3,0,none⟩) (by show N≤N+3;omega) _).setCell (p:=⟨N+4,0,none⟩) (by show N≤N+4;omega) _
def GetPost (l:List Et)(key:List UInt8)(w:World)(e:Ending)(w':World):Prop:=(∃v h,e=.returned (.tuple #[v,.bool h,.int .i64 (if keyOk key=true then 0 else 1)])∧(keyOk key=true→h=hasE13 l key∧IsV w' v (getE13 l key)))∧Below w.heap.size w w'
theorem codGet13 (w:World)(S J P base m:Nat)(t:Tl)(j:Jl)(root:Nat)(l:List Et)(SS:List Int)(ka:Option Addr)(kn kc:Nat)(key:List UInt8)(h:SpAx w S J P base t j)(hk:Tk t j m SS)(ht:TR t j root l SS)(hkey:IsB w ka kn kc key):
  Calls Tryz.prog 19 #[.pointer (some ⟨S,0,none⟩),.int .i64 (root:Int),.slice ka kn kc] w (GetPost l key w):=by
 have hkn:=hkey.len_eq
 have HIK:=codIsKey ka kn kc
 have hko:decide (1≤kn∧kn≤100)=keyOk key:=by unfold keyOk;rw[hkn]
 rw[hko] at HIK
 clear hko
 have hmf:=mkF0
 obtain⟨Y0,hY0⟩:∃Y0,Y0=((((w.alloc (.cells #[.pointer (some ⟨S,0,none⟩)] 26)).alloc (.cells #[.int .i64 (root:Int)] 3)).alloc (.cells #[.slice ka kn kc] 33)).alloc (.cells #[.slice none 0 0] 33)).alloc (.cells #[.bool false] 4):=⟨_,rfl⟩
 have hB0:Below w.heap.size w Y0:=by rw[hY0];exact(((((Below.refl _ w).alloc (Nat.le_refl _) _).alloc (by simp) _).alloc (by simp;omega) _).alloc (by simp;omega) _).alloc (by simp;omega) _
 have hG0:GvAt Y0 w.heap.size S (root:Int) (.slice ka kn kc) (.slice none 0 0) (.bool false):=by
  rw[hY0]
  exact⟨((((Blk.newAt w w.heap.size 26 _ [.pointer (some ⟨S,0,none⟩)] rfl rfl).alloc _).alloc _).alloc _).alloc _,(((Blk.newAt _ (w.heap.size+1) 3 _ [.int .i64 (root:Int)] (by simp) rfl).alloc _).alloc _).alloc _,((Blk.newAt _ (w.heap.size+2) 33 _ [.slice ka kn kc] (by simp) rfl).alloc _).alloc _,(Blk.newAt _ (w.heap.size+3) 33 _ [.slice none 0 0] (by simp) rfl).alloc _,Blk.newAt _ (w.heap.size+4) 4 _ [.bool false] (by simp) rfl⟩
 have hs0:Y0.heap.size=w.heap.size+5:=by rw[hY0];simp
 have hA:=(Below.refl _ Y0).alloc (Nat.le_refl _) (.cells #[.int .i64 0] 30)
 have hBA:=hB0.trans (hA.mono hB0.size)
 have hEA:Blk (Y0.alloc (.cells #[.int .i64 0] 30)) (w.heap.size+5) 30 [.int .i64 0]:=Blk.newAt Y0 (w.heap.size+5) 30 _ [.int .i64 0] hs0 rfl
 have HGd:=guardYes 48 #[.pointer (some ⟨w.heap.size,0,none⟩),.pointer (some ⟨w.heap.size+1,0,none⟩),.pointer (some ⟨w.heap.size+2,0,none⟩),.pointer (some ⟨w.heap.size+3,0,none⟩),.pointer (some ⟨w.heap.size+4,0,none⟩)] Y0
  (fun W=>∃v,GvAt W w.heap.size S (root:Int) (.slice ka kn kc) v (.bool (hasE13 l key))∧IsV W v (getE13 l key)∧Blk W (w.heap.size+5) 30 [.int .i64 0]∧Below w.heap.size (Y0.alloc (.cells #[.int .i64 0] 30)) W)
  (fun W ⟨_,_,_,hE,_⟩=>by rw[hs0];exact hE) (fun args W=>by simp[callFunc,Tryz.func48];rfl)
  (codGet1 _ S J P base m w.heap.size t j root l SS ka kn kc key (SpAx.keep h (KeepT.of_below hBA)) hk ht (hkey.below hBA rfl) (hG0.on hA) hEA)
 have HB0:=mkHid hB0
 have HBA:=mkHid hBA
 have HG0:=mkHid hG0
 have c0:=hG0.t.cell 0
 have c2:=hG0.k.cell 0
 have c3:=hG0.v.cell 0
 have c4:=hG0.h.cell 0
 simp only[List.getElem?_cons_zero] at c0 c2 c3 c4
 have f3:=hG0.v.frozen 0
 have f4:=hG0.h.frozen 0
 have hn34:w.heap.size+3≠w.heap.size+4:=by omega
 clear h hk ht hkey hB0 hG0 hA hBA hEA
 have hY0':=hY0.symm
 clear hY0
 cases hko:keyOk key with
 | false =>
  rw[hko] at HIK
  clear HGd
  go_enter Tryz.func19,Tryz.ntmps19
  go_wp2_with (go_at_call 39;refine(HIK _).mono ?_;rintro e w8 ⟨rfl,hw8⟩;rw[hw8];clear hw8)
  have kV:Blk ((Y0.setCell ⟨w.heap.size+3,0,none⟩ (.slice none 0 0)).setCell ⟨w.heap.size+4,0,none⟩ (.bool false)) (w.heap.size+3) 33 [.slice none 0 0]:=(HG0.out.v.set 0 _).other _ _ hn34
  have kH:Blk ((Y0.setCell ⟨w.heap.size+3,0,none⟩ (.slice none 0 0)).setCell ⟨w.heap.size+4,0,none⟩ (.bool false)) (w.heap.size+4) 4 [.bool false]:=(HG0.out.h.other _ _ (Ne.symm hn34)).set 0 _
  refine bodyPost_ret (results_cct (P:=Tryz.prog) rfl _ _ (w.heap.size+3) (w.heap.size+4) _ _ rfl (load_sl13 _ _ _ kV) rfl (load_bo13 _ _ _ kH)) rfl ?_
  refine⟨⟨_,false,by rw[hko];rfl,fun h=>by rw[hko] at h;cases h⟩,?_⟩
  exact(HB0.out.setCell (p:=⟨w.heap.size+3,0,none⟩) (by show w.heap.size≤w.heap.size+3;omega) _).setCell (p:=⟨w.heap.size+4,0,none⟩) (by show w.heap.size≤w.heap.size+4;omega) _
 | true =>
  rw[hko] at HIK
  go_enter Tryz.func19,Tryz.ntmps19
  go_wp2_with (go_at_call 39;refine(HIK _).mono ?_;rintro e w8 ⟨rfl,hw8⟩;rw[hw8];clear hw8)
  refine HGd.mono ?_
  rintro e y1 ⟨w1,⟨v,hg,hv,hE,hb⟩,rfl,hy1⟩
  rw[hs0] at hy1
  obtain⟨va,vc,rfl,hi⟩:=hv
  have hi1:=hi.setOther (w.heap.size+5) 0 (.int .i64 0) (isB_ne13 hi hE (fun n e=>by cases e))
  rw[←hy1] at hi1
  have kV:Blk y1 (w.heap.size+3) 33 [.slice va (getE13 l key).length vc]:=by rw[hy1];exact hg.v.other _ _ (by show w.heap.size+3≠w.heap.size+5;omega)
  have kH:Blk y1 (w.heap.size+4) 4 [.bool (hasE13 l key)]:=by rw[hy1];exact hg.h.other _ _ (by show w.heap.size+4≠w.heap.size+5;omega)
  have hb1:Below w.heap.size w y1:=by
   have h1:=HBA.out.trans hb
   rw[hy1]
   exact h1.setCell (p:=⟨w.heap.size+5,0,none⟩) (by show w.heap.size≤w.heap.size+5;omega) _
  have HKV:=mkHid kV
  have HKH:=mkHid kH
  have HI1:=mkHid hi1
  have HB1:=mkHid hb1
  have d3:=kV.cell 0
  have d4:=kH.cell 0
  simp only[List.getElem?_cons_zero] at d3 d4
  have q3:=kV.frozen 0
  have q4:=kH.frozen 0
  clear HGd hg hi hE hb hi1 kV kH hb1 hy1 c0 c2 c3 c4 f3 f4
  generalize hge:getE13 l key=gg at *
  generalize hhe:hasE13 l key=hh at *
  have HGe:=mkHid hge
  have HHe:=mkHid hhe.symm
  clear hge hhe
  go_wp2_with fail
  go_region
  all_goals
   go_wp2
  have i1:=HI1.out.setOther (w.heap.size+3) 0 (.slice va gg.length vc) (isB_ne13 HI1.out HKV.out (fun n e=>by cases e))
  have kH2:Blk (y1.setCell ⟨w.heap.size+3,0,none⟩ (.slice va gg.length vc)) (w.heap.size+4) 4 [.bool hh]:=HKH.out.other _ _ (Ne.symm hn34)
  have i2:=i1.setOther (w.heap.size+4) 0 (.bool hh) (isB_ne13 i1 kH2 (fun n e=>by cases e))
  have kV3:Blk ((y1.setCell ⟨w.heap.size+3,0,none⟩ (.slice va gg.length vc)).setCell ⟨w.heap.size+4,0,none⟩ (.bool hh)) (w.heap.size+3) 33 [.slice va gg.length vc]:=(HKV.out.set 0 _).other _ _ hn34
  have kH3:Blk ((y1.setCell ⟨w.heap.size+3,0,none⟩ (.slice va gg.length vc)).setCell ⟨w.heap.size+4,0,none⟩ (.bool hh)) (w.heap.size+4) 4 [.bool hh]:=kH2.set 0 _
  have hb3:Below w.heap.size w ((y1.setCell ⟨w.heap.size+3,0,none⟩ (.slice va gg.length vc)).setCell ⟨w.heap.size+4,0,none⟩ (.bool hh)):=(HB1.out.setCell (p:=⟨w.heap.size+3,0,none⟩) (by show w.heap.size≤w.heap.size+3;omega) _).setCell (p:=⟨w.heap.size+4,0,none⟩) (by show w.heap.size≤w.heap.size+4;omega) _
  have kV4:Blk ((y1.setCell ⟨w.heap.size+3,0,none⟩ (.slice va gg.length vc)).setCell ⟨w.heap.size+4,0,none⟩ (.bool hh)).drew (w.heap.size+3) 33 [.slice va gg.length vc]:=kV3
  have kH4:Blk ((y1.setCell ⟨w.heap.size+3,0,none⟩ (.slice va gg.length vc)).setCell ⟨w.heap.size+4,0,none⟩ (.bool hh)).drew (w.heap.size+4) 4 [.bool hh]:=kH3
  refine bodyPost_ret (results_cct (P:=Tryz.prog) rfl _ _ (w.heap.size+3) (w.heap.size+4) _ _ rfl (load_sl13 _ _ _ kV4) rfl (load_bo13 _ _ _ kH4)) rfl ?_
  unfold GetPost
  rw[hko]
  exact⟨⟨_,hh,rfl,fun _=>⟨HHe.out,by rw[HGe.out];exact⟨va,vc,rfl,i2.drewN 1⟩⟩⟩,hb3.drew⟩
variable {fl:Nat}
def offK (p:Pg)(c:Nat):Nat:=max (2 * szK p c-szP p) (szP p-2 * szK p c)
theorem offK_leaf (l:List Et)(c:Nat):offK ⟨0,l,[]⟩ c=offC l c:=by
 unfold offK offC szP szK
 simp
theorem szK_tot {p:Pg}(hf:PgF p)(k:Nat)(hk:k≤p.es.length+p.ks.length):szK p k≤szP p:=by
 unfold szK szP
 split
 ·have:=szL_take_le p.es k;omega
 ·rename_i h0
  have:=hf.e0 (by omega)
  rw[this,List.length_nil] at hk
  omega
theorem codMiddle (at_:Int)(p:Pg)(ve vk:Value)(L:List Eq3)(w:World)(h:PgR fl w p ve vk L)(hf:PgF p)(hn:2≤p.es.length+p.ks.length):
  Calls Tryz.prog 182 #[.agg (pgc at_ p.lv ve vk).toArray] w fun e w'=>(∃c:Nat,e=.returned (.int .i64 (c:Int))∧0<c∧c<p.es.length+p.ks.length∧∀c',0<c'→c'<p.es.length+p.ks.length→offK p c≤offK p c')∧Below w.heap.size w w':=by
 obtain⟨ea,ec,ka,kc,rfl,rfl⟩:=h.forms
 have hY:Below w.heap.size w (w.alloc (.cells (pgc at_ p.lv (.slice ea p.es.length ec) (.slice ka p.ks.length kc)).toArray 133)):=(Below.refl _ w).alloc (Nat.le_refl _) _
 have kb:=Blk.new w 133 (pgc at_ p.lv (.slice ea p.es.length ec) (.slice ka p.ks.length kc))
 have HSz:=codSize13 at_ p _ _ L _ (h.below hY) hf
 have HL:Hid (∀W,Calls Tryz.prog 70 #[.agg (pgc at_ p.lv (.slice ea p.es.length ec) (.slice ka p.ks.length kc)).toArray] W fun e w'=>e=.returned (.int .i64 ((p.es.length+p.ks.length:Nat):Int))∧Below W.heap.size W w'):=fun W=>codLen13 at_ p.lv ea ka p.es.length ec p.ks.length kc W hf.n
 have HZ:Hid (∀W k,Below w.heap.size w W→k<p.es.length+p.ks.length→Calls Tryz.prog 199 #[.agg (pgc at_ p.lv (.slice ea p.es.length ec) (.slice ka p.ks.length kc)).toArray,.int .i64 ((k:Nat):Int)] W fun e w'=>(∃z:Nat,e=.returned (.int .i64 (z:Int))∧szK p (k+1)=szK p k+z∧z≤1000)∧Below W.heap.size W w'):=fun W k hW hk=>codSizeOf at_ p _ _ L k W (h.below hW) hf hk
 have HK0:Hid (szK p 0=0):=by unfold Hid szK;split<;>simp[szL]
 have HM:Hid (∀k,k≤p.es.length+p.ks.length→szK p k≤1000000):=fun k hk=>szK_le hf k hk
 have HTm:Hid (∀k,k≤p.es.length+p.ks.length→szK p k≤szP p):=fun k hk=>szK_tot hf k hk
 have hT:szP p≤1000000:=by rw[←szK_all hf];exact szK_le hf _ (Nat.le_refl _)
 have hnn:=hf.n
 have HY:=mkHid hY
 have HKb:=mkHid kb
 have HOf:Hid (∀c,offK p c=max (2 * szK p c-szP p) (szP p-2 * szK p c)):=fun c=>rfl
 unfold pgc at HSz kb HY HKb HZ HL ⊢
 generalize offK p=O at *
 generalize szP p=T at *
 generalize szK p=Sz at *
 have hl:=hf.lv
 clear h hf hY
 generalize p.lv=lv at *
 generalize p.es.length=n at *
 generalize p.ks.length=m at *
 generalize hq:n+m=q at *
 clear hq
 have c0:=kb.cell 0
 have c1:=kb.cell 1
 have c2:=kb.cell 2
 have c3:=kb.cell 3
 simp only[gZ0,gZ1] at c0 c1 c2 c3
 clear kb
 have hw1:IntKind.i64.wrap ((q:Int)-1)=((q-1:Nat):Int):=by rw[show (q:Int)-1=((q-1:Nat):Int) by omega];exact wrapi64_in _ (by omega) (by omega)
 obtain⟨q1,hq1⟩:∃q1,q-1=q1:=⟨_,rfl⟩
 rw[hq1] at hw1
 go_enter Tryz.func182,Tryz.ntmps182
 go_wp2_with fail
 refine HSz.mono ?_
 rintro e y1 ⟨rfl,hb1⟩
 have HB1:=mkHid (HY.out.trans (hb1.mono HY.out.size))
 have HK1:=mkHid (HKb.out.on hb1)
 have d0:=HK1.out.cell 0
 have d1:=HK1.out.cell 1
 have d2:=HK1.out.cell 2
 have d3:=HK1.out.cell 3
 simp only[gZ0,gZ1] at d0 d1 d2 d3
 clear hb1 c0 c1 c2 c3 HSz
 go_wp2_with fail
 refine(HL.out _).mono ?_
 rintro e y2 ⟨rfl,hb2⟩
 have HB2:=mkHid (HB1.out.trans (hb2.mono HB1.out.size))
 have HK2:=mkHid (HK1.out.on hb2)
 clear hb2 d0 d1 d2 d3 HB1 HK1
 go_wp2_with fail
 go_loopg [4,5,6,16] q1 (fun kx sl sb sm si wr=>∃(k best least:Nat),k≤q1∧q1-k≤kx∧si=.int .i64 (k:Int)∧sl=.int .i64 ((Sz k:Nat):Int)∧sb=.int .i64 (best:Int)∧sm=.int .i64 (least:Int)∧least≤3000000∧Hid (k=0→least=T+1)∧Hid (0<k→0<best∧best≤k∧least=O best∧∀c',0<c'→c'≤k→O best≤O c')∧Hid (Below w.heap.size w wr)∧Hid (Blk wr w.heap.size 133 [.int .i64 at_,.int .i64 (lv:Int),.slice ea n ec,.slice ka m kc]))
 case atStart=>exact⟨0,0,T+1,Nat.zero_le _,by omega,rfl,by rw[HK0.out];rfl,rfl,by go_num,by omega,fun _=>rfl,fun h=>absurd h (Nat.lt_irrefl 0),HB2,HK2⟩
 case round =>
  clear HB2 HK2
  obtain⟨k,best,least,hk,hkx,rfl,rfl,rfl,rfl,hle,HL0,HBs,HB,HK⟩:=hrel
  have d0:=HK.out.cell 0
  have d1:=HK.out.cell 1
  have d2:=HK.out.cell 2
  have d3:=HK.out.cell 3
  simp only[gZ0,gZ1] at d0 d1 d2 d3
  by_cases hlt:k<q1
  ·have hlt':(k:Int)<(q1:Int):=by omega
   have HC:=HZ.out wr k HB.out (by omega)
   have hSk:=HM.out k (by omega)
   go_wp2_with fail
   refine HC.mono ?_
   rintro e y3 ⟨⟨z,rfl,hz,hz2⟩,hb3⟩
   have HB3:=mkHid (HB.out.trans (hb3.mono HB.out.size))
   have HK3:=mkHid (HK.out.on hb3)
   obtain⟨s1,hs1⟩:∃s1,Sz (k+1)=s1:=⟨_,rfl⟩
   have HS1:=mkHid hs1
   have hz':((Sz k:Nat):Int)+(z:Int)=(s1:Int):=by omega
   obtain⟨o1,ho1⟩:∃o1,O (k+1)=o1:=⟨_,rfl⟩
   have hO:=HOf.out (k+1)
   rw[hs1,ho1] at hO
   have HO1:=mkHid ho1
   have hmx:max (2 * (s1:Int)-(T:Int)) ((T:Int)-2 * (s1:Int))=(o1:Int):=by omega
   have hs1b:s1≤1001000:=by omega
   have ho1b:o1≤3000000:=by omega
   clear HC hb3 hz hs1 ho1 hO d0 d1 d2 d3
   generalize ((Sz k:Nat):Int)=sk at *
   by_cases hol:o1≤least
   ·have hol':(o1:Int)≤(least:Int):=by omega
    have HBs2:Hid (0<k+1→0<k+1∧k+1≤k+1∧o1=O (k+1)∧∀c',0<c'→c'≤k+1→O (k+1)≤O c'):=fun _=>⟨by omega,Nat.le_refl _,HO1.out.symm,fun c' h1 h2=>by
     by_cases e:c'=k+1
     ·rw[e];exact Nat.le_refl _
     ·have h3:=HBs.out (by omega)
      have h4:=h3.2.2.2 c' h1 (by omega)
      have h5:=h3.2.2.1
      rw[HO1.out]
      omega⟩
    go_wp2_with fail
    go_roundg (q1-(k+1))
    case measure=>omega
    case rel=>exact⟨k+1,k+1,o1,by omega,Nat.le_refl _,by go_num,by rw[HS1.out],by go_num,rfl,by omega,fun h=>absurd h (by omega),HBs2,HB3,HK3⟩
   ·have hol':¬(o1:Int)≤(least:Int):=by omega
    have hk0:0<k:=by
     rcases Nat.eq_zero_or_pos k with h0|h0
     ·exfalso
      have h1:=HL0.out h0
      have h2:=HOf.out 1
      have h3:=HO1.out
      rw[h0] at h3
      have h4:=HM.out 1 (by omega)
      have h5:=HS1.out
      rw[h0] at h5
      rw[Nat.zero_add] at h3 h5
      rw[h3,h5] at h2
      have h6:=HTm.out 1 (by omega)
      rw[h5] at h6
      omega
     ·exact h0
    have HBs2:Hid (0<k+1→0<best∧best≤k+1∧least=O best∧∀c',0<c'→c'≤k+1→O best≤O c'):=fun _=>by
     have h3:=HBs.out hk0
     refine⟨h3.1,by omega,h3.2.2.1,fun c' h1 h2=>?_⟩
     by_cases e:c'=k+1
     ·rw[e,HO1.out];have:=h3.2.2.1;omega
     ·exact h3.2.2.2 c' h1 (by omega)
    go_wp2_with fail
    go_roundg (q1-(k+1))
    case measure=>omega
    case rel=>exact⟨k+1,best,least,by omega,Nat.le_refl _,by go_num,by rw[HS1.out],rfl,rfl,hle,fun h=>absurd h (by omega),HBs2,HB3,HK3⟩
  ·have hlt':¬(k:Int)<(q1:Int):=by omega
   have h3:=HBs.out (by omega)
   have HFn:Hid (0<best∧best<q∧∀c',0<c'→c'<q→O best≤O c'):=⟨h3.1,by omega,fun c' h1 h2=>h3.2.2.2 c' h1 (by omega)⟩
   clear h3
   go_wp2_with fail
   go_ret
   exact⟨⟨best,rfl,HFn.out⟩,HB.out⟩
end
section
open Go.RowKit
variable {fl:Nat}
theorem slNb (a:Option Addr)(n cap f t:Nat)(h1:f≤t)(h2:t≤cap)(w:World):(Instr.slice 50 (.slice a n cap) (some (.int .i64 (f:Int))) (some (.int .i64 (t:Int))) none).run Tryz.prog w=.ok (.slice (cutN a cap f) (t-f) (cap-f)) w:=by
 have he:Tryz.prog.elem 50=64:=by kernel_rfl
 have hz:(sizeOf 64).run Tryz.prog w=.ok 2 w:=by
  obtain⟨i0,hi,hz0,hz1,hz2⟩:=info_parts infoN
  simp[sizeOf,typeInfo,hi,hz1]
 rw[run_slice_lh w 50 _ n cap (by rw[he];exact Tryz.underlying50) .i64 .i64 (f:Int) (t:Int) (by omega) (by omega) (by omega),he,hz]
 simp only[Result.andThen,sliced,Int.toNat_natCast,cutN]
theorem RdN.sub {w:World}{a:Option Addr}{n cap:Nat}{L:List Eq3}(h:RdN fl w (.slice a n cap) L)(f t:Nat)(h1:f<t)(h2:t≤L.length):RdN fl w (.slice (cutN a cap f) (t-f) (cap-f)) ((L.drop f).take (t-f)):=by
 obtain⟨a',cap',e,hc,hr⟩:=h.form
 injection e with e1 e2 e3
 subst e1 e3
 have hl:((L.drop f).take (t-f)).length=t-f:=by rw[List.length_take,List.length_drop];omega
 refine⟨⟨cutN a cap f,cap-f,by rw[hl],by rw[hl];omega,fun hp=>?_⟩,fun x hx=>h.is x (List.mem_of_mem_drop (List.mem_of_mem_take hx))⟩
 obtain⟨g,off,c,fz,rfl,hg,hcs⟩:=hr (by omega)
 refine⟨g,off+f * 2,c,fz,?_,hg,fun i u hu=>?_⟩
 ·unfold cutN
  rw[if_neg (by omega)]
  simp[Addr.add_lit]
 ·rw[ets_take,ets_drop] at hu
  have hi:i<(t-f) * 2:=by
   have:=(List.getElem?_eq_some_iff.1 hu).1
   rw[List.length_take] at this;omega
  rw[List.getElem?_take_of_lt hi,List.getElem?_drop] at hu
  have:=hcs (f * 2+i) u hu
  rw[←Nat.add_assoc] at this
  exact this
theorem results_pp {P:Program}{fn:Func}{p u:Tmp}{ty tu:TypeId}(h:fn.results=#[.cell p ty,.cell u tu])(tmps:Array Value)(w:World)(g g2:Nat)(x v:Value)
  (hp:tmps.getD p undef=.pointer (some ⟨g,0,none⟩)) (hl:(loadVar ty ⟨g,0,none⟩).run P w=.ok x w)
  (hp2:tmps.getD u undef=.pointer (some ⟨g2,0,none⟩)) (hl2:(loadVar tu ⟨g2,0,none⟩).run P w=.ok v w):
  (results fn tmps).run P w=.ok (.tuple #[x,v]) w:=by
 have q1:tmps[p]?.getD undef=.pointer (some ⟨g,0,none⟩):=by simpa using hp
 have q2:tmps[u]?.getD undef=.pointer (some ⟨g2,0,none⟩):=by simpa using hp2
 simp only[results,h]
 simp[Sem.run_bind,Result.andThen,q1,q2,asAddr,hl,hl2]
theorem load_pg13 (w:World)(g:Nat)(c0 c1 c2 c3:Value)(h:Blk w g 133 [c0,c1,c2,c3]):(loadVar 133 ⟨g,0,none⟩).run Tryz.prog w=.ok (.agg #[c0,c1,c2,c3]) w :=
 run_loadVar_row w g 133 133 #[c0,c1,c2,c3] (0,0) _ h Tryz.underlying133 rfl pgSize
theorem codCut13 (w:World)(B:Nat)(at_:Int)(ea:Option Addr)(en ec:Nat)(vk:Value)(f t:Nat)(hB:Blk w B 133 [.int .i64 at_,.int .i64 0,.slice ea en ec,vk])(h1:f≤t)(h2:t≤ec):
  Calls Tryz.prog 181 #[.int .i64 (f:Int),.int .i64 (t:Int),.pointer (some ⟨B,0,none⟩)] w fun e w'=>e=.returned (.agg #[.int .i64 0,.int .i64 0,.slice (cutN ea ec f) (t-f) (ec-f),.slice none 0 0])∧Below w.heap.size w w':=by
 have hA:=(Below.refl _ w).alloc (Nat.le_refl _) (.cells #[.int .i64 0,.int .i64 0,.slice none 0 0,.slice none 0 0] 133)
 have HB1:=mkHid (hB.on hA)
 have HK:Hid (Blk (w.alloc (.cells #[.int .i64 0,.int .i64 0,.slice none 0 0,.slice none 0 0] 133)) w.heap.size 133 [.int .i64 0,.int .i64 0,.slice none 0 0,.slice none 0 0]):=Blk.new w _ _
 have c1:=HB1.out.cell 1
 have c2:=HB1.out.cell 2
 simp only[gZ0,gZ1] at c1 c2
 have hsl:=fun W=>slNb ea en ec f t h1 h2 W
 have HA:=mkHid hA
 clear hA hB
 generalize cutN ea ec f=ca at *
 generalize ec-f=cc at *
 generalize t-f=nn at *
 go_enter Tryz.func181,Tryz.ntmps181
 go_wp2_with fail
 refine bodyPost_ret (retPg rfl _ _ w.heap.size _ _ _ _ rfl (Blk.new w 133 [.int .i64 0,.int .i64 0,.slice ca nn cc,.slice none 0 0])) rfl ⟨rfl,(Below.refl _ w).alloc (Nat.le_refl _) _⟩
end
section
open Go.RowKit
def HvPost (fl:Nat)(l:List Et)(L:List Eq3)(w:World)(e:Ending)(w':World):Prop :=
 (∃(c:Nat) (v1 v2:Value),e=.returned (.tuple #[.agg #[.int .i64 0,.int .i64 0,v1,.slice none 0 0],.agg #[.int .i64 0,.int .i64 0,v2,.slice none 0 0]])∧0<c∧c<l.length∧(∀c',0<c'→c'<l.length→offC l c≤offC l c')∧PgR fl w' ⟨0,l.take c,[]⟩ v1 (.slice none 0 0) (L.take c)∧PgR fl w' ⟨0,l.drop c,[]⟩ v2 (.slice none 0 0) (L.drop c))∧Below w.heap.size w w'
variable {fl:Nat}
theorem midLeaf (at_:Int)(l:List Et)(n:Nat)(hnl:l.length=n)(ea ka:Option Addr)(ec kc:Nat)(L:List Eq3)(w:World)(h:PgR fl w ⟨0,l,[]⟩ (.slice ea n ec) (.slice ka 0 kc) L)(hf:PgF ⟨0,l,[]⟩)(hn:2≤n):
  Calls Tryz.prog 182 #[.agg #[.int .i64 at_,.int .i64 0,.slice ea n ec,.slice ka 0 kc]] w fun e w'=>(∃c:Nat,e=.returned (.int .i64 (c:Int))∧0<c∧c<n∧∀c',0<c'→c'<n→offC l c≤offC l c')∧Below w.heap.size w w':=by
 subst hnl
 refine(codMiddle at_ ⟨0,l,[]⟩ _ _ L w h hf hn).mono ?_
 rintro e w' ⟨⟨c,he,h1,h2,h3⟩,hb⟩
 exact⟨⟨c,he,h1,h2,fun c' a b=>by have:=h3 c' a b;rw[offK_leaf,offK_leaf] at this;exact this⟩,hb⟩
theorem codHalves (at_:Int)(l:List Et)(n:Nat)(hnl:l.length=n)(ea ka:Option Addr)(ec kc:Nat)(L:List Eq3)(w:World)(h:PgR fl w ⟨0,l,[]⟩ (.slice ea n ec) (.slice ka 0 kc) L)(hf:PgF ⟨0,l,[]⟩)(hn:2≤n)(hn2:n≤1000)(hfl:fl≤w.heap.size:=by omega):
  Calls Tryz.prog 146 #[.agg #[.int .i64 at_,.int .i64 0,.slice ea n ec,.slice ka 0 kc]] w (HvPost fl l L w):=by
 have hLl:L.length=n:=by rw[←hnl];exact h.len
 have hlc:n≤ec:=by
  obtain⟨_,_,e,hc,_⟩:=h.e.form
  injection e with _ e2 e3
  omega
 obtain⟨Y0,hY0⟩:∃Y0,Y0=((w.alloc (.cells #[.int .i64 at_,.int .i64 0,.slice ea n ec,.slice ka 0 kc] 133)).alloc (.cells #[.int .i64 0,.int .i64 0,.slice none 0 0,.slice none 0 0] 133)).alloc (.cells #[.int .i64 0,.int .i64 0,.slice none 0 0,.slice none 0 0] 133):=⟨_,rfl⟩
 have hB0:Below w.heap.size w Y0:=by rw[hY0];exact(((Below.refl _ w).alloc (Nat.le_refl _) _).alloc (by simp) _).alloc (by simp;omega) _
 have k0:Blk Y0 w.heap.size 133 [.int .i64 at_,.int .i64 0,.slice ea n ec,.slice ka 0 kc]:=by rw[hY0];exact((Blk.newAt w w.heap.size 133 #[.int .i64 at_,.int .i64 0,.slice ea n ec,.slice ka 0 kc] [.int .i64 at_,.int .i64 0,.slice ea n ec,.slice ka 0 kc] rfl rfl).alloc _).alloc _
 have k1:Blk Y0 (w.heap.size+1) 133 [.int .i64 0,.int .i64 0,.slice none 0 0,.slice none 0 0]:=by rw[hY0];exact(Blk.newAt _ (w.heap.size+1) 133 #[.int .i64 0,.int .i64 0,.slice none 0 0,.slice none 0 0] [.int .i64 0,.int .i64 0,.slice none 0 0,.slice none 0 0] (by simp) rfl).alloc _
 have k2:Blk Y0 (w.heap.size+2) 133 [.int .i64 0,.int .i64 0,.slice none 0 0,.slice none 0 0]:=by rw[hY0];exact Blk.newAt _ (w.heap.size+2) 133 #[.int .i64 0,.int .i64 0,.slice none 0 0,.slice none 0 0] [.int .i64 0,.int .i64 0,.slice none 0 0,.slice none 0 0] (by simp) rfl
 have HMd:=midLeaf at_ l n hnl ea ka ec kc L Y0 (h.below hB0) hf hn
 have hmf:=mkF0
 have HB0:=mkHid hB0
 have HK0:=mkHid k0
 have HK1:=mkHid k1
 have HK2:=mkHid k2
 have HPr:=mkHid h
 have HNl:=mkHid hnl
 have HLl:=mkHid hLl
 have hY0':=hY0.symm
 have c0:=k0.cell 0
 have c1:=k0.cell 1
 have c2:=k0.cell 2
 have c3:=k0.cell 3
 simp only[gZ0,gZ1] at c0 c1 c2 c3
 clear h hf hB0 k0 k1 k2 hY0 hnl hLl
 go_enter Tryz.func146,Tryz.ntmps146
 go_wp2_with fail
 refine HMd.mono ?_
 rintro e y1 ⟨⟨c,rfl,hc0,hc1,hcb⟩,hb1⟩
 have HCb:=mkHid hcb
 have HCt:Hid (∀W,Below Y0.heap.size Y0 W→W.cell? ⟨w.heap.size,0,none⟩=some (.int .i64 at_)∧W.cell? ⟨w.heap.size,1,none⟩=some (.int .i64 0)∧W.cell? ⟨w.heap.size,2,none⟩=some (.slice ea n ec)∧W.cell? ⟨w.heap.size,3,none⟩=some (.slice ka 0 kc)):=fun W hW=>⟨(HK0.out.on hW).cell 0,(HK0.out.on hW).cell 1,(HK0.out.on hW).cell 2,(HK0.out.on hW).cell 3⟩
 have HB1:=mkHid hb1
 clear HMd hcb hb1 c0 c1 c2 c3
 go_wp2_with fail
 have hD:Below Y0.heap.size Y0 y1.drew:=HB1.out.drew
 have HD:=mkHid hD
 refine lk0 (fun W=>W.cell? ⟨w.heap.size,0,none⟩=some (.int .i64 at_)∧W.cell? ⟨w.heap.size,1,none⟩=some (.int .i64 0)∧W.cell? ⟨w.heap.size,2,none⟩=some (.slice ea n ec)∧W.cell? ⟨w.heap.size,3,none⟩=some (.slice ka 0 kc)) 9 (HCt.out _ hD) (fun hHeld=>?_)
 clear hD HB1
 generalize y1.drew=Y1 at *
 have HC1:=codCut13 Y1 w.heap.size at_ ea n ec (.slice ka 0 kc) 0 c (HK0.out.on HD.out) (by omega) (by omega)
 simp only[Int.natCast_zero] at HC1
 refine lkT 9 0 ?_ rfl (Or.inl ⟨by rfl,?_⟩) hHeld ?_
 rotate_left
 ·intro w hSw;obtain⟨s0,s1,s2,s3⟩:=hSw;go_simp;with_reducible rfl
 (try simp only[Act.put,sIx,sZ0,sZ1])
 refine lkT 10 1 ?_ rfl (Or.inl ⟨by rfl,?_⟩) hHeld ?_
 rotate_left
 ·intro w hSw;obtain⟨s0,s1,s2,s3⟩:=hSw;go_simp;with_reducible rfl
 (try simp only[Act.put,sIx,sZ0,sZ1])
 refine lkT 12 3 ?_ rfl (Or.inl ⟨by rfl,?_⟩) hHeld ?_
 rotate_left
 ·intro w hSw;obtain⟨s0,s1,s2,s3⟩:=hSw;go_simp;with_reducible rfl
 (try simp only[Act.put,sIx,sZ0,sZ1])
 refine lkT 13 4 ?_ rfl (Or.inl ⟨by rfl,?_⟩) hHeld ?_
 rotate_left
 ·intro w hSw;obtain⟨s0,s1,s2,s3⟩:=hSw;go_simp;with_reducible rfl
 (try simp only[Act.put,sIx,sZ0,sZ1])
 refine lkT 14 5 (.agg #[.int .i64 at_,.int .i64 0,.slice ea n ec,.slice ka 0 kc]) rfl (Or.inl ⟨by rfl,?_⟩) hHeld ?_
 ·intro w hSw;obtain⟨s0,s1,s2,s3⟩:=hSw;go_simp
 (try simp only[Act.put,sIx,sZ0,sZ1])
 refine lk1 2 rfl (fun K hK=>?_)
 go_simp
 go_wp2_with (go_at_call 181;refine HC1.mono ?_;rintro e y2 ⟨rfl,hb2⟩)
 have hb2':=HD.out.trans (hb2.mono HD.out.size)
 have HB2:=mkHid hb2'
 refine hK.out _ _ (HCt.out _ hb2') (fun hHeld=>?_)
 (try simp only[Act.put,sIx,sZ0,sZ1])
 clear hK K HC1 hb2 hb2'
 have HLn:=codLen13 at_ 0 ea ka n ec 0 kc y2 (by omega)
 unfold pgc at HLn
 simp only[Int.natCast_zero,Nat.add_zero] at HLn
 refine lk1 6 rfl (fun K hK=>?_)
 go_simp
 go_wp2_with (go_at_call 70;refine HLn.mono ?_;rintro e y3 ⟨rfl,hb3⟩)
 have hb3':=HB2.out.trans (hb3.mono HB2.out.size)
 have HB3:=mkHid hb3'
 refine hK.out _ _ (HCt.out _ hb3') (fun hHeld=>?_)
 (try simp only[Act.put,sIx,sZ0,sZ1])
 clear hK K HLn hb3
 have HC2:=codCut13 y3 w.heap.size at_ ea n ec (.slice ka 0 kc) c n (HK0.out.on hb3') (by omega) hlc
 clear hb3'
 refine lk1 7 rfl (fun K hK=>?_)
 go_simp
 go_wp2_with (go_at_call 181;refine HC2.mono ?_;rintro e y4 ⟨rfl,hb4⟩)
 have hb4':=HB3.out.trans (hb4.mono HB3.out.size)
 refine hK.out _ _ (HCt.out _ hb4') (fun hHeld=>?_)
 (try simp only[Act.put,sIx,sZ0,sZ1])
 clear hK K HC2 hb4
 have HB4:=mkHid (HB0.out.trans (hb4'.mono HB0.out.size))
 have KA:=mkHid (HK1.out.on hb4')
 have KB:=mkHid (HK2.out.on hb4')
 have K04:=mkHid (HK0.out.on hb4')
 have hpr:=HPr.out.below HB4.out
 have s1:=hpr.e.sub 0 c hc0 (by rw[HLl.out];omega)
 have s2:=hpr.e.sub c n hc1 (by rw[HLl.out];omega)
 rw[List.drop_zero] at s1
 simp only[Nat.sub_zero] at s1
 have e2':(L.drop c).take (n-c)=L.drop c:=List.take_of_length_le (by rw[List.length_drop,HLl.out];omega)
 rw[e2'] at s2
 have HPa:Hid (PgR fl y4 ⟨0,l.take c,[]⟩ (.slice (cutN ea ec 0) c ec) (.slice none 0 0) (L.take c)):=⟨s1,RdZ.nil _,by rw[List.map_take];exact congrArg (List.take c) hpr.es⟩
 have HPb:Hid (PgR fl y4 ⟨0,l.drop c,[]⟩ (.slice (cutN ea ec c) (n-c) (ec-c)) (.slice none 0 0) (L.drop c)):=⟨s2,RdZ.nil _,by rw[List.map_drop];exact congrArg (List.drop c) hpr.es⟩
 try simp only[Nat.sub_zero]
 clear hpr s1 s2 e2' hb4'
 generalize cutN ea ec 0=a1 at *
 generalize cutN ea ec c=a2 at *
 generalize n-c=n2 at *
 generalize ec-c=e2 at *
 have p0:=KA.out.cell 0
 have p1:=KA.out.cell 1
 have p2:=KA.out.cell 2
 have p3:=KA.out.cell 3
 simp only[gZ0,gZ1] at p0 p1 p2 p3
 have fp0:=KA.out.frozen 0
 have fp1:=KA.out.frozen 1
 have fp2:=KA.out.frozen 2
 have fp3:=KA.out.frozen 3
 have q0:=KB.out.cell 0
 have q1:=KB.out.cell 1
 have q2:=KB.out.cell 2
 have q3:=KB.out.cell 3
 simp only[gZ0,gZ1] at q0 q1 q2 q3
 have fq0:=KB.out.frozen 0
 have fq1:=KB.out.frozen 1
 have fq2:=KB.out.frozen 2
 have fq3:=KB.out.frozen 3
 refine lk1 8 rfl (fun K hK=>?_)
 ·go_simp
  have hg1:=grown4 y4 (w.heap.size+1) (.int .i64 0) (.int .i64 0) (.slice a1 c ec) (.slice none 0 0)
  have KF1:Hid (Blk ((((y4.setCell ⟨w.heap.size+1,0,none⟩ (.int .i64 0)).setCell ⟨w.heap.size+1,1,none⟩ (.int .i64 0)).setCell ⟨w.heap.size+1,2,none⟩ (.slice a1 c ec)).setCell ⟨w.heap.size+1,3,none⟩ (.slice none 0 0)) (w.heap.size+1) 133 [.int .i64 0,.int .i64 0,(.slice a1 c ec),.slice none 0 0]):=store_pg KA.out
  have KS1:Hid (Blk ((((y4.setCell ⟨w.heap.size+1,0,none⟩ (.int .i64 0)).setCell ⟨w.heap.size+1,1,none⟩ (.int .i64 0)).setCell ⟨w.heap.size+1,2,none⟩ (.slice a1 c ec)).setCell ⟨w.heap.size+1,3,none⟩ (.slice none 0 0)) (w.heap.size+2) 133 [.int .i64 0,.int .i64 0,.slice none 0 0,.slice none 0 0]):=(hg1.block _ KB.out.lt (fun e=>by have:=Option.some.inj e;omega)).trans KB.out
  have K01:Hid (Blk ((((y4.setCell ⟨w.heap.size+1,0,none⟩ (.int .i64 0)).setCell ⟨w.heap.size+1,1,none⟩ (.int .i64 0)).setCell ⟨w.heap.size+1,2,none⟩ (.slice a1 c ec)).setCell ⟨w.heap.size+1,3,none⟩ (.slice none 0 0)) w.heap.size 133 [.int .i64 at_,.int .i64 0,.slice ea n ec,.slice ka 0 kc]):=(hg1.block _ K04.out.lt (fun e=>by have:=Option.some.inj e;omega)).trans K04.out
  have HP1:=mkHid (HPa.out.keep (KeepU.grown1 KA.out (by decide) hg1 (by omega)))
  have HP2:=mkHid (HPb.out.keep (KeepU.grown1 KA.out (by decide) hg1 (by omega)))
  have HBz:Hid (Below w.heap.size w ((((y4.setCell ⟨w.heap.size+1,0,none⟩ (.int .i64 0)).setCell ⟨w.heap.size+1,1,none⟩ (.int .i64 0)).setCell ⟨w.heap.size+1,2,none⟩ (.slice a1 c ec)).setCell ⟨w.heap.size+1,3,none⟩ (.slice none 0 0))):=HB4.out.grown hg1 HB4.out.size (fun k e=>by have:=Option.some.inj e;omega)
  refine hK.out _ _ ⟨K01.out.cell 0,K01.out.cell 1,K01.out.cell 2,K01.out.cell 3⟩ (fun hHeld=>?_)
  (try simp only[Act.put,sIx,sZ0,sZ1])
  clear hK K hg1 p0 p1 p2 p3 fp0 fp1 fp2 fp3 q0 q1 q2 q3 fq0 fq1 fq2 fq3
  generalize ((((y4.setCell ⟨w.heap.size+1,0,none⟩ (.int .i64 0)).setCell ⟨w.heap.size+1,1,none⟩ (.int .i64 0)).setCell ⟨w.heap.size+1,2,none⟩ (.slice a1 c ec)).setCell ⟨w.heap.size+1,3,none⟩ (.slice none 0 0))=Z at *
  have m0:=KS1.out.cell 0
  have m1:=KS1.out.cell 1
  have m2:=KS1.out.cell 2
  have m3:=KS1.out.cell 3
  simp only[gZ0,gZ1] at m0 m1 m2 m3
  have fm0:=KS1.out.frozen 0
  have fm1:=KS1.out.frozen 1
  have fm2:=KS1.out.frozen 2
  have fm3:=KS1.out.frozen 3
  refine lkZ rfl (fun K hK=>?_)
  go_simp
  refine hK.out _ _ ?_
  simp only[Exit.then]
  (try simp only[Act.put,sIx,sZ0,sZ1])
  clear hK K hHeld
  have hg2:=grown4 Z (w.heap.size+2) (.int .i64 0) (.int .i64 0) (.slice a2 n2 e2) (.slice none 0 0)
  have KS2:Blk ((((Z.setCell ⟨w.heap.size+2,0,none⟩ (.int .i64 0)).setCell ⟨w.heap.size+2,1,none⟩ (.int .i64 0)).setCell ⟨w.heap.size+2,2,none⟩ (.slice a2 n2 e2)).setCell ⟨w.heap.size+2,3,none⟩ (.slice none 0 0)) (w.heap.size+2) 133 [.int .i64 0,.int .i64 0,(.slice a2 n2 e2),.slice none 0 0]:=store_pg KS1.out
  have KF2:Blk ((((Z.setCell ⟨w.heap.size+2,0,none⟩ (.int .i64 0)).setCell ⟨w.heap.size+2,1,none⟩ (.int .i64 0)).setCell ⟨w.heap.size+2,2,none⟩ (.slice a2 n2 e2)).setCell ⟨w.heap.size+2,3,none⟩ (.slice none 0 0)) (w.heap.size+1) 133 [.int .i64 0,.int .i64 0,(.slice a1 c ec),.slice none 0 0]:=(hg2.block _ KF1.out.lt (fun e=>by have:=Option.some.inj e;omega)).trans KF1.out
  have HPx:=HP1.out.keep (KeepU.grown1 KS1.out (by decide) hg2 (by omega))
  have HPy:=HP2.out.keep (KeepU.grown1 KS1.out (by decide) hg2 (by omega))
  have hBz:Below w.heap.size w ((((Z.setCell ⟨w.heap.size+2,0,none⟩ (.int .i64 0)).setCell ⟨w.heap.size+2,1,none⟩ (.int .i64 0)).setCell ⟨w.heap.size+2,2,none⟩ (.slice a2 n2 e2)).setCell ⟨w.heap.size+2,3,none⟩ (.slice none 0 0)):=HBz.out.grown hg2 HBz.out.size (fun k e=>by have:=Option.some.inj e;omega)
  have HKx:=mkHid (And.intro KS2 (And.intro KF2 (And.intro HPx (And.intro HPy hBz))))
  clear hg2 KS2 KF2 HPx HPy hBz m0 m1 m2 m3 fm0 fm1 fm2 fm3
  generalize ((((Z.setCell ⟨w.heap.size+2,0,none⟩ (.int .i64 0)).setCell ⟨w.heap.size+2,1,none⟩ (.int .i64 0)).setCell ⟨w.heap.size+2,2,none⟩ (.slice a2 n2 e2)).setCell ⟨w.heap.size+2,3,none⟩ (.slice none 0 0))=Z9 at *
  go_wp2_with fail
  refine bodyPost_ret (results_pp (P:=Tryz.prog) rfl _ _ (w.heap.size+1) (w.heap.size+2) _ _ rfl (load_pg13 _ _ _ _ _ _ HKx.out.2.1) rfl (load_pg13 _ _ _ _ _ _ HKx.out.1)) rfl ?_
  exact⟨⟨c,_,_,rfl,hc0,by rw[HNl.out];exact hc1,by rw[HNl.out];exact HCb.out,HKx.out.2.2.1,HKx.out.2.2.2.1⟩,HKx.out.2.2.2.2⟩
end
end Go.Proofs.YtpecobmfabmpkaaGreatDoor
