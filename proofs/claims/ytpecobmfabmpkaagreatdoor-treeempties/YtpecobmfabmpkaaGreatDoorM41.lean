/- PvH PvI PvJ -/
import Derived.Test.YtpecobmfabmpkaaGreatDoorM40
import Derived.Test.YtpecobmfabmpkaaGreatDoorM34
set_option maxRecDepth 20000
set_option maxHeartbeats 6000000
namespace Go.Proofs.YtpecobmfabmpkaaGreatDoor
open Go.RowKit
def RemT (w:World)(S J P base m:Nat)(t:Tl)(j:Jl)(l:List Et)(key:List UInt8)(r:Ending)(w':World):Prop :=
 (∃t' root' S',r=.returned (.tuple #[.int .i64 ((root':Nat):Int),.bool (hasE13 l key)])∧SpAx w' S J P base t' j∧Tk t' j m S'∧TR t' j root' (delE13 l key) S'∧t'.l.length≤t.l.length+5)∧KS base w w'
theorem pgRemove0 (w:World)(S J P base m:Nat)(t:Tl)(j:Jl)(ka:Option Addr)(kn kc:Nat)(key:List UInt8)(h:SpAx w S J P base t j)(hk:Tk t j m []):
  Calls Tryz.prog 47 #[gT S,.int .i64 0,.slice ka kn kc] w (RemT w S J P base m t j [] key):=by
 have hlo:=spcOK.lo h
 unfold gT
 have W1:Below w.heap.size w (w.alloc (.cells #[.pointer (some ⟨S,0,none⟩)] 87)):=(Below.refl _ w).alloc (Nat.le_refl _) _
 have HF:=mkHid (And.intro (SpAx.keep h (KeepT.of_below W1)) (KS.of_below (base:=base) W1 hlo))
 have HT:Hid (TR t j 0 [] []):=⟨List.Pairwise.nil,.inl ⟨rfl,rfl,rfl⟩⟩
 clear h W1
 go_enter Tryz.func47,Tryz.ntmps47
 go_wp2_with fail
 refine bodyPost_ret (results_tmp2 rfl _ _ _) rfl ?_
 exact⟨⟨t,0,[],rfl,HF.out.1,hk,HT.out,by omega⟩,HF.out.2⟩
theorem pgRemoveL (w:World)(S J P base m:Nat)(t:Tl)(j:Jl)(s:Nat)(l:List Et)(ka:Option Addr)(kn kc:Nat)(key:List UInt8)(h:SpAx w S J P base t j)(hk:Tk t j m [(s:Int)])(hl:LfAt t j s l)(hkey:IsB w ka kn kc key)(hroom:t.l.length+6≤48):
  Calls Tryz.prog 47 #[gT S,.int .i64 (s:Int),.slice ka kn kc] w (RemT w S J P base m t j l key):=by
 have hlo:=spcOK.lo h
 have hf:=hk.fit
 have hn2:=hf.few.n
 have hsr:=hk.rng (s:Int) List.mem_cons_self
 have hll:=hl.ok.len
 have hFR:FR t j m ([]++(s,l):: []) []:=FR.ofLeaf hl hk
 unfold gT
 have W1:Below w.heap.size w (w.alloc (.cells #[.pointer (some ⟨S,0,none⟩)] 87)):=(Below.refl _ w).alloc (Nat.le_refl _) _
 have k0:Blk (w.alloc (.cells #[.pointer (some ⟨S,0,none⟩)] 87)) w.heap.size 87 [.pointer (some ⟨S,0,none⟩)]:=Blk.newAt w w.heap.size 87 #[.pointer (some ⟨S,0,none⟩)] [.pointer (some ⟨S,0,none⟩)] rfl rfl
 generalize hW:w.alloc (.cells #[.pointer (some ⟨S,0,none⟩)] 87)=Y0 at *
 have hA0:=SpAx.keep h (KeepT.of_below W1)
 have hkey0:=hkey.below W1 rfl
 have HRd:=pgRead Y0 S J P base m t j s ⟨0,l,[]⟩ hA0 hf (by omega) (by omega) (by rw[hl.rd];exact pg_leaf hl.ok)
 have HWo:Hid (∀Y2 Kb ve vk L,Below Y0.heap.size Y0 Y2→Y0.heap.size≤Kb→Blk Y2 Kb 133 [.int .i64 (s:Int),.int .i64 0,ve,vk]→OwnN Y2 Y0.heap.size ve L→(∀x∈L,EtP Y2 x.1 x.2)→L.map Prod.fst=l→(∃a c,vk=.slice a 0 c) →
   Calls Tryz.prog 69 #[gT S,.pointer (some ⟨Kb,0,none⟩),.slice ka kn kc] Y2 fun r w'=>r=.returned (.bool (hasE13 l key))∧KS base Y0 w'∧(∀B cs,B≠Kb→Blk Y2 B 133 cs→Blk w' B 133 cs)∧KeepO [3] Y2 w'∧WoRes Y2 w' Y0 S J P base m t j [] [] [] s Kb l vk key (hasE13 l key)):=fun Y2 Kb ve vk L hb hKb hB hO hx hL hvk =>
  codWoLeaf Y2 Y0 S J P base m t j [] [] [] s Kb l ve vk L ka kn kc key (SpAx.keep hA0 (KeepT.of_below hb)) hFR (KS.of_below hb (spcOK.lo hA0)) hB hO hx hL hvk (hkey0.below hb rfl) hKb (by omega) (spcOK.lo hA0)
 have HK0:=mkHid (KS.of_below (base:=base) W1 hlo)
 have HA0:=mkHid hA0
 have HLo:Hid (base≤Y0.heap.size):=spcOK.lo hA0
 have HTk:=mkHid (And.intro hk hl)
 unfold gT at *
 have HB0:=mkHid k0
 have c0:=k0.cell 0
 simp only[List.getElem?_cons_zero] at c0
 have hs0:((s:Int)==0)=false:=by rw[beq_eq_false_iff_ne];omega
 have hs1:¬s=0:=by omega
 have hno:=del_no l key
 clear h hk hFR W1 k0 hA0 hl hsr hkey hkey0
 unfold RemT
 go_enter Tryz.func47,Tryz.ntmps47
 go_upto_region 1 with fail
 (try rw[hW])
 clear hW
 go_upto_region 3 with fail
 go_upto_region 4 with(go_at_call 67;refine HRd.mono ?_;rintro r1 y1 ⟨⟨v,ve,vk,L,rfl,hp1⟩,hb1⟩;obtain⟨ea,ec,xa,xc,hve,hvk⟩:=hp1.r.forms;subst hve hvk;obtain rfl:=hp1.v;unfold pgc)
 have W2:Below y1.heap.size y1 (y1.alloc (.cells #[.int .i64 (s:Int),.int .i64 0,.slice ea l.length ec,.slice xa 0 xc] 133)):=(Below.refl _ y1).alloc (Nat.le_refl _) _
 have kp:Blk (y1.alloc (.cells #[.int .i64 (s:Int),.int .i64 0,.slice ea l.length ec,.slice xa 0 xc] 133)) y1.heap.size 133 [.int .i64 (s:Int),.int .i64 0,.slice ea l.length ec,.slice xa 0 xc]:=Blk.new y1 133 [.int .i64 (s:Int),.int .i64 0,.slice ea l.length ec,.slice xa 0 xc]
 have hb2:=hb1.trans (W2.mono hb1.size)
 have hp2:=hp1.below W2
 have hWo:=HWo.out _ y1.heap.size _ _ L hb2 hb1.size kp hp2.e hp2.x hp2.es ⟨xa,xc,rfl⟩
 have kb0:=HB0.out.on hb2
 generalize y1.alloc (.cells #[.int .i64 (s:Int),.int .i64 0,.slice ea l.length ec,.slice xa 0 xc] 133)=Y2 at *
 have c0:=kb0.cell 0
 simp only[List.getElem?_cons_zero] at c0
 have HB2:=mkHid hb2
 clear hp1 hp2 HWo HRd hb1 kb0 kp W2 hb2
 cases hh:hasE13 l key with
 | false =>
  rw[hh] at hWo
  go_wp2_with (go_at_call 69;refine hWo.mono ?_;rintro r3 y3 ⟨rfl,hk3,hpk3,hki3,hres3⟩;have HR3:=mkHid (And.intro hk3 hres3);clear hk3 hpk3 hki3 hres3)
  refine bodyPost_ret (results_tmp2 rfl _ _ _) rfl ?_
  rcases HR3.out.2 with⟨_,hb3⟩|⟨h3,_⟩
  ·have hb:=HB2.out.trans (hb3.mono HB2.out.size)
   refine⟨⟨t,s,[(s:Int)],by rw[hh];rfl,SpAx.keep HA0.out (KeepT.of_below hb),HTk.out.1,?_,by omega⟩,HK0.out.trans (KS.of_below hb HLo.out)⟩
   rw[hno hh]
   exact(FR.leaf (FR.ofLeaf HTk.out.2 HTk.out.1)).1
  ·cases h3
 | true =>
  rw[hh] at hWo
  go_upto_region 6 with(go_at_call 69;refine hWo.mono ?_;rintro r3 y3 ⟨rfl,hk3,hpk3,hki3,hres3⟩)
  rcases hres3 with⟨h3,_⟩|⟨_,t3,ve3,L3,hA3,hwp3,hB3,hO3,hm3,hx3⟩
  ·cases h3
  obtain⟨va,vc,hve3,-⟩:=hO3.form
  subst hve3
  have hln3:L3.length=(delE13 l key).length:=by rw[←hm3,List.length_map]
  have hle3:=del_len l key hh
  have d0:=hB3.cell 0
  have d1:=hB3.cell 1
  have d2:=hB3.cell 2
  have d3:=hB3.cell 3
  simp only[gZ0,gZ1] at d0 d1 d2 d3
  have HK3:=mkHid (HK0.out.trans hk3)
  have HA3:=mkHid hA3
  have HB3:=mkHid hB3
  obtain⟨hr3,_,hw3⟩:=hwp3
  have hLn:=fun W=>codLen13 (s:Int) 0 va xa L3.length vc 0 xc W (by omega)
  unfold pgc at hLn
  have hLn:∀W,Calls Tryz.prog 70 #[.agg #[.int .i64 (s:Int),.int .i64 0,.slice va L3.length vc,.slice xa 0 xc]] W fun e w'=>e=.returned (.int .i64 (L3.length:Int))∧Below W.heap.size W w':=hLn
  obtain⟨n3,hn3⟩:∃n3,n3=L3.length:=⟨_,rfl⟩
  rw[←hn3] at hLn d2 hln3
  clear hB3 hO3 hm3 hx3 hk3 hpk3 hki3 hWo hA3 hn3
  rcases hw3 with⟨hd3,hF3⟩|⟨hd3,hl3,hF3⟩
  ·have hz:n3=0:=by rw[hln3,hd3];rfl
   have hLn0:∀W,Calls Tryz.prog 70 #[.agg #[.int .i64 (s:Int),.int .i64 0,.slice va n3 vc,.slice xa 0 xc]] W fun e w'=>e=.returned (.int .i64 0)∧Below W.heap.size W w':=fun W=>by
    have:=hLn W
    rw[show ((n3:Nat):Int)=0 by omega] at this
    exact this
   have HF3:=mkHid (And.intro hd3 hF3)
   clear hz hLn hln3 hle3 hd3 hF3
   go_wp2_with (go_at_call 70;refine(hLn0 _).mono ?_;rintro r5 y5 ⟨rfl,hb5⟩;have HB5:=mkHid hb5;clear hb5)
   refine bodyPost_ret (results_tmp2 rfl _ _ _) rfl ?_
   refine⟨⟨t3,0,[],by rw[hh];rfl,SpAx.keep HA3.out (KeepT.of_below HB5.out),HF3.out.2.tk,⟨?_,.inl ⟨rfl,HF3.out.1,rfl⟩⟩,by omega⟩,HK3.out.trans (KS.of_below HB5.out (spcOK.lo HA3.out))⟩
   rw[HF3.out.1]
   exact List.Pairwise.nil
  ·have hz:((n3:Int)==0)=false:=by
    rw[beq_eq_false_iff_ne]
    have:=List.length_pos_iff.2 hd3
    omega
   have hz2:¬n3=0:=by
    have:=List.length_pos_iff.2 hd3
    omega
   have HF3:=mkHid (FR.leaf (show FR t3 j m [(s,delE13 l key)] [] from hF3))
   clear hln3 hle3 hd3 hF3 hl3
   go_upto_region 8 with(go_at_call 70;refine(hLn _).mono ?_;rintro r5 y5 ⟨rfl,hb5⟩)
   have hk5:=HK3.out.trans (KS.of_below hb5 (spcOK.lo HA3.out))
   have d1:=(HB3.out.on hb5).cell 1
   simp only[gZ0,gZ1] at d1
   have HF5:=mkHid (And.intro (SpAx.keep HA3.out (KeepT.of_below hb5)) hk5)
   clear hb5 hk5 hLn
   go_wp2_with fail
   refine bodyPost_ret (results_tmp2 rfl _ _ _) rfl ?_
   exact⟨⟨t3,s,_,by rw[hh];rfl,HF5.out.1,HF3.out.2,HF3.out.1,by omega⟩,HF5.out.2⟩
theorem pgRemoveN (w:World)(S J P base m:Nat)(t:Tl)(j:Jl)(s:Nat)(Q:Ps)(ka:Option Addr)(kn kc:Nat)(key:List UInt8)(h:SpAx w S J P base t j)(hk:Tk t j m ((s:Int):: secsP Q))(hN:NdAt t j s Q)(hso:SrtE (entsP Q))(hkey:IsB w ka kn kc key)(hroom:t.l.length+6≤48):
  Calls Tryz.prog 47 #[gT S,.int .i64 (s:Int),.slice ka kn kc] w (RemT w S J P base m t j (entsP Q) key):=by
 have hlo:=spcOK.lo h
 have hf:=hk.fit
 have hn2:=hf.few.n
 have hsr:=hk.rng (s:Int) List.mem_cons_self
 unfold gT
 have W1:Below w.heap.size w (w.alloc (.cells #[.pointer (some ⟨S,0,none⟩)] 87)):=(Below.refl _ w).alloc (Nat.le_refl _) _
 have k0:Blk (w.alloc (.cells #[.pointer (some ⟨S,0,none⟩)] 87)) w.heap.size 87 [.pointer (some ⟨S,0,none⟩)]:=Blk.newAt w w.heap.size 87 #[.pointer (some ⟨S,0,none⟩)] [.pointer (some ⟨S,0,none⟩)] rfl rfl
 generalize hW:w.alloc (.cells #[.pointer (some ⟨S,0,none⟩)] 87)=Y0 at *
 have hA0:=SpAx.keep h (KeepT.of_below W1)
 have hkey0:=hkey.below W1 rfl
 have HRd:=pgRead Y0 S J P base m t j s _ hA0 hf (by omega) (by omega) (nd_pg13 hN hk)
 have HWo:Hid (∀Y2 Kb pa pc g n cap,Below Y0.heap.size Y0 Y2→Y0.heap.size≤Kb→Blk Y2 Kb 133 [.int .i64 (s:Int),.int .i64 1,.slice pa 0 pc,.slice (some ⟨g,0,none⟩) n cap]→OwnZ Y2 Y0.heap.size (.slice (some ⟨g,0,none⟩) n cap) ((Q.map (·.1)).map Int.ofNat) →
   Calls Tryz.prog 69 #[gT S,.pointer (some ⟨Kb,0,none⟩),.slice ka kn kc] Y2 fun r w'=>r=.returned (.bool (hasE13 (entsP Q) key))∧KS base Y0 w'∧WonRes Y2 w' Y0 S J P base m t j Kb s Q key pa pc (hasE13 (entsP Q) key)):=fun Y2 Kb pa pc g n cap hb hKb hB hO =>
  codWoNode Y2 Y0 S J P base m t j Kb s n cap g Q pa ka pc kn kc key (SpAx.keep hA0 (KeepT.of_below hb)) hN hk hso (KS.of_below hb (spcOK.lo hA0)) hB hKb hO (hkey0.below hb rfl) (by omega) (spcOK.lo hA0)
 have HK0:=mkHid (KS.of_below (base:=base) W1 hlo)
 have HA0:=mkHid hA0
 have HLo:Hid (base≤Y0.heap.size):=spcOK.lo hA0
 have HTk:=mkHid (And.intro hk (And.intro hN hso))
 unfold gT at *
 have HB0:=mkHid k0
 have c0:=k0.cell 0
 simp only[List.getElem?_cons_zero] at c0
 have hs0:((s:Int)==0)=false:=by rw[beq_eq_false_iff_ne];omega
 have hs1:¬s=0:=by omega
 have hq2:=hN.n
 have hq254:=hN.n2
 clear h hk W1 k0 hA0 hN hkey hkey0 hso
 unfold RemT
 generalize hks:Q.map (·.1)=ks at *
 have HKl:Hid (ks.length=Q.length):=by unfold Hid;rw[←hks,List.length_map]
 go_enter Tryz.func47,Tryz.ntmps47
 go_upto_region 1 with fail
 (try rw[hW])
 clear hW
 go_upto_region 3 with fail
 go_upto_region 4 with(go_at_call 67;refine HRd.mono ?_;rintro r1 y1 ⟨⟨v,ve,vk,L,rfl,hp1⟩,hb1⟩;obtain⟨ea,ec,xa,xc,hve,hvk⟩:=hp1.r.forms;subst hve hvk;obtain rfl:=hp1.v;unfold pgc)
 obtain⟨g,hxg⟩:∃g,xa=some ⟨g,0,none⟩:=by
  obtain⟨a',c',e1,_,_,h3⟩:=OwnRw.form okI13 hp1.k.c
  injection e1 with e1 _ _
  obtain⟨g,h4,_⟩:=h3 (by show 0<(ks.map Int.ofNat).length;rw[List.length_map];have:=HKl.out;omega)
  exact⟨g,e1.trans h4⟩
 subst hxg
 have W2:Below y1.heap.size y1 (y1.alloc (.cells #[.int .i64 (s:Int),.int .i64 1,.slice ea 0 ec,.slice (some ⟨g,0,none⟩) ks.length xc] 133)):=(Below.refl _ y1).alloc (Nat.le_refl _) _
 have kp:Blk (y1.alloc (.cells #[.int .i64 (s:Int),.int .i64 1,.slice ea 0 ec,.slice (some ⟨g,0,none⟩) ks.length xc] 133)) y1.heap.size 133 [.int .i64 (s:Int),.int .i64 1,.slice ea 0 ec,.slice (some ⟨g,0,none⟩) ks.length xc]:=Blk.new y1 133 [.int .i64 (s:Int),.int .i64 1,.slice ea 0 ec,.slice (some ⟨g,0,none⟩) ks.length xc]
 have hb2:=hb1.trans (W2.mono hb1.size)
 have hp2:=hp1.below W2
 have hWo:=HWo.out _ y1.heap.size _ _ _ _ _ hb2 hb1.size kp hp2.k
 have kb0:=HB0.out.on hb2
 have HKy:Hid (Y0.heap.size≤y1.heap.size):=hb1.size
 generalize y1.alloc (.cells #[.int .i64 (s:Int),.int .i64 1,.slice ea 0 ec,.slice (some ⟨g,0,none⟩) ks.length xc] 133)=Y2 at *
 have c0:=kb0.cell 0
 simp only[List.getElem?_cons_zero] at c0
 have HB2:=mkHid hb2
 clear hp1 hp2 HWo HRd hb1 kb0 kp W2 hb2
 cases hh:hasE13 (entsP Q) key with
 | false =>
  rw[hh] at hWo
  go_wp2_with (go_at_call 69;refine hWo.mono ?_;rintro r3 y3 ⟨rfl,hk3,hres3⟩;have HR3:=mkHid (And.intro hk3 hres3);clear hk3 hres3)
  refine bodyPost_ret (results_tmp2 rfl _ _ _) rfl ?_
  rcases HR3.out.2 with⟨_,hb3⟩|⟨h3,_⟩
  ·have hb:=HB2.out.trans (hb3.mono HB2.out.size)
   refine⟨⟨t,s,(s:Int):: secsP Q,by rw[hh];rfl,SpAx.keep HA0.out (KeepT.of_below hb),HTk.out.1,?_,by omega⟩,HK0.out.trans (KS.of_below hb HLo.out)⟩
   rw[del_no _ _ hh]
   exact⟨HTk.out.2.2,.inr (.inr ⟨Q,HTk.out.2.1,rfl,rfl⟩)⟩
  ·cases h3
 | true =>
  rw[hh] at hWo
  go_upto_region 6 with(go_at_call 69;refine hWo.mono ?_;rintro r3 y3 ⟨rfl,hk3,hres3⟩)
  rcases hres3 with⟨h3,_⟩|⟨_,t3,Q3,va,vn,vc,hA3,hF3,hrd3,hen3,hne3,hql3,hr3,hB3,hO3⟩
  ·cases h3
  have hvn:vn=Q3.length:=by
   obtain⟨_,_,e1,_⟩:=OwnRw.form okI13 hO3.c
   injection e1 with _ e2 _
   rw[e2,List.length_map,List.length_map]
  have hq3:0<Q3.length:=List.length_pos_iff.2 hne3
  have c0':Blk y3 w.heap.size 87 [.pointer (some ⟨S,0,none⟩)]:=hk3.o.blk HB0.out (by decide)
  have d0:=hB3.cell 0
  have d1:=hB3.cell 1
  have d2:=hB3.cell 2
  have d3:=hB3.cell 3
  simp only[gZ0,gZ1] at d0 d1 d2 d3
  have HK3:=mkHid (HK0.out.trans hk3)
  have HA3:=mkHid hA3
  have HB3:=mkHid (And.intro hB3 c0')
  have HO3:=mkHid hO3
  have HF3:=mkHid (And.intro hF3 (And.intro hrd3 hen3))
  have hLn:∀W,Calls Tryz.prog 70 #[.agg #[.int .i64 (s:Int),.int .i64 1,.slice ea 0 ec,.slice va vn vc]] W fun e w'=>e=.returned (.int .i64 (vn:Int))∧Below W.heap.size W w':=fun W=>by
   have:=codLen13 (s:Int) 1 ea va 0 ec vn vc W (by omega)
   rw[Nat.zero_add] at this
   exact this
  have hz:((vn:Int)==0)=false:=by rw[beq_eq_false_iff_ne];omega
  have hz2:¬vn=0:=by omega
  have HVn:=mkHid hvn
  clear hB3 hO3 hk3 hWo hA3 hF3 hrd3 hen3 hne3 c0' hvn
  go_upto_region 8 with(go_at_call 70;refine(hLn _).mono ?_;rintro r5 y5 ⟨rfl,hb5⟩)
  have kp5:=HB3.out.1.on hb5
  have kg5:=HB3.out.2.on hb5
  have c0:=kg5.cell 0
  have d0:=kp5.cell 0
  have d1:=kp5.cell 1
  have d2:=kp5.cell 2
  have d3:=kp5.cell 3
  simp only[gZ0,gZ1] at c0 d0 d1 d2 d3
  have HB5:=mkHid hb5
  clear kp5 kg5 hb5
  by_cases h1:vn=1
  ·have h1':((vn:Int)==1)=true:=by rw[beq_iff_eq];omega
   have HV1:=mkHid h1
   clear h1
   go_upto_region 9 with(go_at_call 70;refine(hLn _).mono ?_;rintro r6 y6 ⟨rfl,hb6⟩)
   obtain⟨z1,z2,z3⟩:=HF3.out.1.untop (by omega)
   have hB36:=HB5.out.trans (hb6.mono HB5.out.size)
   have kp6:=HB3.out.1.on hB36
   have kg6:=HB3.out.2.on hB36
   have c0:=kg6.cell 0
   have d0:=kp6.cell 0
   have d1:=kp6.cell 1
   have d2:=kp6.cell 2
   have d3:=kp6.cell 3
   simp only[gZ0,gZ1] at c0 d0 d1 d2 d3
   have hA6:=SpAx.keep HA3.out (KeepT.of_below hB36)
   have hGv:=pgGive y6 S J P base m t3 j s 1 (.slice ea 0 ec) (.slice va vn vc) hA6 HF3.out.1.tk.fit (by omega) z1 ⟨_,_,_,rfl⟩ ⟨_,_,_,rfl⟩
   unfold gT pgc at hGv
   have hGv:Calls Tryz.prog 71 #[.agg #[.pointer (some ⟨S,0,none⟩)],.agg #[.int .i64 (s:Int),.int .i64 1,.slice ea 0 ec,.slice va vn vc]] y6 fun e w'=>e=.returned (.tuple #[])∧SpAx w' S J P base (gvT t3 j (s:Int)) j∧KS base y6 w':=hGv
   have HZ:=mkHid (And.intro z2 z3)
   have HK6:=mkHid (HK3.out.trans (KS.of_below hB36 (spcOK.lo HA3.out)))
   have HP6:=mkHid kp6
   have HO6:=mkHid (own_keepO (us:=[3]) (KeepO.of_below hB36) HO3.out (by decide))
   clear kp6 kg6 hb6 hB36 z1 z2 z3 hA6 hLn
   obtain⟨p1,hQ1⟩:∃p1,Q3=[p1]:=by
    have:=HV1.out
    have h2:=HVn.out
    exact List.length_eq_one_iff.1 (by omega)
   go_upto_region 10 with(go_at_call 71;refine hGv.mono ?_;rintro r7 y7 ⟨rfl,hA7,hk7⟩)
   have kp7:=hk7.o.blk HP6.out (by decide)
   have hO7:OwnZ y7 Y0.heap.size (.slice va vn vc) ((Q3.map (·.1)).map Int.ofNat):=own_keepO (us:=[3]) (hk7.o.less (by decide)) HO6.out (by decide)
   obtain⟨gg,hvg,hcell⟩:∃gg,va=some ⟨gg,0,none⟩∧y7.cell? ⟨gg,0,none⟩=some (.int .i64 (p1.1:Int)):=by
    rw[hQ1] at hO7
    obtain⟨a',c',e1,_,_,h3⟩:=OwnRw.form okI13 hO7.c
    injection e1 with e1 _ _
    obtain⟨gg,h4,_,_,h5⟩:=h3 (by simp)
    refine⟨gg,e1.trans h4,?_⟩
    have:=h5 0 (by simp) 0 (by decide)
    simpa using this
   subst hvg
   have d3:=kp7.cell 3
   simp only[gZ0,gZ1] at d3
   have hv1:(0:Int)<(vn:Int):=by omega
   have hv2:0<vn:=by omega
   have HR7:=mkHid (And.intro hA7 (HK6.out.trans hk7))
   clear hGv hO7 kp7 hA7 hk7
   go_wp2_with fail
   refine bodyPost_ret (results_tmp2 rfl _ _ _) rfl ?_
   have hFl:FR (gvT t3 j (s:Int)) j m [(p1.1,p1.2)] []:=by have:=HZ.out.1;rw[hQ1] at this;exact this
   have hlf:=hFl.leaf
   have hen:delE13 (entsP Q) key=p1.2:=by rw[←HF3.out.2.2,hQ1,entsP,entsP,List.append_nil]
   rw[←hen] at hlf
   exact⟨⟨_,p1.1,_,by rw[hh];rfl,HR7.out.1,hlf.2,hlf.1,by have:=HZ.out.2;omega⟩,HR7.out.2⟩
  ·have h1':((vn:Int)==1)=false:=by rw[beq_eq_false_iff_ne];omega
   have HV1:=mkHid h1
   clear h1
   go_wp2_with (go_at_call 70;refine(hLn _).mono ?_;rintro r6 y6 ⟨rfl,hb6⟩;have HB6:=mkHid hb6;clear hb6)
   refine bodyPost_ret (results_tmp2 rfl _ _ _) rfl ?_
   have hB36:=HB5.out.trans (HB6.out.mono HB5.out.size)
   have hso3:SrtE (entsP Q3):=by rw[HF3.out.2.2];exact HTk.out.2.2.del key
   have hn:=HF3.out.1.node hso3 (by have:=HV1.out;have:=HVn.out;omega) (by omega) HF3.out.2.1
   rw[HF3.out.2.2] at hn
   exact⟨⟨t3,s,_,by rw[hh];rfl,SpAx.keep HA3.out (KeepT.of_below hB36),hn.2,hn.1,by omega⟩,HK3.out.trans (KS.of_below hB36 (spcOK.lo HA3.out))⟩
theorem pgRemove (w:World)(S J P base m:Nat)(t:Tl)(j:Jl)(root:Nat)(l:List Et)(SS:List Int)(ka:Option Addr)(kn kc:Nat)(key:List UInt8)(h:SpAx w S J P base t j)(hk:Tk t j m SS)(ht:TR t j root l SS)(hkey:IsB w ka kn kc key)(hroom:t.l.length+6≤48):
  Calls Tryz.prog 47 #[gT S,.int .i64 (root:Int),.slice ka kn kc] w (RemT w S J P base m t j l key):=by
 rcases ht.2 with⟨rfl,rfl,rfl⟩|⟨rfl,hL⟩|⟨Q,hN,rfl,rfl⟩
 ·exact pgRemove0 w S J P base m t j ka kn kc key h hk
 ·exact pgRemoveL w S J P base m t j root l ka kn kc key h hk hL hkey hroom
 ·exact pgRemoveN w S J P base m t j root Q ka kn kc key h hk hN ht.1 hkey hroom
structure DvAt (W:World)(N S:Nat)(root:Int)(kv x y:Value):Prop where
 t:Blk W N 26 [.pointer (some ⟨S,0,none⟩)]
 r:Blk W (N+1) 3 [.int .i64 root]
 k:Blk W (N+2) 33 [kv]
 n:Blk W (N+3) 3 [x]
 h:Blk W (N+4) 4 [y]
theorem DvAt.on {W W':World}{N S:Nat}{root:Int}{kv x y:Value}(g:DvAt W N S root kv x y)(hb:Below W.heap.size W W'):DvAt W' N S root kv x y:=⟨g.t.on hb,g.r.on hb,g.k.on hb,g.n.on hb,g.h.on hb⟩
theorem DvAt.ks {W W':World}{N S base:Nat}{root:Int}{kv x y:Value}(g:DvAt W N S root kv x y)(hk:KS base W W'):DvAt W' N S root kv x y:=⟨hk.o.blk g.t (by decide),hk.o.blk g.r (by decide),hk.o.blk g.k (by decide),hk.o.blk g.n (by decide),hk.o.blk g.h (by decide)⟩
def DelR (w0:World)(S J P base m N:Nat)(t:Tl)(j:Jl)(l:List Et)(key:List UInt8)(root:Int)(kv:Value)(w':World):Prop :=
 ∃t' root' S',SpAx w' S J P base t' j∧Tk t' j m S'∧TR t' j root' (delE13 l key) S'∧t'.l.length≤t.l.length+5∧DvAt w' N S root kv (.int .i64 ((root':Nat):Int)) (.bool (hasE13 l key))∧Blk w' (N+5) 30 [.int .i64 0]∧KS base w0 w'
theorem codDel1 (w w0:World)(S J P base m N:Nat)(t:Tl)(j:Jl)(root:Nat)(l:List Et)(SS:List Int)(ka:Option Addr)(kn kc:Nat)(key:List UInt8)(h:SpAx w S J P base t j)(hk:Tk t j m SS)(ht:TR t j root l SS)(hkey:IsB w ka kn kc key)(hroom:t.l.length+6≤48)(hK:KS base w0 w)(hN:w0.heap.size≤N)(hlo0:base≤w0.heap.size)
  (hg:DvAt w N S (root:Int) (.slice ka kn kc) (.int .i64 0) (.bool false)) (hE:Blk w (N+5) 30 [.int .i64 0]):
  Calls Tryz.prog 46 #[.pointer (some ⟨N,0,none⟩),.pointer (some ⟨N+1,0,none⟩),.pointer (some ⟨N+2,0,none⟩),.pointer (some ⟨N+3,0,none⟩),.pointer (some ⟨N+4,0,none⟩)] w fun r w'=>r=.returned (.tuple #[])∧DelR w0 S J P base m N t j l key (root:Int) (.slice ka kn kc) w':=by
 have HG:=pgRemove w S J P base m t j root l SS ka kn kc key h hk ht hkey hroom
 unfold gT RemT at HG
 have c0:w.cell? ⟨N,0,none⟩=some (.pointer (some ⟨S,0,none⟩)):=hg.t.cell 0
 have c1:w.cell? ⟨N+1,0,none⟩=some (.int .i64 (root:Int)):=hg.r.cell 0
 have c2:w.cell? ⟨N+2,0,none⟩=some (.slice ka kn kc):=hg.k.cell 0
 have HGv:=mkHid hg
 have HE:=mkHid hE
 have HK:=mkHid hK
 clear h hk ht hkey hg hE hK
 unfold DelR
 generalize hasE13 l key=hh at *
 go_enter Tryz.func46,Tryz.ntmps46
 go_wp2_with fail
 refine HG.mono ?_
 rintro r y1 ⟨⟨t',root',S',rfl,hA1,hk1,ht1,hr1⟩,hks1⟩
 have g1:=HGv.out.ks hks1
 have e1:=hks1.o.blk HE.out (by decide)
 have a3:=g1.n.cell 0
 have a4:=g1.h.cell 0
 simp only[List.getElem?_cons_zero] at a3 a4
 have f3:=g1.n.frozen 0
 have f4:=g1.h.frozen 0
 have HG1:=mkHid g1
 have HE1:=mkHid e1
 have HA1:=mkHid (And.intro hA1 (And.intro hk1 ht1))
 have HK1:=mkHid (HK.out.trans hks1)
 clear HG hks1 g1 e1 hA1 hk1 ht1 HK
 go_wp2_with fail
 go_end0
 have h4:Blk (y1.setCell ⟨N+3,0,none⟩ (.int .i64 ((root':Nat):Int))) (N+4) 4 [.bool false]:=HG1.out.h.other _ _ (by show N+4≠N+3;omega)
 refine⟨rfl,t',root',S',HA1.out.1.keep13 (((KeepT.refl _ y1).set HG1.out.n (by decide) 0 _).set h4 (by decide) 0 _),HA1.out.2.1,HA1.out.2.2,hr1,⟨(HG1.out.t.other _ _ (by show N≠N+3;omega)).other _ _ (by show N≠N+4;omega),(HG1.out.r.other _ _ (by show N+1≠N+3;omega)).other _ _ (by show N+1≠N+4;omega),(HG1.out.k.other _ _ (by show N+2≠N+3;omega)).other _ _ (by show N+2≠N+4;omega),(HG1.out.n.set 0 _).other _ _ (by show N+3≠N+4;omega),h4.set 0 _⟩,(HE1.out.other _ _ (by show N+5≠N+3;omega)).other _ _ (by show N+5≠N+4;omega),?_⟩
 exact HK1.out.over ((((Below.refl _ y1).mono HK1.out.o.size).setCell (p:=⟨N+3,0,none⟩) (by show w0.heap.size≤N+3;omega) _).setCell (p:=⟨N+4,0,none⟩) (by show w0.heap.size≤N+4;omega) _) hlo0
theorem del_begin (w:World)(S root:Nat)(kv:Value):∃Y0,Y0=((((w.alloc (.cells #[.pointer (some ⟨S,0,none⟩)] 26)).alloc (.cells #[.int .i64 (root:Int)] 3)).alloc (.cells #[kv] 33)).alloc (.cells #[.int .i64 0] 3)).alloc (.cells #[.bool false] 4)∧Below w.heap.size w Y0∧DvAt Y0 w.heap.size S (root:Int) kv (.int .i64 0) (.bool false)∧Y0.heap.size=w.heap.size+5:=by
 refine⟨_,rfl,(((((Below.refl _ w).alloc (Nat.le_refl _) _).alloc (by simp) _).alloc (by simp;omega) _).alloc (by simp;omega) _).alloc (by simp;omega) _,?_,by simp⟩
 exact⟨((((Blk.newAt w w.heap.size 26 _ [.pointer (some ⟨S,0,none⟩)] rfl rfl).alloc _).alloc _).alloc _).alloc _,(((Blk.newAt _ (w.heap.size+1) 3 _ [.int .i64 (root:Int)] (by simp) rfl).alloc _).alloc _).alloc _,((Blk.newAt _ (w.heap.size+2) 33 _ [kv] (by simp) rfl).alloc _).alloc _,(Blk.newAt _ (w.heap.size+3) 3 _ [.int .i64 0] (by simp) rfl).alloc _,Blk.newAt _ (w.heap.size+4) 4 _ [.bool false] (by simp) rfl⟩
theorem codDel13 (w:World)(S J P base m:Nat)(t:Tl)(j:Jl)(root:Nat)(l:List Et)(SS:List Int)(ka:Option Addr)(kn kc:Nat)(key:List UInt8)(h:SpAx w S J P base t j)(hk:Tk t j m SS)(ht:TR t j root l SS)(hkey:IsB w ka kn kc key)(hok:keyOk key=true)(hroom:t.l.length+6≤48):
  Calls Tryz.prog 16 #[.pointer (some ⟨S,0,none⟩),.int .i64 (root:Int),.slice ka kn kc] w fun r w'=>(∃t' root' S',r=.returned (.tuple #[.int .i64 ((root':Nat):Int),.bool (hasE13 l key),.int .i64 0])∧SpAx w' S J P base t' j∧Tk t' j m S'∧TR t' j root' (delE13 l key) S'∧t'.l.length≤t.l.length+5)∧KS base w w':=by
 have hlo:=spcOK.lo h
 have hkn:=hkey.len_eq
 have HIK:=codIsKey ka kn kc
 have hko:decide (1≤kn∧kn≤100)=true:=by unfold keyOk at hok;rw[hkn] at hok;exact hok
 rw[hko] at HIK
 have hmf:∀(fn:Fn) (first cap:Array Value) (w:World),(Instr.makeFunc fn first cap).run Tryz.prog w=.ok (.func fn first cap) w:=fun _ _ _ _=>rfl
 obtain⟨Y0,hY0,hB0,hG0,hs0⟩:=del_begin w S root (.slice ka kn kc)
 have hA:=(Below.refl _ Y0).alloc (Nat.le_refl _) (.cells #[.int .i64 0] 30)
 have hBA:=hB0.trans (hA.mono hB0.size)
 have hEA:Blk (Y0.alloc (.cells #[.int .i64 0] 30)) (w.heap.size+5) 30 [.int .i64 0]:=Blk.newAt Y0 (w.heap.size+5) 30 _ [.int .i64 0] hs0 rfl
 have HGd:=guardYes 46 #[.pointer (some ⟨w.heap.size,0,none⟩),.pointer (some ⟨w.heap.size+1,0,none⟩),.pointer (some ⟨w.heap.size+2,0,none⟩),.pointer (some ⟨w.heap.size+3,0,none⟩),.pointer (some ⟨w.heap.size+4,0,none⟩)] Y0
  (DelR w S J P base m w.heap.size t j l key (root:Int) (.slice ka kn kc))
  (fun W ⟨_,_,_,_,_,_,_,_,hE,_⟩=>by rw[hs0];exact hE) (fun args W=>by simp[callFunc,Tryz.func46];rfl)
  (codDel1 _ w S J P base m w.heap.size t j root l SS ka kn kc key (SpAx.keep h (KeepT.of_below hBA)) hk ht (hkey.below hBA rfl) hroom (KS.of_below hBA hlo) (Nat.le_refl _) hlo (hG0.on hA) hEA)
 have c0:=hG0.t.cell 0
 have c2:=hG0.k.cell 0
 have c3:=hG0.n.cell 0
 have c4:=hG0.h.cell 0
 simp only[List.getElem?_cons_zero] at c0 c2 c3 c4
 have f3:=hG0.n.frozen 0
 have f4:=hG0.h.frozen 0
 have hn34:w.heap.size+3≠w.heap.size+4:=by omega
 have hY0':=hY0.symm
 clear h hk ht hkey hB0 hG0 hY0 hA hBA hEA hok hkn hko
 go_enter Tryz.func16,Tryz.ntmps16
 go_wp2_with (go_at_call 39;refine(HIK _).mono ?_;rintro e w8 ⟨rfl,hw8⟩;rw[hw8];clear hw8)
 refine HGd.mono ?_
 rintro r y1 ⟨w1,⟨t',root',S',hA1,hk1,ht1,hr1,hg1,hE1,hks1⟩,rfl,hy1⟩
 rw[hs0] at hy1
 have kN:Blk y1 (w.heap.size+3) 3 [.int .i64 ((root':Nat):Int)]:=by rw[hy1];exact hg1.n.other _ _ (by show w.heap.size+3≠w.heap.size+5;omega)
 have kH:Blk y1 (w.heap.size+4) 4 [.bool (hasE13 l key)]:=by rw[hy1];exact hg1.h.other _ _ (by show w.heap.size+4≠w.heap.size+5;omega)
 have hA2:SpAx y1 S J P base t' j:=by rw[hy1];exact hA1.keep13 ((KeepT.refl _ w1).set hE1 (by decide) 0 _)
 have hk2:KS base w y1:=by rw[hy1];exact hks1.over (((Below.refl _ w1).mono hks1.o.size).setCell (p:=⟨w.heap.size+5,0,none⟩) (by show w.heap.size≤w.heap.size+5;omega) _) hlo
 have HR:=mkHid (And.intro hA2 (And.intro hk1 (And.intro ht1 (And.intro hr1 hk2))))
 have HKN:=mkHid kN
 have HKH:=mkHid kH
 have d3:=kN.cell 0
 have q3:=kN.frozen 0
 have d4:=kH.cell 0
 have q4:=kH.frozen 0
 simp only[List.getElem?_cons_zero] at d3 d4
 clear HGd hg1 hE1 hks1 hA1 hk1 ht1 hr1 hA2 hk2 kN kH hy1 c0 c2 c3 c4 f3 f4
 generalize hhe:hasE13 l key=hh at *
 go_wp2_with fail
 go_region
 all_goals
  go_wp2
 have kH2:Blk (y1.setCell ⟨w.heap.size+3,0,none⟩ (.int .i64 ((root':Nat):Int))) (w.heap.size+4) 4 [.bool hh]:=HKH.out.other _ _ (Ne.symm hn34)
 have kN3:=(HKN.out.set 0 (.int .i64 ((root':Nat):Int))).other ⟨w.heap.size+4,0,none⟩ (.bool hh) hn34
 have kH3:=kH2.set 0 (.bool hh)
 have kN4:Blk ((y1.setCell ⟨w.heap.size+3,0,none⟩ (.int .i64 ((root':Nat):Int))).setCell ⟨w.heap.size+4,0,none⟩ (.bool hh)).drew (w.heap.size+3) 3 [.int .i64 ((root':Nat):Int)]:=kN3
 have kH4:Blk ((y1.setCell ⟨w.heap.size+3,0,none⟩ (.int .i64 ((root':Nat):Int))).setCell ⟨w.heap.size+4,0,none⟩ (.bool hh)).drew (w.heap.size+4) 4 [.bool hh]:=kH3
 refine bodyPost_ret (results_cct (P:=Tryz.prog) rfl _ _ (w.heap.size+3) (w.heap.size+4) _ _ rfl (load_in13 _ _ _ kN4) rfl (load_bo13 _ _ _ kH4)) rfl ?_
 obtain⟨hA2,hk1,ht1,hr1,hk2⟩:=HR.out
 have hT:KeepT T13 y1 ((y1.setCell ⟨w.heap.size+3,0,none⟩ (.int .i64 ((root':Nat):Int))).setCell ⟨w.heap.size+4,0,none⟩ (.bool hh)):=((KeepT.refl _ y1).set HKN.out (by decide) 0 _).set kH2 (by decide) 0 _
 have hB:=((((Below.refl _ y1).mono hk2.o.size).setCell (p:=⟨w.heap.size+3,0,none⟩) (by show w.heap.size≤w.heap.size+3;omega) (.int .i64 ((root':Nat):Int))).setCell (p:=⟨w.heap.size+4,0,none⟩) (by show w.heap.size≤w.heap.size+4;omega) (.bool hh)).drew
 exact⟨⟨t',root',S',by rw[hhe];rfl,SpAx.keep (hA2.keep13 hT) (KeepT.of_below (Below.drew (Below.refl _ _))),hk1,ht1,hr1⟩,hk2.over hB hlo⟩
end Go.Proofs.YtpecobmfabmpkaaGreatDoor
