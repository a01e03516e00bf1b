/- Bl6 Tr3 Tr4 Tr5 Tr6 Tr7 -/
import Derived.Test.YtpecobmfabmpkaaGreatDoorM6
set_option maxRecDepth 20000
set_option maxHeartbeats 4000000
namespace Go.Proofs.YtpecobmfabmpkaaGreatDoor
section
open Go.RowKit
theorem refLess13 (x y:List UInt8)(a b:Option Addr)(n c m d:Nat)(w:World)(h1:IsB w a n c x)(h2:IsB w b m d y):
  Calls Tryz.prog 30 #[.slice a n c,.slice b m d] w fun e w'=>e=.returned (.bool (Op.bytesLess x y))∧w'=w:=by
 have v1:=conv_isB _ _ _ _ _ h1
 have v2:=conv_isB _ _ _ _ _ h2
 have HV:Hid (Op.bytesLess (⟨x.toArray⟩:ByteArray).toList (⟨y.toArray⟩:ByteArray).toList=Op.bytesLess x y):=by
  unfold Hid
  have e:∀z:List UInt8,(⟨z.toArray⟩:ByteArray).toList=z:=fun z=>by rw[ByteArray.toList_eq]
  rw[e,e]
 clear h1 h2
 generalize (⟨x.toArray⟩:ByteArray)=s1 at *
 generalize (⟨y.toArray⟩:ByteArray)=s2 at *
 go_enter Tryz.func30,Tryz.ntmps30
 go_wp2
 go_ret
 exact⟨ret_b HV.out,rfl⟩
theorem key_yes {k:List UInt8}(h1:1≤k.length)(h2:k.length≤100):keyOk k=true:=decide_eq_true ⟨h1,h2⟩
theorem key_no {k:List UInt8}(h:¬(1≤k.length∧k.length≤100)):keyOk k=false:=decide_eq_false h
theorem refKey13 (k:List UInt8)(a:Option Addr)(c:Nat)(w:World)(hc:k.length≤9223372036854775807):
  Calls Tryz.prog 17 #[.slice a k.length c] w fun e w'=>e=.returned (.bool (keyOk k))∧w'=w:=by
 by_cases h1:1≤k.length
 ·by_cases h2:k.length≤100
  ·have HV:=mkHid (key_yes h1 h2)
   have g1:(1:Int)≤(k.length:Int):=by omega
   have g2:(k.length:Int)≤100:=by omega
   generalize k.length=n at *
   go_enter Tryz.func17,Tryz.ntmps17
   go_wp2
   go_ret
   exact⟨ret_b HV.out.symm,rfl⟩
  ·have HV:=mkHid (key_no (fun h=>h2 h.2))
   have g1:(1:Int)≤(k.length:Int):=by omega
   have g2:¬(k.length:Int)≤100:=by omega
   generalize k.length=n at *
   go_enter Tryz.func17,Tryz.ntmps17
   go_wp2
   go_ret
   exact⟨ret_b HV.out.symm,rfl⟩
 ·have HV:=mkHid (key_no (fun h=>h1 h.1))
  have g1:¬(1:Int)≤(k.length:Int):=by omega
  generalize k.length=n at *
  go_enter Tryz.func17,Tryz.ntmps17
  go_wp2
  go_ret
  exact⟨ret_b HV.out.symm,rfl⟩
theorem item_yes {k v:List UInt8}(h1:keyOk k=true)(h2:k.length+v.length≤240):itemOk k v=true:=by unfold itemOk;rw[h1,decide_eq_true h2];rfl
theorem item_no1 {k v:List UInt8}(h1:keyOk k=false):itemOk k v=false:=by unfold itemOk;rw[h1];rfl
theorem item_no2 {k v:List UInt8}(h2:¬k.length+v.length≤240):itemOk k v=false:=by unfold itemOk;rw[decide_eq_false h2];simp
theorem refItem13 (k v:List UInt8)(a b:Option Addr)(c d:Nat)(w:World)(hk:k.length≤4611686018427387904)(hv:v.length≤4611686018427387903):
  Calls Tryz.prog 14 #[.slice a k.length c,.slice b v.length d] w fun e w'=>e=.returned (.bool (itemOk k v))∧w'=w:=by
 have HK:=fun W=>refKey13 k a c W (by omega)
 cases hkey:keyOk k with
 | false =>
  have HV:=mkHid (item_no1 (v:=v) hkey)
  rw[hkey] at HK
  generalize k.length=n at *
  generalize v.length=m at *
  go_enter Tryz.func14,Tryz.ntmps14
  go_wp2_with (first|(go_at_call 17;refine(HK _).mono ?_;rintro e w1 ⟨rfl,rfl⟩))
  go_ret
  exact⟨ret_b HV.out.symm,rfl⟩
 | true =>
  rw[hkey] at HK
  by_cases h2:k.length+v.length≤240
  ·have HV:=mkHid (item_yes hkey h2)
   have g2:(k.length:Int)+(v.length:Int)≤240:=by omega
   generalize k.length=n at *
   generalize v.length=m at *
   go_enter Tryz.func14,Tryz.ntmps14
   go_wp2_with (first|(go_at_call 17;refine(HK _).mono ?_;rintro e w1 ⟨rfl,rfl⟩))
   go_ret
   exact⟨ret_b HV.out.symm,rfl⟩
  ·have HV:=mkHid (item_no2 h2)
   have g2:¬(k.length:Int)+(v.length:Int)≤240:=by omega
   generalize k.length=n at *
   generalize v.length=m at *
   go_enter Tryz.func14,Tryz.ntmps14
   go_wp2_with (first|(go_at_call 17;refine(HK _).mono ?_;rintro e w1 ⟨rfl,rfl⟩))
   go_ret
   exact⟨ret_b ((decide_eq_false (by omega)).trans HV.out.symm),rfl⟩
structure RowE (w:World)(base:Nat)(v:Value)(l:List Eq3):Prop where
 own:OwnE w base v l
 is_:∀x∈l,IsE w x.1 x.2
def plE (l:List Eq3):List Et:=l.map Prod.fst
theorem plE_len (l:List Eq3):(plE l).length=l.length:=List.length_map ..
theorem plE_at (l:List Eq3)(k:Nat)(hk:k<l.length):(plE l).getD k et0=(l[k]).1:=by
 unfold plE
 rw[List.getD_eq_getElem?_getD,List.getElem?_map,List.getElem?_eq_getElem hk]
 rfl
theorem RowE.on {w w':World}{base:Nat}{v:Value}{l:List Eq3}(h:RowE w base v l)(hb:Below w.heap.size w w'):RowE w' base v l:=⟨h.own.on hb,fun x hx=>(h.is_ x hx).below hb⟩
theorem RowE.len {w:World}{base n cap:Nat}{a:Option Addr}{l:List Eq3}(h:RowE w base (.slice a n cap) l):l.length=n:=by
 obtain⟨_,_,e,_⟩:=h.own.form
 injection e with e1 e2 e3
 exact e2.symm
theorem RowE.at_ {w:World}{base n cap:Nat}{a:Option Addr}{l:List Eq3}(h:RowE w base (.slice a n cap) l)(k:Nat)(hk:k<n):∃(g:Nat) (x:Eq3),a=some ⟨g,0,none⟩∧(plE l).getD k et0=x.1∧l[k]?=some x∧IsE w x.1 x.2 ∧
  w.cell? ⟨g,k * 2,none⟩=some (.slice x.2.a x.1.k.length x.2.c)∧w.cell? ⟨g,k * 2+1,none⟩=some (.slice x.2.b x.1.v.length x.2.d):=by
 have hk':k<l.length:=by rw[h.len];exact hk
 obtain⟨g,e,_,_,hc⟩:=h.own.at_ k hk'
 exact⟨g,l[k],e,plE_at l k hk',List.getElem?_eq_getElem hk',h.is_ _ (List.getElem_mem hk'),hc 0 (by omega),hc 1 (by omega)⟩
theorem refAt13 (l:List Eq3)(key:List UInt8)(a b:Option Addr)(n cap m d base:Nat)(w:World)(h:RowE w base (.slice a n cap) l)(hb:IsB w b m d key)(hn:n≤4096):
  Calls Tryz.prog 44 #[.slice a n cap,.slice b m d] w fun e w'=>e=.returned (.int .i64 (atE (plE l) key:Nat))∧w'=w:=by
 have HL:=mkHid h.len
 have H:=mkHid h
 have HB:=mkHid hb
 clear h hb
 go_enter Tryz.func44,Tryz.ntmps44
 go_wp2_with fail
 go_loopw [5] (fun i wr=>wr=w∧∃k:Nat,k≤n∧i=.int .i64 (k:Int)∧Hid (∀j,j<k→Op.bytesLess ((plE l).getD j et0).k key=true)) (fun i _=>n-(Go.RowKit.intOf i).toNat)
 case atStart=>exact⟨rfl,0,Nat.zero_le _,rfl,fun j hj=>absurd hj (Nat.not_lt_zero _)⟩
 case round =>
  obtain⟨rfl,k,hk,rfl,HA⟩:=hrel
  by_cases hlt:k<n
  ·obtain⟨g,x,rfl,hx,_,hxi,c0,_⟩:=H.out.at_ k hlt
   have hb0:(0:Int)≤(k:Int):=by omega
   have hb1:(k:Int)<(n:Int):=by omega
   have HLs:=fun W (e:W=wr)=>refLess13 x.1.k key x.2.a b x.1.k.length x.2.c m d W (by rw[e];exact hxi.k) (by rw[e];exact HB.out)
   cases hq:Op.bytesLess x.1.k key with
   | true =>
    have HA2:Hid (∀j,j<k+1→Op.bytesLess ((plE l).getD j et0).k key=true):=fun j hj=>by
     by_cases e:j=k
     ·rw[e,hx];exact hq
     ·exact HA.out j (by omega)
    rw[hq] at HLs
    clear hx hxi hq HA
    generalize x.1.k.length=xn at *
    go_wp2_with (first|(go_at_call 30;refine(HLs _ rfl).mono ?_;rintro e w1 ⟨rfl,rfl⟩))
    go_roundw
    case rel=>exact⟨trivial,k+1,by omega,by go_num,HA2⟩
    case measure=>simp[Go.RowKit.intOf];omega
   | false =>
    have HV:Hid (k=atE (plE l) key):=atE_uniq (by rw[plE_len,HL.out];exact hk) HA.out (fun _=>by rw[hx];exact hq)
    rw[hq] at HLs
    clear hx hxi hq HA
    generalize x.1.k.length=xn at *
    go_wp2_with (first|(go_at_call 30;refine(HLs _ rfl).mono ?_;rintro e w1 ⟨rfl,rfl⟩))
    go_ret
    exact⟨ret_i (by rw[←HV.out]),rfl⟩
  ·have hge:¬(k:Int)<(n:Int):=by omega
   have HV:Hid (k=atE (plE l) key):=atE_uniq (by rw[plE_len,HL.out];exact hk) HA.out (fun h=>by rw[plE_len,HL.out] at h;exact absurd h hlt)
   go_wp2_with fail
   go_ret
   exact⟨ret_i (by rw[←HV.out]),rfl⟩
theorem is_no {l:List Et}{i:Nat}{key:List UInt8}(h:¬i<l.length):isE l i key=false:=by unfold isE;rw[decide_eq_false h];rfl
theorem is_eq {l:List Et}{i:Nat}{key:List UInt8}(h:i<l.length):isE l i key=((l.getD i et0).k==key):=by unfold isE;rw[decide_eq_true h];rfl
theorem refIs13 (l:List Eq3)(i:Nat)(key:List UInt8)(a b:Option Addr)(n cap m d base:Nat)(w:World)(h:RowE w base (.slice a n cap) l)(hb:IsB w b m d key):
  Calls Tryz.prog 45 #[.slice a n cap,.int .i64 (i:Int),.slice b m d] w fun e w'=>e=.returned (.bool (isE (plE l) i key))∧Below w.heap.size w w':=by
 have hl:(plE l).length=n:=(plE_len l).trans h.len
 by_cases hlt:i<n
 ·obtain⟨g,x,rfl,hx,_,hxi,c0,_⟩:=h.at_ i hlt
  have hb0:(0:Int)≤(i:Int):=by omega
  have hd:decide ((i:Int)<(n:Int))=true:=decide_eq_true (by omega)
  have v1:=fun z=>conv_isB (w.drewN z) _ _ _ _ (hxi.k.below (bel_drewN (Below.refl _ _) z) rfl)
  have v2:=fun z=>conv_isB (w.drewN z) _ _ _ _ (hb.below (bel_drewN (Below.refl _ _) z) rfl)
  have HV:Hid (((⟨x.1.k.toArray⟩:ByteArray).toList==(⟨key.toArray⟩:ByteArray).toList)=isE (plE l) i key):=by
   unfold Hid
   rw[is_eq (by rw[hl];exact hlt),hx,ByteArray.toList_eq,ByteArray.toList_eq]
  clear h hb hxi hx hl
  generalize (⟨x.1.k.toArray⟩:ByteArray)=s1 at *
  generalize (⟨key.toArray⟩:ByteArray)=s2 at *
  generalize x.1.k.length=xn at *
  go_enter Tryz.func45,Tryz.ntmps45
  go_wp2_with fail
  go_quiet (fail)
  go_wp2_with fail
  go_ret
  exact⟨ret_b HV.out,bel_drewN (Below.refl _ _) _⟩
 ·have hd:decide ((i:Int)<(n:Int))=false:=decide_eq_false (by omega)
  have HV:Hid (false=isE (plE l) i key):=(is_no (by rw[hl];exact hlt)).symm
  clear h hb hl
  go_enter Tryz.func45,Tryz.ntmps45
  go_wp2_with fail
  go_quiet (fail)
  go_wp2_with fail
  go_ret
  exact⟨ret_b HV.out,bel_drewN (Below.refl _ _) _⟩
theorem refGet13 (l:List Eq3)(key:List UInt8)(a b:Option Addr)(n cap m d base:Nat)(w:World)(h:RowE w base (.slice a n cap) l)(hb:IsB w b m d key)(hn:n≤4096):
  Calls Tryz.prog 20 #[.slice a n cap,.slice b m d] w fun e w'=>(∃v c,e=.returned (.tuple #[.slice v (getE13 (plE l) key).length c,.bool (isE (plE l) (atE (plE l) key) key)])∧IsB w' v (getE13 (plE l) key).length c (getE13 (plE l) key))∧Below w.heap.size w w':=by
 have hl:(plE l).length=n:=(plE_len l).trans h.len
 have hat:atE (plE l) key≤n:=by rw[←hl];exact atE_le _ _
 have HAt:=refAt13 l key a b n cap m d base w h hb hn
 have HIs:=refIs13 l (atE (plE l) key) key a b n cap m d base w h hb
 generalize hA:atE (plE l) key=A at *
 cases hq:isE (plE l) A key with
 | false =>
  have HG:Hid (getE13 (plE l) key=[]):=by unfold Hid getE13;rw[hA,hq];rfl
  rw[hq] at HIs
  clear h hb hl hA hq
  go_enter Tryz.func20,Tryz.ntmps20
  go_wp2_with (first|(go_at_call 44;refine HAt.mono ?_;rintro e w1 ⟨rfl,rfl⟩)|(go_at_call 45;refine HIs.mono ?_;rintro e w2 ⟨rfl,hb2⟩))
  go_ret2
  rw[HG.out]
  exact⟨⟨none,0,rfl,isB_none _⟩,hb2⟩
 | true =>
  have hlt:A<n:=by
   refine Classical.byContradiction fun hc=>?_
   rw[is_no (by rw[hl];exact hc)] at hq
   cases hq
  obtain⟨g,x,rfl,hx,_,hxi,_,c1⟩:=h.at_ A hlt
  have hb0:(0:Int)≤(A:Int):=by omega
  have hb1:(A:Int)<(n:Int):=by omega
  have HG:Hid (getE13 (plE l) key=x.1.v):=by unfold Hid getE13;rw[hA,hq,if_pos rfl,hx]
  rw[hq] at HIs
  have HX:=mkHid hxi.v
  have HC:=mkHid c1
  clear h hb hl hA hq hxi c1 hx
  go_enter Tryz.func20,Tryz.ntmps20
  go_wp2_with (first|(go_at_call 44;refine HAt.mono ?_;rintro e w1 ⟨rfl,rfl⟩)|(go_at_call 45;refine HIs.mono ?_;rintro e w2 ⟨rfl,hb2⟩;have c1:=(hb2.cell (cell_lt HC.out)).trans HC.out))
  go_ret2
  rw[HG.out]
  exact⟨⟨_,_,rfl,HX.out.below hb2 rfl⟩,hb2⟩
theorem pl_del {l:List Eq3}{key:List UInt8}(h:isE (plE l) (atE (plE l) key) key=true):plE (l.take (atE (plE l) key)++l.drop (atE (plE l) key+1))=delE13 (plE l) key:=by
 unfold delE13
 rw[if_pos h]
 unfold plE
 rw[List.map_append,List.map_take,List.map_drop]
theorem refDelete13 (l:List Eq3)(key:List UInt8)(a b:Option Addr)(n cap m d base:Nat)(w:World)(h:RowE w base (.slice a n cap) l)(hb:IsB w b m d key)(hn:n≤4096)(hw:base≤w.heap.size):
  Calls Tryz.prog 18 #[.slice a n cap,.slice b m d] w fun e w'=>(∃v l',e=.returned (.tuple #[v,.bool (isE (plE l) (atE (plE l) key) key)])∧OwnE w' base v l'∧plE l'=delE13 (plE l) key∧∀x∈l',x∈l)∧Below w.heap.size w w':=by
 have hl:(plE l).length=n:=(plE_len l).trans h.len
 have hat:atE (plE l) key≤n:=by rw[←hl];exact atE_le _ _
 have HAt:=refAt13 l key a b n cap m d base w h hb hn
 have HIs:=refIs13 l (atE (plE l) key) key a b n cap m d base w h hb
 have HDel:=mkHid (pl_del (l:=l) (key:=key))
 have HLn:=mkHid h.len
 have HOw:=mkHid h.own
 have HW:=mkHid hw
 generalize hA:atE (plE l) key=A at *
 cases hq:isE (plE l) A key with
 | false =>
  have HG:Hid (plE l=delE13 (plE l) key):=by unfold Hid delE13;rw[hA,hq];rfl
  rw[hq] at HIs
  clear h hb hl hA hq HDel
  go_enter Tryz.func18,Tryz.ntmps18
  go_wp2_with (first|(go_at_call 44;refine HAt.mono ?_;rintro e w1 ⟨rfl,rfl⟩)|(go_at_call 45;refine HIs.mono ?_;rintro e w2 ⟨rfl,hb2⟩))
  go_ret2
  exact⟨⟨_,l,rfl,HOw.out.on hb2,HG.out,fun x hx=>hx⟩,hb2⟩
 | true =>
  have hlt:A<n:=by
   refine Classical.byContradiction fun hc=>?_
   rw[is_no (by rw[hl];exact hc)] at hq
   cases hq
  obtain⟨g,rfl⟩:∃g,a=some ⟨g,0,none⟩:=by obtain⟨g,_,e,_⟩:=h.at_ A hlt;exact⟨g,e⟩
  have HDe:=mkHid (HDel.out hq)
  rw[hq] at HIs
  clear h hb hl hA hq HDel
  go_enter Tryz.func18,Tryz.ntmps18
  go_upto_region 4 with(first|(go_at_call 44;refine HAt.mono ?_;rintro e w1 ⟨rfl,rfl⟩)|(go_at_call 45;refine HIs.mono ?_;rintro e Z ⟨rfl,hb2⟩))
  have HB2:=mkHid hb2
  have HOz:Hid (OwnE Z base (.slice (some ⟨g,0,none⟩) n cap) l):=HOw.out.on hb2
  have hZd:Below Z.heap.size Z Z.drew:=(Below.refl _ Z).drew
  have HSc:Hid (∀W,Below Z.heap.size Z W→SrcE W (some ⟨g,0,none⟩) A cap (l.take A)∧SrcE W (cutE (some ⟨g,0,none⟩) cap (A+1)) (n-(A+1)) (cap-(A+1)) (l.drop (A+1))):=fun W hW=>⟨((HOz.out.on hW).src HLn.out.symm A (by omega)).1,((HOz.out.on hW).src HLn.out.symm (A+1) (by omega)).2⟩
  have hcap:n≤cap:=by
   obtain⟨_,_,e,h1,_⟩:=HOz.out.form
   injection e with e1 e2 e3
   rw[e2,e3];exact h1
  have hs1:=fun W=>slEh (some ⟨g,0,none⟩) n cap A (by omega) (.inr ⟨g,rfl⟩) W
  have hs2:=fun W=>slEl (some ⟨g,0,none⟩) n cap (A+1) (by omega) W
  rw[show ((A+1:Nat):Int)=(A:Int)+1 by omega] at hs2
  have hwp:IntKind.i64.wrap ((A:Int)+1)=(A:Int)+1:=by rw[IntKind.wrap_i64];omega
  generalize cutE (some ⟨g,0,none⟩) cap (A+1)=cu at *
  generalize hcn:n-(A+1)=cn at *
  generalize cap-(A+1)=cc at *
  have HCn:=mkHid hcn
  clear hcn hb2 hcap
  refine wp_region_noPanic ?_
  refine wp_region_held_drew (S:=fun w'=>Below Z.heap.size Z w') (by kernel_rfl) hZd (fun hHeld=>?_)
  clear hZd
  refine takeH (some 17) (i:=1) (v:=?_) rfl (by kernel_rfl) (by kernel_rfl) (by kernel_rfl) (fun _ _ _ h=>h) (Or.inl ⟨by rfl,?_⟩) hHeld rfl ?_
  rotate_left
  ·intro w hSw;go_simp;with_reducible rfl
  (try simp only[Act.put,sIx,sZ0,sZ1])
  refine takeH (some 18) (i:=2) (v:=?_) rfl (by kernel_rfl) (by kernel_rfl) (by kernel_rfl) (fun _ _ _ h=>h) (Or.inl ⟨by rfl,?_⟩) hHeld rfl ?_
  rotate_left
  ·intro w hSw;go_simp;with_reducible rfl
  (try simp only[Act.put,sIx,sZ0,sZ1])
  refine takeH (some 19) (i:=3) (v:=.slice (some ⟨g,0,none⟩) A cap) rfl (by kernel_rfl) (by kernel_rfl) (by kernel_rfl) (fun _ _ _ h=>h) (Or.inl ⟨by rfl,?_⟩) hHeld rfl ?_
  ·intro w hSw;go_simp
  (try simp only[Act.put,sIx,sZ0,sZ1])
  refine takeH (some 21) (i:=5) (v:=?_) rfl (by kernel_rfl) (by kernel_rfl) (by kernel_rfl) (fun _ _ _ h=>h) (Or.inl ⟨by rfl,?_⟩) hHeld rfl ?_
  rotate_left
  ·intro w hSw;go_simp;with_reducible rfl
  (try simp only[Act.put,sIx,sZ0,sZ1])
  refine takeH (some 22) (i:=6) (v:=?_) rfl (by kernel_rfl) (by kernel_rfl) (by kernel_rfl) (fun _ _ _ h=>h) (Or.inl ⟨by rfl,?_⟩) hHeld rfl ?_
  rotate_left
  ·intro w hSw;go_simp;with_reducible rfl
  (try simp only[Act.put,sIx,sZ0,sZ1])
  refine takeH (some 23) (i:=7) (v:=.int .i64 ((A:Int)+1)) rfl (by kernel_rfl) (by kernel_rfl) (by kernel_rfl) (fun _ _ _ h=>h) (Or.inl ⟨by rfl,?_⟩) hHeld rfl ?_
  ·intro w hSw;go_simp
  (try simp only[Act.put,sIx,sZ0,sZ1])
  refine takeH (some 24) (i:=8) (v:=.slice cu cn cc) rfl (by kernel_rfl) (by kernel_rfl) (by kernel_rfl) (fun _ _ _ h=>h) (Or.inl ⟨by rfl,?_⟩) hHeld rfl ?_
  ·intro w hSw;go_simp
  (try simp only[Act.put,sIx,sZ0,sZ1])
  refine wpAnyH_ready (rs:=[0]) (by kernel_rfl) (by simp) (AllReadyH.cons rfl (fun K hK=>?_) AllReadyH.nil)
  go_simp
  have D1:Below Z.heap.size Z (Z.alloc (.cells #[] 91)).drew:=((Below.refl _ Z).alloc (Nat.le_refl _) _).drew
  have KE:OwnE (Z.alloc (.cells #[] 91)).drew Z.heap.size (.slice (some ⟨Z.heap.size,0,none⟩) 0 0) []:=(OwnE.empty Z Z.heap.size (Nat.le_refl _)).on ((Below.refl _ _).drew)
  refine hK.out _ _ D1 (fun hHeld=>?_)
  (try simp only[Act.put,sIx,sZ0,sZ1])
  clear hK K
  generalize (Z.alloc (.cells #[] 91)).drew=V1 at *
  refine wpAnyH_ready (rs:=[4]) (by kernel_rfl) (by simp) (AllReadyH.cons rfl (fun K hK=>?_) AllReadyH.nil)
  refine step_appEs V1 (by rfl) _ _ (by rfl) Z.heap.size _ [] (by rfl) KE (some ⟨g,0,none⟩) A cap (l.take A) (by rfl) (HSc.out V1 D1).1 (by simp only[List.length_nil];omega) D1.size 20 rfl ?_
  intro v2 V2 ho2 hg2
  have D2:=D1.grown hg2 D1.size (fun j hj=>(World.ownsRow.lt KE j hj).1)
  rw[List.nil_append] at ho2
  refine hK.out _ _ D2 (fun hHeld=>?_)
  (try simp only[Act.put,sIx,sZ0,sZ1])
  clear hK K hg2 KE
  refine wpAnyH_ready (rs:=[9]) (by kernel_rfl) (by simp) (AllReadyH.cons rfl (fun K hK=>?_) AllReadyH.nil)
  refine step_appEs V2 (by rfl) _ _ (by rfl) Z.heap.size v2 (l.take A) (by rfl) ho2 cu cn cc (l.drop (A+1)) (by rfl) (HSc.out V2 D2).2 (by rw[List.length_take];have:=HLn.out;have:=HCn.out;omega) D2.size 25 rfl ?_
  intro v3 V3 ho3 hg3
  have D3:=D2.grown hg3 D2.size (fun j hj=>(World.ownsRow.lt ho2 j hj).1)
  refine hK.out _ _ D3 (fun hHeld=>?_)
  (try simp only[Act.put,sIx,sZ0,sZ1])
  clear hK K hg3 ho2
  refine wpAnyH_ready (rs:=[10]) (by kernel_rfl) (by simp) (AllReadyH.cons rfl (fun K hK=>?_) AllReadyH.nil)
  go_simp
  refine hK.out _ _ D3 (fun hHeld=>?_)
  (try simp only[Act.put,sIx,sZ0,sZ1])
  clear hK K
  refine wpAnyH_ready (rs:=[11]) (by kernel_rfl) (by simp) (AllReadyH.cons rfl (fun K hK=>?_) AllReadyH.nil)
  go_simp
  refine hK.out _ _ D3 (fun hHeld=>?_)
  (try simp only[Act.put,sIx,sZ0,sZ1])
  clear hK K
  refine wpAnyH_done (by kernel_rfl) ?_ _
  refine NoPanic.normal ?_
  have HLz:base≤Z.heap.size:=Nat.le_trans HW.out HB2.out.size
  go_wp2_with fail
  go_ret2
  exact⟨⟨_,_,rfl,own_base ho3 HLz,HDe.out,fun x hx=>by rcases List.mem_append.1 hx with h|h;exact List.mem_of_mem_take h;exact List.mem_of_mem_drop h⟩,HB2.out.trans (D3.mono HB2.out.size)⟩
theorem list_appEs {ops:Array Oper}{rest:List Oper}{o:Oper}{a:Act}{Q:Exit→Act→World→Prop}(w:World)(hgd:o.guard=none)(s x:Operand)
  (ho:o.op=.call { callee:=.builtin .append,args:=#[s,x],argTypes:=#[29,29] }) (base:Nat)
  (v:Value) (l:List Eq3) (hs:a.eval s=v) (hown:OwnE w base v l) (sa:Option Addr) (m c:Nat) (news:List Eq3) (hx:a.eval x=.slice sa m c) (hsrc:SrcE w sa m c news)
  (hbytes:l.length+m≤8192) (hbase:base≤w.heap.size)
  (h:∀v' w',OwnE w' base v' (l++news)→w.grownBy w' v.ownBlock→wpList Tryz.prog ops Q rest (a.put o.dst v') w'):
  wpList Tryz.prog ops Q (o::rest) a w:=by
 obtain⟨i0,hi,hz0,hz1,hz2⟩:=info_parts infoE
 cases sa with
 | none =>
  obtain⟨hm,hc⟩:=hsrc.nil rfl
  have hn:news=[]:=List.eq_nil_of_length_eq_zero (by rw[hsrc.len,hm])
  subst hn hm hc
  exact wpList_append_own_none hgd s x 29 ho base 91 i0 2 Tryz.underlying29 hi v l.length (ets l) hs hown hx (h v w (by rw[List.append_nil];exact hown) (World.grownBy.refl _ _))
 | some ad =>
  refine wpList_append_own w hgd s x 29 ho base 91 i0 etZ 2 48 Tryz.underlying29 hi hz0 hz1 hz2 rfl (by omega) v l.length (ets l) hs hown ad m c (ets news) hx (by rw[ets_length,hsrc.len]) (hsrc.cells ad rfl) (ets_one news) (by unfold maxLen;omega) (by omega) hbase ?_
  intro v' w' h1 h2 _
  exact h v' w' (by unfold OwnE;rw[ets_append,List.length_append,hsrc.len];exact h1) h2
theorem pl_put {l:List Eq3}{key value:List UInt8}{q:EtA}{r:Nat}(hr:r=if isE (plE l) (atE (plE l) key) key=true then atE (plE l) key+1 else atE (plE l) key):plE (l.take (atE (plE l) key)++[(⟨⟨key,value⟩,q⟩:Eq3)]++l.drop r)=putE13 (plE l) key value:=by
 unfold putE13
 rw[hr]
 unfold plE
 rw[List.map_append,List.map_append,List.map_take,List.map_drop,List.append_assoc]
 split<;>rfl
theorem refPut13 (l:List Eq3)(key value:List UInt8)(a b vb:Option Addr)(n cap m d vm vd base:Nat)(w:World)(h:RowE w base (.slice a n cap) l)(hb:IsB w b m d key)(hv:IsB w vb vm vd value)(hn:n≤4000)(hm:m≤100000)(hvm:vm≤100000)(hw:base≤w.heap.size):
  Calls Tryz.prog 15 #[.slice a n cap,.slice b m d,.slice vb vm vd] w fun e w'=>(∃v l',e=.returned v∧OwnE w' base v l'∧plE l'=putE13 (plE l) key value∧∀x∈l',x∈l∨EtK w' x.1 x.2)∧Below w.heap.size w w':=by
 have hl:(plE l).length=n:=(plE_len l).trans h.len
 have hat:atE (plE l) key≤n:=by rw[←hl];exact atE_le _ _
 have HAt:=refAt13 l key a b n cap m d base w h hb (by omega)
 have HIs:=refIs13 l (atE (plE l) key) key a b n cap m d base w h hb
 have HPut:=mkHid (fun (q:EtA) (r:Nat)=>pl_put (l:=l) (key:=key) (value:=value) (q:=q) (r:=r))
 have HLn:=mkHid h.len
 have HOw:=mkHid h.own
 have HKb:=mkHid hb
 have HVb:=mkHid hv
 have HW:=mkHid hw
 obtain⟨hcap,ha⟩:n≤cap∧(a=none∨∃g,a=some ⟨g,0,none⟩):=by
  obtain⟨_,_,e,h1,h2,_⟩:=h.own.form
  injection e with e1 e2 e3
  rw[e1,e2,e3]
  exact⟨h1,h2⟩
 generalize hA:atE (plE l) key=A at *
 have hs1:=fun W=>slEh a n cap A (by omega) ha W
 have hs0:=fun W=>slEl a n cap A (by omega) W
 cases hq:isE (plE l) A key with
 | false =>
  have HPu:=mkHid (fun q=>HPut.out q A (by rw[hq];rfl))
  rw[hq] at HIs
  clear h hb hv hl hA hq HPut ha
  go_enter Tryz.func15,Tryz.ntmps15
  go_upto_region 5 with(first|(go_at_call 44;refine HAt.mono ?_;rintro e w1 ⟨rfl,rfl⟩)|(go_at_call 45;refine HIs.mono ?_;rintro e Z ⟨rfl,hb2⟩))
  have HB2:=mkHid hb2
  have HOz:Hid (OwnE Z base (.slice a n cap) l):=HOw.out.on hb2
  have HSc:Hid (∀W,Below Z.heap.size Z W→SrcE W a A cap (l.take A)∧SrcE W (cutE a cap (A)) (n-(A)) (cap-(A)) (l.drop (A))):=fun W hW=>⟨((HOz.out.on hW).src HLn.out.symm A (by omega)).1,((HOz.out.on hW).src HLn.out.symm (A) (by omega)).2⟩
  have HKk:Hid (IsB Z b m d key):=HKb.out.below hb2 rfl
  have HKw:Hid (IsB Z vb vm vd value):=HVb.out.below hb2 rfl
  have HLz:Hid (base≤Z.heap.size):=Nat.le_trans HW.out hb2.size
  have HD1:Hid (Below Z.heap.size Z (Z.alloc (.cells #[] 91))):=(Below.refl _ Z).alloc (Nat.le_refl _) _
  have KE:Hid (OwnE (Z.alloc (.cells #[] 91)) Z.heap.size (.slice (some ⟨Z.heap.size,0,none⟩) 0 0) []):=OwnE.empty Z Z.heap.size (Nat.le_refl _)
  have HS1:=mkHid (HSc.out _ HD1.out).1
  generalize cutE a cap (A)=cu at *
  generalize hcn:n-(A)=cn at *
  generalize cap-(A)=cc at *
  have HCn:Hid (A+cn≤4000):=by unfold Hid;omega
  clear hb2 hcn
  go_wp2_with (at_builtin;first
   | (refine list_appEs _ rfl (.tmp 23) (.tmp 26) rfl Z.heap.size _ [] rfl KE.out a A cap (l.take A) rfl HS1.out (by simp only[List.length_nil];omega) HD1.out.size ?_;intro v2 V2 ho2 hg2;rw[List.nil_append] at ho2;have HO2:=mkHid ho2;have HD2:=mkHid (HD1.out.grown hg2 HD1.out.size (fun j hj=>(World.ownsRow.lt KE.out j hj).1));clear ho2 hg2;have HB3:Hid (OwnB (V2.alloc (.cells #[] 5)) V2.heap.size (.slice (some ⟨V2.heap.size,0,none⟩) 0 0) []):=OwnB.empty V2 V2.heap.size (Nat.le_refl _);have HE3:Hid (Below V2.heap.size V2 (V2.alloc (.cells #[] 5))):=(Below.refl _ V2).alloc (Nat.le_refl _) _;have HK3:Hid (IsB (V2.alloc (.cells #[] 5)) b m d key):=(HKk.out.below HD2.out rfl).below HE3.out rfl)
   | (refine list_appS _ rfl (.tmp 28) (.tmp 29) rfl V2.heap.size _ [] rfl HB3.out b m d key rfl HK3.out (by simp only[List.length_nil];omega) HE3.out.size ?_;intro v3 V3 ho3 hg3;rw[List.nil_append] at ho3;have HO3:=mkHid ho3;have HD3:=mkHid (HE3.out.grown hg3 HE3.out.size (fun j hj=>(World.ownsRow.lt HB3.out j hj).1));clear ho3 hg3;have HB4:Hid (OwnB (V3.alloc (.cells #[] 5)) V3.heap.size (.slice (some ⟨V3.heap.size,0,none⟩) 0 0) []):=OwnB.empty V3 V3.heap.size (Nat.le_refl _);have HE4:Hid (Below V3.heap.size V3 (V3.alloc (.cells #[] 5))):=(Below.refl _ V3).alloc (Nat.le_refl _) _;have HK4:Hid (IsB (V3.alloc (.cells #[] 5)) vb vm vd value):=((HKw.out.below HD2.out rfl).below HD3.out rfl).below HE4.out rfl)
   | (refine list_appS _ rfl (.tmp 31) (.tmp 32) rfl V3.heap.size _ [] rfl HB4.out vb vm vd value rfl HK4.out (by simp only[List.length_nil];omega) HE4.out.size ?_;intro v4 V4 ho4 hg4;rw[List.nil_append] at ho4;have HO4:=mkHid ho4;have HD4:=mkHid (HE4.out.grown hg4 HE4.out.size (fun j hj=>(World.ownsRow.lt HB4.out j hj).1));clear ho4 hg4;have HO34:=mkHid (own_keepO (us:=[5]) (KeepO.of_below HD4.out) HO3.out (by decide));obtain⟨a3,c3,e3,_⟩:=HO3.out.length_of;obtain⟨a4,c4,e4,_⟩:=HO4.out.length_of;subst e3 e4;have HE5:Hid (Below V4.heap.size V4 (V4.alloc (.cells #[.slice a3 key.length c3,.slice a4 value.length c4] 91))):=(Below.refl _ V4).alloc (Nat.le_refl _) _;have HKt:Hid (EtK V4 ⟨key,value⟩ ⟨a3,c3,a4,c4⟩):=EtK.own HO34.out HO4.out;have HO5:=mkHid (((HO2.out.on HD3.out).on HD4.out).on HE5.out);have HS5:Hid (Z.heap.size≤(V4.alloc (.cells #[.slice a3 key.length c3,.slice a4 value.length c4] 91)).heap.size):=Nat.le_trans (Nat.le_trans HD2.out.size (Nat.le_trans HD3.out.size HD4.out.size)) HE5.out.size)
   | (refine list_appE _ rfl (.tmp 27) (.tmp 35) rfl Z.heap.size v2 (l.take A) rfl HO5.out V4.heap.size (⟨⟨key,value⟩,⟨a3,c3,a4,c4⟩⟩:Eq3) rfl (heap_alloc_new V4 _) (by rw[List.length_take];omega) HS5.out ?_;intro v5 V5 ho5 hg5;have HKT:=mkHid (KeepT.grownE HO5.out hg5);have HO6:=mkHid ho5;have HD5:Hid (Below Z.heap.size Z V5):=(((HD2.out.trans (HD3.out.mono HD2.out.size)).trans (HD4.out.mono (Nat.le_trans HD2.out.size HD3.out.size))).trans (HE5.out.mono (Nat.le_trans HD2.out.size (Nat.le_trans HD3.out.size HD4.out.size)))).grown hg5 HS5.out (fun j hj=>(World.ownsRow.lt HO5.out j hj).1);clear ho5 hg5;have HS6:=mkHid (HSc.out _ HD5.out).2)
   | (refine list_appEs _ rfl (.tmp 36) (.tmp 37) rfl Z.heap.size v5 _ rfl HO6.out cu cn cc (l.drop (A)) rfl HS6.out (by rw[List.length_append,List.length_take,List.length_singleton];have:=HCn.out;omega) HD5.out.size ?_;intro v6 V6 ho6 hg6;have HKT6:=mkHid (KeepT.grownE HO6.out hg6);have HO7:=mkHid ho6;have HD6:=mkHid (HD5.out.grown hg6 HD5.out.size (fun j hj=>(World.ownsRow.lt HO6.out j hj).1));clear ho6 hg6))
  go_ret
  have hK:EtK V6 ⟨key,value⟩ ⟨a3,c3,a4,c4⟩:=HKt.out.keep (((KeepO.of_below HE5.out).trans (KeepO.ofT HKT.out (by decide))).trans (KeepO.ofT HKT6.out (by decide)))
  refine⟨⟨_,_,rfl,own_base HO7.out HLz.out,HPu.out _,fun x hx=>?_⟩,HB2.out.trans (HD6.out.mono HB2.out.size)⟩
  rcases List.mem_append.1 hx with hx|hx
  ·rcases List.mem_append.1 hx with hx|hx
   ·exact .inl (List.mem_of_mem_take hx)
   ·rw[List.mem_singleton.1 hx];exact .inr hK
  ·exact .inl (List.mem_of_mem_drop hx)
 | true =>
  have hlt:A<n:=by
   refine Classical.byContradiction fun hc=>?_
   rw[is_no (by rw[hl];exact hc)] at hq
   cases hq
  have HPu:=mkHid (fun q=>HPut.out q (A+1) (by rw[hq];rfl))
  have hs2:=fun W=>slEl a n cap (A+1) (by omega) W
  rw[show ((A+1:Nat):Int)=(A:Int)+1 by omega] at hs2
  have hwp:IntKind.i64.wrap ((A:Int)+1)=(A:Int)+1:=by rw[IntKind.wrap_i64];omega
  rw[hq] at HIs
  clear h hb hv hl hA hq HPut ha
  go_enter Tryz.func15,Tryz.ntmps15
  go_upto_region 5 with(first|(go_at_call 44;refine HAt.mono ?_;rintro e w1 ⟨rfl,rfl⟩)|(go_at_call 45;refine HIs.mono ?_;rintro e Z ⟨rfl,hb2⟩))
  have HB2:=mkHid hb2
  have HOz:Hid (OwnE Z base (.slice a n cap) l):=HOw.out.on hb2
  have HSc:Hid (∀W,Below Z.heap.size Z W→SrcE W a A cap (l.take A)∧SrcE W (cutE a cap (A+1)) (n-(A+1)) (cap-(A+1)) (l.drop (A+1))):=fun W hW=>⟨((HOz.out.on hW).src HLn.out.symm A (by omega)).1,((HOz.out.on hW).src HLn.out.symm (A+1) (by omega)).2⟩
  have HKk:Hid (IsB Z b m d key):=HKb.out.below hb2 rfl
  have HKw:Hid (IsB Z vb vm vd value):=HVb.out.below hb2 rfl
  have HLz:Hid (base≤Z.heap.size):=Nat.le_trans HW.out hb2.size
  have HD1:Hid (Below Z.heap.size Z (Z.alloc (.cells #[] 91))):=(Below.refl _ Z).alloc (Nat.le_refl _) _
  have KE:Hid (OwnE (Z.alloc (.cells #[] 91)) Z.heap.size (.slice (some ⟨Z.heap.size,0,none⟩) 0 0) []):=OwnE.empty Z Z.heap.size (Nat.le_refl _)
  have HS1:=mkHid (HSc.out _ HD1.out).1
  generalize cutE a cap (A+1)=cu at *
  generalize hcn:n-(A+1)=cn at *
  generalize cap-(A+1)=cc at *
  have HCn:Hid (A+cn≤4000):=by unfold Hid;omega
  clear hb2 hcn
  go_wp2_with (at_builtin;first
   | (refine list_appEs _ rfl (.tmp 23) (.tmp 26) rfl Z.heap.size _ [] rfl KE.out a A cap (l.take A) rfl HS1.out (by simp only[List.length_nil];omega) HD1.out.size ?_;intro v2 V2 ho2 hg2;rw[List.nil_append] at ho2;have HO2:=mkHid ho2;have HD2:=mkHid (HD1.out.grown hg2 HD1.out.size (fun j hj=>(World.ownsRow.lt KE.out j hj).1));clear ho2 hg2;have HB3:Hid (OwnB (V2.alloc (.cells #[] 5)) V2.heap.size (.slice (some ⟨V2.heap.size,0,none⟩) 0 0) []):=OwnB.empty V2 V2.heap.size (Nat.le_refl _);have HE3:Hid (Below V2.heap.size V2 (V2.alloc (.cells #[] 5))):=(Below.refl _ V2).alloc (Nat.le_refl _) _;have HK3:Hid (IsB (V2.alloc (.cells #[] 5)) b m d key):=(HKk.out.below HD2.out rfl).below HE3.out rfl)
   | (refine list_appS _ rfl (.tmp 28) (.tmp 29) rfl V2.heap.size _ [] rfl HB3.out b m d key rfl HK3.out (by simp only[List.length_nil];omega) HE3.out.size ?_;intro v3 V3 ho3 hg3;rw[List.nil_append] at ho3;have HO3:=mkHid ho3;have HD3:=mkHid (HE3.out.grown hg3 HE3.out.size (fun j hj=>(World.ownsRow.lt HB3.out j hj).1));clear ho3 hg3;have HB4:Hid (OwnB (V3.alloc (.cells #[] 5)) V3.heap.size (.slice (some ⟨V3.heap.size,0,none⟩) 0 0) []):=OwnB.empty V3 V3.heap.size (Nat.le_refl _);have HE4:Hid (Below V3.heap.size V3 (V3.alloc (.cells #[] 5))):=(Below.refl _ V3).alloc (Nat.le_refl _) _;have HK4:Hid (IsB (V3.alloc (.cells #[] 5)) vb vm vd value):=((HKw.out.below HD2.out rfl).below HD3.out rfl).below HE4.out rfl)
   | (refine list_appS _ rfl (.tmp 31) (.tmp 32) rfl V3.heap.size _ [] rfl HB4.out vb vm vd value rfl HK4.out (by simp only[List.length_nil];omega) HE4.out.size ?_;intro v4 V4 ho4 hg4;rw[List.nil_append] at ho4;have HO4:=mkHid ho4;have HD4:=mkHid (HE4.out.grown hg4 HE4.out.size (fun j hj=>(World.ownsRow.lt HB4.out j hj).1));clear ho4 hg4;have HO34:=mkHid (own_keepO (us:=[5]) (KeepO.of_below HD4.out) HO3.out (by decide));obtain⟨a3,c3,e3,_⟩:=HO3.out.length_of;obtain⟨a4,c4,e4,_⟩:=HO4.out.length_of;subst e3 e4;have HE5:Hid (Below V4.heap.size V4 (V4.alloc (.cells #[.slice a3 key.length c3,.slice a4 value.length c4] 91))):=(Below.refl _ V4).alloc (Nat.le_refl _) _;have HKt:Hid (EtK V4 ⟨key,value⟩ ⟨a3,c3,a4,c4⟩):=EtK.own HO34.out HO4.out;have HO5:=mkHid (((HO2.out.on HD3.out).on HD4.out).on HE5.out);have HS5:Hid (Z.heap.size≤(V4.alloc (.cells #[.slice a3 key.length c3,.slice a4 value.length c4] 91)).heap.size):=Nat.le_trans (Nat.le_trans HD2.out.size (Nat.le_trans HD3.out.size HD4.out.size)) HE5.out.size)
   | (refine list_appE _ rfl (.tmp 27) (.tmp 35) rfl Z.heap.size v2 (l.take A) rfl HO5.out V4.heap.size (⟨⟨key,value⟩,⟨a3,c3,a4,c4⟩⟩:Eq3) rfl (heap_alloc_new V4 _) (by rw[List.length_take];omega) HS5.out ?_;intro v5 V5 ho5 hg5;have HKT:=mkHid (KeepT.grownE HO5.out hg5);have HO6:=mkHid ho5;have HD5:Hid (Below Z.heap.size Z V5):=(((HD2.out.trans (HD3.out.mono HD2.out.size)).trans (HD4.out.mono (Nat.le_trans HD2.out.size HD3.out.size))).trans (HE5.out.mono (Nat.le_trans HD2.out.size (Nat.le_trans HD3.out.size HD4.out.size)))).grown hg5 HS5.out (fun j hj=>(World.ownsRow.lt HO5.out j hj).1);clear ho5 hg5;have HS6:=mkHid (HSc.out _ HD5.out).2)
   | (refine list_appEs _ rfl (.tmp 36) (.tmp 37) rfl Z.heap.size v5 _ rfl HO6.out cu cn cc (l.drop (A+1)) rfl HS6.out (by rw[List.length_append,List.length_take,List.length_singleton];have:=HCn.out;omega) HD5.out.size ?_;intro v6 V6 ho6 hg6;have HKT6:=mkHid (KeepT.grownE HO6.out hg6);have HO7:=mkHid ho6;have HD6:=mkHid (HD5.out.grown hg6 HD5.out.size (fun j hj=>(World.ownsRow.lt HO6.out j hj).1));clear ho6 hg6))
  go_ret
  have hK:EtK V6 ⟨key,value⟩ ⟨a3,c3,a4,c4⟩:=HKt.out.keep (((KeepO.of_below HE5.out).trans (KeepO.ofT HKT.out (by decide))).trans (KeepO.ofT HKT6.out (by decide)))
  refine⟨⟨_,_,rfl,own_base HO7.out HLz.out,HPu.out _,fun x hx=>?_⟩,HB2.out.trans (HD6.out.mono HB2.out.size)⟩
  rcases List.mem_append.1 hx with hx|hx
  ·rcases List.mem_append.1 hx with hx|hx
   ·exact .inl (List.mem_of_mem_take hx)
   ·rw[List.mem_singleton.1 hx];exact .inr hK
  ·exact .inl (List.mem_of_mem_drop hx)
theorem scan_end {l:List Eq3}{key:List UInt8}{most:Int}{A k n:Nat}(hA:atE (plE l) key=A)(hn:l.length=n)(_h0:A≤k)(h1:k≤n)(h2:k=A∨((k-A:Nat):Int)≤most)(h3:k=n∨most≤((k-A:Nat):Int)):plE ((l.drop A).take (k-A))=scanE13 (plE l) key most:=by
 unfold scanE13
 rw[hA]
 have e:plE ((l.drop A).take (k-A))=((plE l).drop A).take (k-A):=by unfold plE;rw[List.map_take,List.map_drop]
 have hl:((plE l).drop A).length=n-A:=by rw[List.length_drop,plE_len,hn]
 rw[e]
 rcases h3 with h3|h3
 ·subst h3
  rw[List.take_of_length_le (by omega)]
  rcases h2 with h2|h2
  ·have:(plE l).drop A=[]:=List.eq_nil_of_length_eq_zero (by omega)
   rw[this];simp
  ·rw[List.take_of_length_le (by omega)]
 ·rcases h2 with h2|h2
  ·rw[show k-A=0 by omega,show most.toNat=0 by omega]
  ·rw[show most.toNat=k-A by omega]
theorem take_more (l:List Eq3)(A k:Nat)(x:Eq3)(h0:A≤k)(hx:l[k]?=some x):(l.drop A).take (k+1-A)=(l.drop A).take (k-A)++[x]:=by
 rw[show k+1-A=(k-A)+1 by omega,List.take_add_one,List.getElem?_drop,show A+(k-A)=k by omega,hx]
 rfl
def ScPost (l:List Eq3)(key:List UInt8)(most:Int)(B:Nat)(e:Ending)(w':World):Prop:=∃v l',e=.returned v∧OwnE w' B v l'∧plE l'=scanE13 (plE l) key most∧∀x∈l',x∈l
theorem mem_dt (l:List Eq3)(A k:Nat):∀x∈(l.drop A).take k,x∈l:=fun _ hx=>List.mem_of_mem_drop (List.mem_of_mem_take hx)
theorem refScan13 (l:List Eq3)(key:List UInt8)(most:Int)(a b:Option Addr)(n cap m d base:Nat)(w:World)(h:RowE w base (.slice a n cap) l)(hb:IsB w b m d key)(hn:n≤4096):
  Calls Tryz.prog 24 #[.slice a n cap,.slice b m d,.int .i64 most] w fun e w'=>ScPost l key most w.heap.size e w'∧Below w.heap.size w w':=by
 have hl:(plE l).length=n:=(plE_len l).trans h.len
 have hat:atE (plE l) key≤n:=by rw[←hl];exact atE_le _ _
 have HAt:=refAt13 l key a b n cap m d base w h hb hn
 have HLn:=mkHid h.len
 have HR:=mkHid h
 have HEnd:=mkHid (fun (k:Nat)=>scan_end (l:=l) (key:=key) (most:=most) (A:=atE (plE l) key) (k:=k) (n:=n) rfl h.len)
 generalize atE (plE l) key=A at *
 clear h hb hl
 go_enter Tryz.func24,Tryz.ntmps24
 go_wp2_with (go_at_call 44;refine HAt.mono ?_;rintro e w1 ⟨rfl,rfl⟩)
 go_loopw [7,8] (fun i o wr=>∃(k:Nat) (oa:Option Addr) (oc:Nat),A≤k∧k≤n∧i=.int .i64 (k:Int)∧o=.slice oa (k-A) oc∧(k=A∨((k-A:Nat):Int)≤most)∧Hid (OwnE wr w1.heap.size (.slice oa (k-A) oc) ((l.drop A).take (k-A)))∧Hid (Below w1.heap.size w1 wr)) (fun i _ _=>n-(Go.RowKit.intOf i).toNat)
 case atStart=>exact⟨A,none,0,Nat.le_refl _,hat,rfl,by rw[Nat.sub_self],.inl rfl,by rw[Nat.sub_self];exact OwnE.nil _ _,Below.refl _ _⟩
 case round =>
  obtain⟨k,oa,oc,hk0,hk1,rfl,rfl,hmo,HO,HB⟩:=hrel
  generalize hkn:k-A=kn at *
  by_cases hlt:k<n
  ·have hb0:(0:Int)≤(k:Int):=by omega
   have hb1:(k:Int)<(n:Int):=by omega
   by_cases hm2:(kn:Int)<most
   ·obtain⟨g,x,rfl,_,hx,_,c0,c1⟩:=(HR.out.on HB.out).at_ k hlt
    have HX:=mkHid (take_more l A k x hk0 hx)
    obtain⟨⟨xk,xv⟩,⟨xa,xc,xb,xd⟩⟩:=x
    have HD:Hid (Below wr.heap.size wr (wr.alloc (.cells #[.slice xa xk.length xc,.slice xb xv.length xd] 91))):=(Below.refl _ wr).alloc (Nat.le_refl _) _
    have HO1:=mkHid (HO.out.on HD.out)
    have HS1:Hid (w1.heap.size≤(wr.alloc (.cells #[.slice xa xk.length xc,.slice xb xv.length xd] 91)).heap.size):=Nat.le_trans HB.out.size HD.out.size
    have HLs:Hid (((l.drop A).take kn).length≤4096):=by unfold Hid;rw[List.length_take];omega
    have hkn2:k+1-A=kn+1:=by omega
    have HM:Hid (((k+1-A:Nat):Int)≤most):=by unfold Hid;omega
    have HX2:Hid ((l.drop A).take kn++[(⟨⟨xk,xv⟩,⟨xa,xc,xb,xd⟩⟩:Eq3)]=(l.drop A).take (kn+1)):=by unfold Hid;rw[←hkn2,HX.out,hkn]
    have HL2:Hid (((l.drop A).take (kn+1)).length=kn+1):=by unfold Hid;rw[List.length_take,List.length_drop,HLn.out];omega
    simp only at c0 c1
    go_wp2_with (at_builtin;refine list_appE _ rfl (.tmp 22) (.tmp 27) rfl w1.heap.size (.slice oa kn oc) ((l.drop A).take kn) rfl HO1.out wr.heap.size (⟨⟨xk,xv⟩,⟨xa,xc,xb,xd⟩⟩:Eq3) rfl (heap_alloc_new wr _) HLs.out HS1.out ?_;intro v5 V5 ho5 hg5;have HD5:Hid (Below w1.heap.size w1 V5):=(HB.out.trans (HD.out.mono HB.out.size)).grown hg5 HS1.out (fun j hj=>(World.ownsRow.lt HO1.out j hj).1);rw[HX2.out] at ho5;obtain⟨oa5,oc5,e5,_⟩:=ho5.form;rw[HL2.out] at e5;subst e5;have HO5:=mkHid ho5;clear ho5 hg5)
    go_roundw
    case rel=>exact⟨k+1,oa5,oc5,by omega,by omega,by go_num,by rw[hkn2],.inr HM.out,by rw[hkn2];exact HO5.out,HD5⟩
    case measure=>simp[Go.RowKit.intOf];omega
   ·have HV:=mkHid (HEnd.out k hk0 hk1 (by omega) (.inr (by omega)))
    go_wp2_with fail
    go_ret
    exact⟨⟨_,_,rfl,HO.out,by rw[←hkn];exact HV.out,mem_dt l A kn⟩,HB.out⟩
  ·have hge:¬(k:Int)<(n:Int):=by omega
   have HV:=mkHid (HEnd.out k hk0 hk1 (by omega) (.inl (by omega)))
   go_wp2_with fail
   go_ret
   exact⟨⟨_,_,rfl,HO.out,by rw[←hkn];exact HV.out,mem_dt l A kn⟩,HB.out⟩
structure Kp where
 kind:Int
 key:List UInt8
 n:Int
 m:Int
 value:List UInt8
structure KpA where
 a:Option Addr
 c:Nat
 b:Option Addr
 d:Nat
def kpc (p:Kp)(q:KpA):List Value:=[.int .i64 p.kind,.slice q.a p.key.length q.c,.int .i64 p.n,.int .i64 p.m,.slice q.b p.value.length q.d]
structure KpK (fl:Nat)(w:World)(p:Kp)(q:KpA):Prop where
 k:∀W,KeepU fl [5] w W→IsB W q.a p.key.length q.c p.key
 v:∀W,KeepU fl [5] w W→IsB W q.b p.value.length q.d p.value
def nK (n:Int)(k:Int):Nat:=(n.tmod k).natAbs
def mkKey (r:Nat):List UInt8:=[107,UInt8.ofNat (48+r/10),UInt8.ofNat (48+r%10)]++List.replicate (r%7 * 10) 120
def keyP (p:Kp):List UInt8:=if p.key=[] then mkKey (nK p.n 50) else p.key
theorem own_lit (w:World)(base:Nat)(l:List UInt8)(hb:base≤w.heap.size)(hm:l.length≤maxLen):OwnB (w.alloc (.cells (bv l).toArray 5)) base (.slice (some ⟨w.heap.size,0,none⟩) l.length l.length) l :=
 ⟨by rw[bv_length,Nat.mul_one],.inr ⟨w.heap.size,l.length,(bv l).toArray,rfl,hb,heap_alloc_new w _,Nat.le_refl _,hm,by simp[bv_length],by rw[Nat.mul_one,←bv_length l];simp⟩⟩
theorem nK_lt (n:Int)(k:Nat)(hk:0<k):nK n (k:Int)<k:=by
 unfold nK
 rw[Int.natAbs_tmod]
 exact Nat.mod_lt _ hk
def KeyPost (fl:Nat)(k:List UInt8)(e:Ending)(w':World):Prop:=∃a c,e=.returned (.slice a k.length c)∧∀W,KeepU fl [5] w' W→IsB W a k.length c k
variable {fl:Nat}
theorem lawKey13 (p:Kp)(q:KpA)(w:World)(h:KpK fl w p q)(h0 : -9223372036854775808≤p.n)(h1:p.n≤9223372036854775807)(hl:p.key.length≤9223372036854775807):
  Calls Tryz.prog 11 #[.agg (kpc p q).toArray] w fun e w'=>KeyPost fl (keyP p) e w'∧Below w.heap.size w w':=by
 have hY:Below w.heap.size w (w.alloc (.cells (kpc p q).toArray 35)):=(Below.refl _ w).alloc (Nat.le_refl _) _
 have kb:=Blk.new w 35 (kpc p q)
 have HK:=mkHid h
 clear h
 obtain⟨kind,key,n,m,value⟩:=p
 obtain⟨qa,qc,qb,qd⟩:=q
 simp only[kpc] at *
 have HY:=mkHid hY
 have c1:(w.alloc (.cells #[.int .i64 kind,.slice qa key.length qc,.int .i64 n,.int .i64 m,.slice qb value.length qd] 35)).cell? ⟨w.heap.size,1,none⟩=some (.slice qa key.length qc):=kb.cell 1
 have c2:(w.alloc (.cells #[.int .i64 kind,.slice qa key.length qc,.int .i64 n,.int .i64 m,.slice qb value.length qd] 35)).cell? ⟨w.heap.size,2,none⟩=some (.int .i64 n):=kb.cell 2
 clear hY kb
 by_cases hk:key=[]
 ·subst hk
  have HV:Hid (keyP ⟨kind,[],n,m,value⟩=mkKey (nK n 50)):=rfl
  have hr:=nK_lt n 50 (by omega)
  have e1:n.tmod 50=(nK n 50:Int)∨n.tmod 50 = -(nK n 50:Int):=by unfold nK;omega
  change nK n 50<50 at hr
  generalize nK n 50=r at *
  simp only[List.length_nil] at c1 HK HY c2 ⊢
  have q1:(r:Int).tdiv 10=((r/10:Nat):Int):=by rw[Int.tdiv_eq_ediv_of_nonneg (by omega)];omega
  have q2:(r:Int).tmod 10=((r%10:Nat):Int):=by rw[Int.tmod_eq_emod_of_nonneg (by omega)];omega
  have q3:(r:Int).tmod 7=((r%7:Nat):Int):=by rw[Int.tmod_eq_emod_of_nonneg (by omega)];omega
  have v1:(48:Int)+((r/10:Nat):Int)=((UInt8.ofNat (48+r/10)).toNat:Int):=by rw[UInt8.toNat_ofNat'];omega
  have v2:(48:Int)+((r%10:Nat):Int)=((UInt8.ofNat (48+r%10)).toNat:Int):=by rw[UInt8.toNat_ofNat'];omega
  have HM:Hid (mkKey r=[107,UInt8.ofNat (48+r/10),UInt8.ofNat (48+r%10)]++List.replicate (r%7 * 10) 120):=rfl
  have b1:r/10<5:=by omega
  have b2:r%10<10:=by omega
  have b3:r%7<7:=by omega
  generalize UInt8.ofNat (48+r/10)=d1 at *
  generalize UInt8.ofNat (48+r%10)=d2 at *
  generalize r/10=r1 at *
  generalize r%10=r2 at *
  generalize r%7=r3 at *
  generalize hX:(w.alloc (Obj.cells #[Value.int IntKind.i64 kind,Value.slice qa 0 qc,Value.int IntKind.i64 n,Value.int IntKind.i64 m,Value.slice qb value.length qd] 35))=X at *
  have HO1:=mkHid (own_lit X X.heap.size [107,d1,d2] (Nat.le_refl _) (by unfold maxLen;simp))
  have HB1:Hid (Below X.heap.size X (X.alloc (.cells (bv [107,d1,d2]).toArray 5))):=(Below.refl _ X).alloc (Nat.le_refl _) _
  change Hid (OwnB (X.alloc (.cells #[.int .u8 107,.int .u8 (d1.toNat:Int),.int .u8 (d2.toNat:Int)] 5)) X.heap.size (.slice (some ⟨X.heap.size,0,none⟩) 3 3) [107,d1,d2]) at HO1
  change Hid (Below X.heap.size X (X.alloc (.cells #[.int .u8 107,.int .u8 (d1.toNat:Int),.int .u8 (d2.toNat:Int)] 5))) at HB1
  rw[←v1,←v2] at HO1 HB1
  clear v1 v2
  have e1:n.tmod 50=(r:Int)∨(n.tmod 50 = -(r:Int)∧0<r):=by omega
  rcases e1 with e1|⟨e1,hr0⟩
  ·have hn0:¬(r:Int)<0:=by omega
   go_enter Tryz.func11,Tryz.ntmps11
   go_wp2_with fail
   go_loopw [4,5] (fun b i wr=>∃(k:Nat),k≤r3 * 10∧i=.int .i64 (k:Int)∧Hid (OwnB wr X.heap.size b ([107,d1,d2]++List.replicate k 120))∧Hid (Below X.heap.size X wr)) (fun _ i _=>r3 * 10-(Go.RowKit.intOf i).toNat)
   case atStart=>exact⟨0,Nat.zero_le _,rfl,HO1,HB1⟩
   case round =>
    obtain⟨k,hk,rfl,HO,HB⟩:=hrel
    by_cases hlt:k<r3 * 10
    ·have hlt':(k:Int)<(r3:Int) * 10:=by omega
     have HD:Hid (Below wr.heap.size wr (wr.alloc (.cells #[.int .u8 120] 5))):=(Below.refl _ wr).alloc (Nat.le_refl _) _
     have HO2:=mkHid (HO.out.alloc (.cells #[.int .u8 120] 5))
     have HS:Hid (X.heap.size≤(wr.alloc (.cells #[.int .u8 120] 5)).heap.size):=Nat.le_trans HB.out.size HD.out.size
     have HL:Hid (([107,d1,d2]++List.replicate k (120:UInt8)).length+1≤140737488355328):=by unfold Hid;simp;omega
     go_wp2_with (at_builtin;refine list_app1 _ rfl (.tmp 35) (.tmp 36) rfl X.heap.size _ _ rfl HO2.out wr.heap.size 1 [120] rfl rfl (heap_alloc_new wr _) HL.out HS.out ?_;intro v5 V5 ho5 hg5;have HD5:Hid (Below X.heap.size X V5):=(HB.out.trans (HD.out.mono HB.out.size)).grown hg5 HS.out (fun j hj=>(World.ownsRow.lt HO2.out j hj).1);have HO5:=mkHid ho5;clear ho5 hg5)
     go_roundw
     case rel=>exact⟨k+1,by omega,by go_num,by rw[List.replicate_succ',←List.append_assoc];exact HO5.out,HD5⟩
     case measure=>simp[Go.RowKit.intOf];omega
    ·have hlt':¬(k:Int)<(r3:Int) * 10:=by omega
     obtain rfl:k=r3 * 10:=by omega
     go_wp2_with fail
     go_ret
     rw[HV.out,HM.out]
     obtain⟨a5,c5,e5,_⟩:=HO.out.isB
     exact⟨⟨a5,c5,by rw[←e5];rfl,fun W hW=>own_isB (own_keepO hW.o (by rw[←e5];exact HO.out) (by decide))⟩,HY.out.trans (HB.out.mono HY.out.size)⟩
  ·have hn0:(-(r:Int))<0:=by omega
   have hn1 : -(-(r:Int))=(r:Int):=by omega
   go_enter Tryz.func11,Tryz.ntmps11
   go_wp2_with fail
   go_loopw [4,5] (fun b i wr=>∃(k:Nat),k≤r3 * 10∧i=.int .i64 (k:Int)∧Hid (OwnB wr X.heap.size b ([107,d1,d2]++List.replicate k 120))∧Hid (Below X.heap.size X wr)) (fun _ i _=>r3 * 10-(Go.RowKit.intOf i).toNat)
   case atStart=>exact⟨0,Nat.zero_le _,rfl,HO1,HB1⟩
   case round =>
    obtain⟨k,hk,rfl,HO,HB⟩:=hrel
    by_cases hlt:k<r3 * 10
    ·have hlt':(k:Int)<(r3:Int) * 10:=by omega
     have HD:Hid (Below wr.heap.size wr (wr.alloc (.cells #[.int .u8 120] 5))):=(Below.refl _ wr).alloc (Nat.le_refl _) _
     have HO2:=mkHid (HO.out.alloc (.cells #[.int .u8 120] 5))
     have HS:Hid (X.heap.size≤(wr.alloc (.cells #[.int .u8 120] 5)).heap.size):=Nat.le_trans HB.out.size HD.out.size
     have HL:Hid (([107,d1,d2]++List.replicate k (120:UInt8)).length+1≤140737488355328):=by unfold Hid;simp;omega
     go_wp2_with (at_builtin;refine list_app1 _ rfl (.tmp 35) (.tmp 36) rfl X.heap.size _ _ rfl HO2.out wr.heap.size 1 [120] rfl rfl (heap_alloc_new wr _) HL.out HS.out ?_;intro v5 V5 ho5 hg5;have HD5:Hid (Below X.heap.size X V5):=(HB.out.trans (HD.out.mono HB.out.size)).grown hg5 HS.out (fun j hj=>(World.ownsRow.lt HO2.out j hj).1);have HO5:=mkHid ho5;clear ho5 hg5)
     go_roundw
     case rel=>exact⟨k+1,by omega,by go_num,by rw[List.replicate_succ',←List.append_assoc];exact HO5.out,HD5⟩
     case measure=>simp[Go.RowKit.intOf];omega
    ·have hlt':¬(k:Int)<(r3:Int) * 10:=by omega
     obtain rfl:k=r3 * 10:=by omega
     go_wp2_with fail
     go_ret
     rw[HV.out,HM.out]
     obtain⟨a5,c5,e5,_⟩:=HO.out.isB
     exact⟨⟨a5,c5,by rw[←e5];rfl,fun W hW=>own_isB (own_keepO hW.o (by rw[←e5];exact HO.out) (by decide))⟩,HY.out.trans (HB.out.mono HY.out.size)⟩
 ·have HV:Hid (keyP ⟨kind,key,n,m,value⟩=key):=by unfold Hid keyP;rw[if_neg hk]
  have hp:(0:Int)<(key.length:Int):=by have:=List.length_pos_iff.2 hk;omega
  go_enter Tryz.func11,Tryz.ntmps11
  go_wp2_with fail
  go_ret
  rw[HV.out]
  exact⟨⟨_,_,rfl,fun W hW=>HK.out.k W ((KeepU.of_below HY.out).trans hW)⟩,HY.out⟩
end
end Go.Proofs.YtpecobmfabmpkaaGreatDoor
