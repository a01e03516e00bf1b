/- Rdr2 Rdr3 Rdr4 Words Absorb -/
import Derived.Test.YtpecobmfabmpkaaGreatDoorM0
import Derived.Laws.IdiomStrings
import Derived.Laws.Cover3
set_option maxRecDepth 20000
set_option maxHeartbeats 1000000
namespace Go.Proofs.YtpecobmfabmpkaaGreatDoor
section
open Go.RowKit
attribute [local go_sem ↓] Go.wp_at_zero Go.wp_at_succ
def numTo (l:List UInt8):Nat→Nat
 | 0=>0
 | k+1=>numTo l k * 256+(nth l (1+k)).toNat
theorem numTo_lt (l:List UInt8)(k:Nat):numTo l k<256 ^ k:=by
 induction k with
 | zero=>simp[numTo]
 | succ k ih =>
  have:=(nth l (1+k)).toNat_lt
  rw[numTo,Nat.pow_succ];omega
theorem numTo_lt64 (l:List UInt8)(k:Nat)(h:k≤8):numTo l k<18446744073709551616:=by
 have h1:=numTo_lt l k
 have h2:256 ^ k≤256 ^ 8:=Nat.pow_le_pow_right (by omega) h
 have h3:256 ^ 8=18446744073709551616:=by decide
 omega
theorem numTo_lt7 (l:List UInt8)(k:Nat)(h:k<8):numTo l k * 256<18446744073709551616:=by
 have h1:=numTo_lt l k
 have h2:256 ^ (k+1)≤256 ^ 8:=Nat.pow_le_pow_right (by omega) h
 have h3:256 ^ 8=18446744073709551616:=by decide
 rw[Nat.pow_succ] at h2
 omega
theorem numTo_lt4 (l:List UInt8):numTo l 4<4294967296:=numTo_lt l 4
theorem bits_or64 (a b:UInt64):bits .or .u64 (a.toNat:Int) (b.toNat:Int)=((a ||| b).toNat:Int):=by
 show IntKind.u64.wrap ((BitVec.ofInt 64 (a.toNat:Int) ||| BitVec.ofInt 64 (b.toNat:Int)).toNat:Int)=_
 rw[of64,of64];exact wrap64_nat _ (a ||| b).toNat_lt
theorem or_shift (n b:Nat)(hn:n * 256<18446744073709551616)(hb:b<256):bits .or .u64 ((n:Int) * 256) (b:Int)=(((n * 256+b:Nat)):Int):=by
 have h:=bits_or64 (UInt64.ofNat (n * 256)) (UInt64.ofNat b)
 have e1:(UInt64.ofNat (n * 256)).toNat=n * 256:=by rw[UInt64.toNat_ofNat'];omega
 have e2:(UInt64.ofNat b).toNat=b:=by rw[UInt64.toNat_ofNat'];omega
 rw[UInt64.toNat_or,e1,e2] at h
 have e3:n * 256 ||| b=n * 256+b:=by
  have:=Nat.two_pow_add_eq_or_of_lt (i:=8) (b:=b) (by omega) n
  rw[Nat.mul_comm n 256];exact this.symm
 rw[e3] at h
 rw[←h];simp
def okH (l:List UInt8)(br:Bool)(mark:UInt8)(size:Nat):Bool := !br&&decide (1+size≤l.length)&&(nth l 0==mark)
theorem slK (k:IntKind)(b off r cap m:Nat)(hm:m≤r)(w:World):(Instr.slice 33 (.slice (some ⟨b,off,none⟩) r cap) (some (.int k (m:Int))) none none).run Tryz.prog w=.ok (.slice (cutA b off cap m) (r-m) (cap-m)) w:=by
 have he:Tryz.prog.elem 33=5:=by kernel_rfl
 have hz:(sizeOf 5).run Tryz.prog w=.ok 1 w:=by
  obtain⟨i0,hi,hz0,hz1,hz2⟩:=info_parts info8
  simp[sizeOf,typeInfo,hi,hz1]
 rw[run_slice_l w 33 _ r cap (by rw[he];exact Tryz.underlying33) k (m:Int) (by omega) (by omega),he,hz]
 simp only[Result.andThen,sliced,Int.toNat_natCast,Nat.mul_one,Option.map_some,Addr.add_lit,cutA]
 split<;>rfl
theorem slLH (k k':IntKind)(b off r cap m n:Nat)(hm:m≤n)(hn:n≤cap)(w:World):(Instr.slice 33 (.slice (some ⟨b,off,none⟩) r cap) (some (.int k (m:Int))) (some (.int k' (n:Int))) none).run Tryz.prog w=.ok (.slice (cutA b off cap m) (n-m) (cap-m)) w:=by
 have he:Tryz.prog.elem 33=5:=by kernel_rfl
 have hz:(sizeOf 5).run Tryz.prog w=.ok 1 w:=by
  obtain⟨i0,hi,hz0,hz1,hz2⟩:=info_parts info8
  simp[sizeOf,typeInfo,hi,hz1]
 rw[run_slice_lh w 33 _ r cap (by rw[he];exact Tryz.underlying33) k k' (m:Int) (n:Int) (by omega) (by omega) (by omega),he,hz]
 simp only[Result.andThen,sliced,Int.toNat_natCast,Nat.mul_one,Option.map_some,Addr.add_lit,cutA]
 split<;>rfl
theorem slH (k':IntKind)(b off r cap n:Nat)(hn:n≤cap)(w:World):(Instr.slice 33 (.slice (some ⟨b,off,none⟩) r cap) none (some (.int k' (n:Int))) none).run Tryz.prog w=.ok (.slice (some ⟨b,off,none⟩) n cap) w:=by
 have he:Tryz.prog.elem 33=5:=by kernel_rfl
 have hz:(sizeOf 5).run Tryz.prog w=.ok 1 w:=by
  obtain⟨i0,hi,hz0,hz1,hz2⟩:=info_parts info8
  simp[sizeOf,typeInfo,hi,hz1]
 rw[run_slice_h w 33 _ r cap (by rw[he];exact Tryz.underlying33) k' (n:Int) (by omega) (by omega),he,hz]
 simp only[Result.andThen,sliced,Int.toNat_natCast,Nat.zero_mul,Nat.sub_zero,Option.map_some,Addr.add_lit,Nat.add_zero]
 split<;>rfl
theorem IsB.cut {w:World}{b off len cap:Nat}{l:List UInt8}(h:IsB w (some ⟨b,off,none⟩) len cap l)(m:Nat)(hm:m≤len):IsB w (cutA b off cap m) (len-m) (cap-m) (l.drop m):=by
 have hle:=h.le
 have hmx:=h.max
 refine⟨by rw[List.length_drop,h.len_eq],by omega,by omega,fun e=>(by cases e),fun hp=>?_⟩
 obtain⟨b',off',e,hc⟩:=h.cells (by omega)
 injection e with e
 injection e with e1 e2
 subst e1 e2
 refine⟨b,off+m,by unfold cutA;rw[if_neg (by omega)],fun i hi=>?_⟩
 rw[show off+m+i=off+(m+i) by omega,hc (m+i) (by omega)]
 congr 3
 unfold nth;rw[List.getD_eq_getElem?_getD,List.getD_eq_getElem?_getD,List.getElem?_drop]
theorem IsB.head {w:World}{b off len cap:Nat}{l:List UInt8}(h:IsB w (some ⟨b,off,none⟩) len cap l)(m:Nat)(hm:m≤len):IsB w (some ⟨b,off,none⟩) m cap (l.take m):=by
 have hle:=h.le
 have hmx:=h.max
 refine⟨by rw[List.length_take,h.len_eq];omega,by omega,hmx,fun e=>(by cases e),fun hp=>?_⟩
 obtain⟨b',off',e,hc⟩:=h.cells (by omega)
 refine⟨b',off',e,fun i hi=>?_⟩
 rw[hc i (by omega)]
 congr 3
 unfold nth;rw[List.getD_eq_getElem?_getD,List.getD_eq_getElem?_getD,List.getElem?_take,if_pos hi]
theorem okH_of {l:List UInt8}{br:Bool}{mark:UInt8}{size:Nat}(h:okH l br mark size=true):br=false∧1+size≤l.length∧nth l 0=mark:=by
 unfold okH at h
 simp only[Bool.and_eq_true,Bool.not_eq_true',decide_eq_true_eq,beq_iff_eq] at h
 exact⟨h.1.1,h.1.2,h.2⟩
theorem okH_not {l:List UInt8}{br:Bool}{mark:UInt8}{size:Nat}(h0:mark≠0)(h:okH l br mark size=false):markOf l br≠mark∨(markOf l br=mark∧l.length<1+size):=by
 by_cases hm:markOf l br=mark
 ·refine .inr ⟨hm,?_⟩
  cases br
  ·have e:nth l 0=mark:=hm
   rcases Nat.lt_or_ge l.length (1+size) with h1|h1
   ·exact h1
   ·exfalso
    unfold okH at h
    simp[e,h1] at h
  ·exact absurd hm.symm h0
 ·exact .inl hm
theorem cheadNo (B:Nat)(l:List UInt8)(br:Bool)(mark:UInt8)(size:Nat)(w:World)(h:IsR w B l br)(h0:mark≠0)(hs:size≤8)(hno:okH l br mark size=false):
  Calls Tryz.prog 123 #[.pointer (some ⟨B,0,none⟩),.int .u8 (mark.toNat:Int),.int .i64 (size:Int)] w fun e w'=>e=.returned (.tuple #[.int .u64 0,.bool false])∧IsR w' B l true∧w.grownBy w' (some B):=by
 have H:Hid (IsR w B l br):=h
 obtain⟨a,cap,hb,hi,hne⟩:=h
 have c0:=hb.cell 0
 have hmx:=hi.max
 have hle:=hi.le
 unfold maxLen at hmx
 clear hb hi hne
 simp only[rcell,List.getElem?_cons_zero] at c0
 rcases okH_not h0 hno with hm|⟨hm,hl⟩
 ·have hq:(((markOf l br).toNat:Int) != (mark.toNat:Int))=true:=by
   rw[bne_iff_ne];intro h;exact hm ((toNat8_inj _ _).1 h)
  clear c0 hm hno
  go_enter Tryz.func123,Tryz.ntmps123
  go_wp2_with fail
  refine(cmark B l br w H.out).mono ?_
  rintro e w1 ⟨rfl,hw⟩
  subst hw
  generalize ((markOf l br).toNat:Int)=mk at *
  go_wp2_with fail
  refine(cfail B l br _ H.out).mono ?_
  rintro e w2 ⟨rfl,hr,hg⟩
  go_wp2_with fail
  go_ret2
  exact⟨rfl,hr,hg⟩
 ·generalize hn:l.length=n at *
  have HN:Hid (l.length=n):=hn
  clear hn
  have hl':((n:Int)<1+(size:Int)):=by omega
  have hq:(((markOf l br).toNat:Int) != (mark.toNat:Int))=false:=by rw[hm];simp
  clear hm hno hl
  go_enter Tryz.func123,Tryz.ntmps123
  go_wp2_with fail
  refine(cmark B l br w H.out).mono ?_
  rintro e w1 ⟨rfl,hw⟩
  subst hw
  generalize ((markOf l br).toNat:Int)=mk at *
  go_wp2_with fail
  refine(cfail B l br _ H.out).mono ?_
  rintro e w2 ⟨rfl,hr,hg⟩
  go_wp2_with fail
  go_ret2
  exact⟨rfl,hr,hg⟩
theorem sl1 (b off r cap size:Nat)(hn:1+size≤cap)(w:World):(Instr.slice 33 (.slice (some ⟨b,off,none⟩) r cap) (some (.int .i64 1)) (some (.int .i64 (1+(size:Int)))) none).run Tryz.prog w=.ok (.slice (cutA b off cap 1) size (cap-1)) w:=by
 have:=slLH .i64 .i64 b off r cap 1 (1+size) (by omega) hn w
 rw[show 1+size-1=size by omega,show ((1+size:Nat):Int)=1+(size:Int) by omega] at this
 exact this
attribute [local go_sem ↓] sl1
theorem cheadOk (B:Nat)(l:List UInt8)(br:Bool)(mark:UInt8)(size:Nat)(w:World)(h:IsR w B l br)(hs:size≤8)(hok:okH l br mark size=true):
  Calls Tryz.prog 123 #[.pointer (some ⟨B,0,none⟩),.int .u8 (mark.toNat:Int),.int .i64 (size:Int)] w fun e w'=>e=.returned (.tuple #[.int .u64 (numTo l size:Int),.bool true])∧w'=w:=by
 have H:Hid (IsR w B l br):=h
 obtain⟨a,cap,hb,hi,hne⟩:=h
 have c0:=hb.cell 0
 have hmx:=hi.max
 have hle:=hi.le
 unfold maxLen at hmx
 have HI:Hid (IsB w a l.length cap l):=hi
 clear hb hi hne
 simp only[rcell,List.getElem?_cons_zero] at c0
 obtain⟨hbr,hl,hm0⟩:=okH_of hok
 have hm:markOf l br=mark:=by rw[hbr];exact hm0
 generalize hn:l.length=n at *
 have HN:Hid (l.length=n):=hn
 clear hn
 obtain⟨b,off,rfl,hc⟩:=HI.out.cells (by omega)
 have HC:Hid (∀i,i<size→w.cell? ⟨b,off+1+i,none⟩=some (.int .u8 ((nth l (1+i)).toNat:Int))):=by
  intro i hi
  rw[show off+1+i=off+(1+i) by omega]
  exact hc (1+i) (by omega)
 have hcut:0<size→cutA b off cap 1=some ⟨b,off+1,none⟩:=fun h=>by unfold cutA;rw[if_neg (by omega)]
 obtain⟨ad,had⟩:∃ad,cutA b off cap 1=ad:=⟨_,rfl⟩
 have Had:Hid (0<size→ad=some ⟨b,off+1,none⟩):=fun h=>by rw[←had];exact hcut h
 have hl':¬((n:Int)<1+(size:Int)):=by omega
 have hq:(((markOf l br).toNat:Int) != (mark.toNat:Int))=false:=by rw[hm];simp
 have hcap:1+size≤cap:=by omega
 clear hm hm0 hok hl hc hcut
 go_enter Tryz.func123,Tryz.ntmps123
 go_wp2_with fail
 refine(cmark B l br w H.out).mono ?_
 rintro e w1 ⟨rfl,hw⟩
 subst hw
 generalize ((markOf l br).toNat:Int)=mk at *
 go_wp2_with fail
 go_loopw [8,10,35] (fun v _ i wr=>∃k:Nat,k≤size∧v=.int .u64 (numTo l k:Int)∧i=.int .i64 (k:Int)∧wr=w1) (fun _ _ i _=>size-(intOf i).toNat)
 case atStart=>exact⟨0,by omega,rfl,rfl,rfl⟩
 case round =>
  obtain⟨k,hk,rfl,rfl,hww⟩:=hrel
  rw[hww];clear hww wr
  by_cases hlt:k<size
  ·have hlt':(k:Int)<(size:Int):=by omega
   have hg:=HC.out k hlt
   have e:=Had.out (by omega)
   subst e
   have hx:=(nth l (1+k)).toNat_lt
   have h7:=numTo_lt7 l k (by omega)
   have HV:Hid (numTo l (k+1)=numTo l k * 256+(nth l (1+k)).toNat):=rfl
   have hor:=or_shift (numTo l k) (nth l (1+k)).toNat h7 hx
   generalize numTo l k=N at *
   generalize (nth l (1+k)).toNat=X at *
   go_wp2_with fail
   go_roundw
   case rel=>exact⟨k+1,by omega,by rw[HV.out];go_num,by go_num,by first|rfl|trivial⟩
   case measure=>simp[intOf];omega
  ·have e:k=size:=by omega
   subst e
   go_wp2_with fail
   go_ret2
   exact⟨rfl,rfl⟩
end
section
open Go.RowKit
attribute [local go_sem ↓] Go.wp_at_zero Go.wp_at_succ
theorem cutA_some (b off cap m:Nat):∃o2,cutA b off cap m=some ⟨b,o2,none⟩:=by
 unfold cutA;split
 ·exact⟨off,rfl⟩
 ·exact⟨off+m,rfl⟩
theorem IsB.setOther {w:World}{a:Option Addr}{len cap:Nat}{l:List UInt8}(h:IsB w a len cap l)(B j:Nat)(v:Value)(hne:0<len→∀x,a=some x→x.block≠B):IsB (w.setCell ⟨B,j,none⟩ v) a len cap l :=
 ⟨h.len_eq,h.le,h.max,h.nil,fun hp=>by
  obtain⟨b,off,e,hc⟩:=h.cells hp
  refine⟨b,off,e,fun i hl=>?_⟩
  rw[World.cell?_setCell_other _ _ _ _ (fun e'=>hne hp _ e (by injection e' with e1;exact e1.symm))]
  exact hc i hl⟩
theorem isR_rest {w:World}{B:Nat}{a a':Option Addr}{n cap n' cap':Nat}{br:Bool}{l':List UInt8}(hb:Blk w B 188 (rcell a n cap br))(hi:IsB w a' n' cap' l')(hne:∀x,a'=some x→x.block<B):
  IsR (w.setCell ⟨B,0,none⟩ (.slice a' n' cap')) B l' br:=by
 have e:=hi.len_eq
 subst e
 exact⟨a',cap',hb.set 0 (.slice a' l'.length cap'),hi.setOther B 0 _ (fun _ x e=>Nat.ne_of_lt (hne x e)),hne⟩
theorem sl5 (b off r cap:Nat)(hm:5≤r)(w:World):(Instr.slice 33 (.slice (some ⟨b,off,none⟩) r cap) (some (.int .i64 5)) none none).run Tryz.prog w=.ok (.slice (cutA b off cap 5) (r-5) (cap-5)) w:=slK .i64 b off r cap 5 hm w
theorem sl9 (b off r cap:Nat)(hm:9≤r)(w:World):(Instr.slice 33 (.slice (some ⟨b,off,none⟩) r cap) (some (.int .i64 9)) none none).run Tryz.prog w=.ok (.slice (cutA b off cap 9) (r-9) (cap-9)) w:=slK .i64 b off r cap 9 hm w
theorem slo1 (b off r cap:Nat)(hm:1≤r)(w:World):(Instr.slice 33 (.slice (some ⟨b,off,none⟩) r cap) (some (.int .i64 1)) none none).run Tryz.prog w=.ok (.slice (cutA b off cap 1) (r-1) (cap-1)) w:=slK .i64 b off r cap 1 hm w
attribute [local go_sem ↓] sl5 sl9 slo1 slK slH
def okB (l:List UInt8)(br:Bool)(mark:UInt8):Bool:=okH l br mark 4&&decide (5+numTo l 4≤l.length)
theorem cbodyOk (B:Nat)(l:List UInt8)(br:Bool)(mark:UInt8)(w:World)(h:IsR w B l br)(hok:okB l br mark=true):
  Calls Tryz.prog 122 #[.pointer (some ⟨B,0,none⟩),.int .u8 (mark.toNat:Int)] w fun e w'=>∃b off cap,e=.returned (.slice (some ⟨b,off,none⟩) (numTo l 4) cap)∧b≠B∧IsB w' (some ⟨b,off,none⟩) (numTo l 4) cap ((l.drop 5).take (numTo l 4))∧IsR w' B (l.drop (5+numTo l 4)) false∧w.grownBy w' (some B):=by
 have H:Hid (IsR w B l br):=h
 unfold okB at hok
 rw[Bool.and_eq_true,decide_eq_true_eq] at hok
 obtain⟨hok,hlen⟩:=hok
 have HO:Hid (okH l br mark 4=true):=hok
 obtain⟨hbr,hl,_⟩:=okH_of hok
 obtain⟨a,cap,hb,hi,hne⟩:=h
 have c0:=hb.cell 0
 have f0:=hb.frozen 0
 have hmx:=hi.max
 have hle:=hi.le
 unfold maxLen at hmx
 have HI:Hid (IsB w a l.length cap l):=hi
 have HB:Hid (Blk w B 188 (rcell a l.length cap br)):=hb
 clear hb hi
 simp only[rcell,List.getElem?_cons_zero] at c0
 generalize hn:l.length=n at *
 have HN:Hid (l.length=n):=hn
 clear hn
 obtain⟨b,off,rfl,_⟩:=HI.out.cells (by omega)
 have hbL:b<B:=hne _ rfl
 have hbB:b≠B:=Nat.ne_of_lt hbL
 obtain⟨o2,ho2⟩:=cutA_some b off cap 5
 have I5:Hid (IsB w (some ⟨b,o2,none⟩) (n-5) (cap-5) (l.drop 5)):=by
  have:=HI.out.cut 5 (by omega)
  rw[ho2] at this;exact this
 have hnum:=numTo_lt4 l
 have HM:Hid (numTo l 4=numTo l 4):=rfl
 generalize hm:numTo l 4=m at *
 have Hm:Hid (numTo l 4=m):=hm
 clear hm HM
 obtain⟨o3,ho3⟩:=cutA_some b o2 (cap-5) m
 have I6:Hid (IsB w (some ⟨b,o3,none⟩) (n-5-m) (cap-5-m) ((l.drop 5).drop m)):=by
  have:=I5.out.cut m (by omega)
  rw[ho3] at this;exact this
 have IH:Hid (IsB w (some ⟨b,o2,none⟩) m (cap-5) ((l.drop 5).take m)):=I5.out.head m (by omega)
 have h5:5≤n:=by omega
 have hm5:m≤n-5:=by omega
 have hmc:m≤cap-5:=by omega
 have hc5:cap-5≤9223372036854775807:=by omega
 have hn5:((n-5:Nat):Int)=(n:Int)-5:=by omega
 generalize hN5:n-5=n5 at *
 generalize hC5:cap-5=c5 at *
 have hgt:¬((n5:Int)<(m:Int)):=by omega
 clear hok hl hlen hn5
 go_enter Tryz.func122,Tryz.ntmps122
 go_wp2_with fail
 refine(cheadOk B l br mark 4 w H.out (by omega) HO.out).mono ?_
 rintro e w1 ⟨rfl,hw⟩
 rw[hw,Hm.out];clear hw w1
 go_wp2_with fail
 go_ret
 refine⟨b,o2,c5,rfl,hbB,IH.out.setOther B 0 _ (fun _ x hx=>by injection hx with hx;rw[←hx];exact hbB),?_,gr_set _ _ _ _⟩
 have:=isR_rest HB.out I6.out (fun x hx=>by injection hx with hx;rw[←hx];exact hbL)
 rw[List.drop_drop,hbr] at this
 exact this
theorem cbodyNo (B:Nat)(l:List UInt8)(br:Bool)(mark:UInt8)(w:World)(h:IsR w B l br)(h0:mark≠0)(hno:okB l br mark=false):
  Calls Tryz.prog 122 #[.pointer (some ⟨B,0,none⟩),.int .u8 (mark.toNat:Int)] w fun e w'=>e=.returned (.slice none 0 0)∧IsR w' B l true∧w.grownBy w' (some B):=by
 have H:Hid (IsR w B l br):=h
 cases hok:okH l br mark 4
 ·have HO:Hid (okH l br mark 4=false):=hok
  clear hok h hno
  go_enter Tryz.func122,Tryz.ntmps122
  go_wp2_with fail
  refine(cheadNo B l br mark 4 w H.out h0 (by omega) HO.out).mono ?_
  rintro e w1 ⟨rfl,hr,hg⟩
  go_wp2_with fail
  go_ret
  exact⟨rfl,hr,hg⟩
 ·have HO:Hid (okH l br mark 4=true):=hok
  obtain⟨hbr,hl,_⟩:=okH_of hok
  have hlen:l.length<5+numTo l 4:=by
   rcases Nat.lt_or_ge l.length (5+numTo l 4) with h1|h1
   ·exact h1
   ·unfold okB at hno
    rw[hok] at hno
    simp[h1] at hno
  obtain⟨a,cap,hb,hi,hne⟩:=h
  have c0:=hb.cell 0
  have hmx:=hi.max
  have hle:=hi.le
  unfold maxLen at hmx
  have HI:Hid (IsB w a l.length cap l):=hi
  clear hb hi
  simp only[rcell,List.getElem?_cons_zero] at c0
  generalize hn:l.length=n at *
  have HN:Hid (l.length=n):=hn
  clear hn
  obtain⟨b,off,rfl,_⟩:=HI.out.cells (by omega)
  have hnum:=numTo_lt4 l
  generalize hm:numTo l 4=m at *
  have Hm:Hid (numTo l 4=m):=hm
  clear hm
  have h5:5≤n:=by omega
  generalize hN5:n-5=n5 at *
  have hgt:((n5:Int)<(m:Int)):=by omega
  have hn63:n5≤9223372036854775807:=by omega
  clear hok hl hlen hno
  go_enter Tryz.func122,Tryz.ntmps122
  go_wp2_with fail
  refine(cheadOk B l br mark 4 w H.out (by omega) HO.out).mono ?_
  rintro e w1 ⟨rfl,hw⟩
  rw[hw,Hm.out];clear hw w1
  go_wp2_with fail
  refine(cfail B l br _ H.out).mono ?_
  rintro e w2 ⟨rfl,hr,hg⟩
  go_wp2_with fail
  go_ret
  exact⟨rfl,hr,hg⟩
end
section
open Go.RowKit
attribute [local go_sem ↓] Go.wp_at_zero Go.wp_at_succ
theorem IsR.lt {w:World}{B:Nat}{l:List UInt8}{br:Bool}(h:IsR w B l br):B<w.heap.size:=by
 obtain⟨a,cap,hb,_,_⟩:=h
 exact hb.lt
theorem IsR.on {w w':World}{B:Nat}{l:List UInt8}{br:Bool}(h:IsR w B l br)(hb:Below w.heap.size w w'):IsR w' B l br:=by
 obtain⟨a,cap,h1,h2,h3⟩:=h
 exact⟨a,cap,h1.on hb,h2.below hb rfl,h3⟩
theorem conv_isB (w:World)(a:Option Addr)(len cap:Nat)(l:List UInt8)(hb:IsB w a len cap l):(convert 33 9 (.slice a len cap)).run Tryz.prog w=.ok (.string ⟨l.toArray⟩) w:=by
 have e:=hb.len_eq
 subst e
 by_cases hl:0<l.length
 ·obtain⟨b,off,rfl,hc⟩:=hb.cells hl
  refine run_convert_bytes_back w 33 9 5 ⟨b,off,none⟩ cap l Tryz.underlying33 Tryz.underlying5 Tryz.underlying9 fun j hj=>?_
  rw[Addr.add_lit,hc j hj,nth_eq l j hj]
 ·have:l=[]:=List.eq_nil_of_length_eq_zero (by omega)
  subst this
  cases a with
  | none=>exact run_convert_bytes_nil w 33 5 Tryz.underlying33 Tryz.underlying5 _ _ _ Tryz.underlying9
  | some x=>exact run_convert_bytes_back w 33 9 5 x cap [] Tryz.underlying33 Tryz.underlying5 Tryz.underlying9 fun j hj=>absurd hj (Nat.not_lt_zero _)
theorem eqNil (w:World)(a:Option Addr)(l c:Nat):(binOp .eql 33 (.slice a l c) (.slice none 0 0)).run Tryz.prog w=.ok (.bool a.isNone) w:=by
 simp only[binOp]
 simp[run_equal_slice_nil w 33 5 a l c Tryz.underlying33]
attribute [local go_sem ↓] eqNil
theorem cClone (a:Option Addr)(len cap:Nat)(l:List UInt8)(w:World)(h:IsB w a len cap l)(hl:len≤140737488351232):
  Calls Tryz.prog 75 #[.slice a len cap] w fun e w'=>∃v,e=.returned v∧OwnB w' w.heap.size v l∧Below w.heap.size w w':=by
 have H:Hid (IsB w a len cap l):=h
 cases a with
 | none =>
  have h0:=h.nil rfl
  have hle:=h.le
  have hz:len=0:=by omega
  subst hz h0
  have e:l=[]:=List.eq_nil_of_length_eq_zero h.len_eq
  subst e
  clear h
  go_enter Tryz.func75,Tryz.ntmps75
  go_wp2
  go_ret
  exact⟨_,rfl,OwnB.nil _ _,Below.refl _ _⟩
 | some x =>
  clear h
  go_enter Tryz.func75,Tryz.ntmps75
  have hbel0:Below w.heap.size w (w.alloc (.cells #[] 5)):=(Below.refl _ _).alloc (Nat.le_refl _) _
  have hemp:OwnB (w.alloc (.cells #[] 5)) w.heap.size (.slice (some ⟨w.heap.size,0,none⟩) 0 0) []:=OwnB.empty w _ (Nat.le_refl _)
  go_wp2_with (at_builtin;refine list_appS _ rfl (.tmp 5) (.tmp 6) rfl w.heap.size _ [] rfl hemp (some x) len cap l rfl (H.out.below hbel0 rfl) (by simp;omega) (by simp) ?_;intro v1 w1 hown1 hgrow1)
  go_ret
  exact⟨_,rfl,hown1,grow_bel hbel0 hemp hgrow1⟩
theorem cRead (a:Option Addr)(len cap:Nat)(l:List UInt8)(w:World)(h:IsB w a len cap l)(hl:len≤140737488351232):
  Calls Tryz.prog 86 #[.slice a len cap] w fun e w'=>∃B,e=.returned (.pointer (some ⟨B,0,none⟩))∧w.heap.size≤B∧IsR w' B l false∧Below w.heap.size w w':=by
 have H:Hid (IsB w a len cap l):=h
 clear h
 go_enter Tryz.func86,Tryz.ntmps86
 go_wp2_with fail
 refine(cClone a len cap l w H.out hl).mono ?_
 rintro e w1 ⟨v,rfl,ho,hb⟩
 have hk:=ho.blk
 obtain⟨x,c1,rfl,hi⟩:=ho.isB
 clear ho
 go_wp2_with fail
 go_ret
 have hs:=hb.size
 refine⟨w1.heap.size,rfl,hs,⟨x,c1,Blk.newAt w1 _ _ _ (rcell x l.length c1 false) rfl rfl,hi.below ((Below.refl _ _).alloc (Nat.le_refl _) _) rfl,?_⟩,hb.alloc hs _⟩
 rintro y rfl
 have:=(hk y.block rfl).2
 omega
def rdUint (l:List UInt8)(br:Bool):Nat × List UInt8 × Bool:=if okH l br 117 8 then (numTo l 8,l.drop 9,false) else (0,l,true)
def rdSome (mark:UInt8)(l:List UInt8)(br:Bool):List UInt8 × List UInt8 × Bool:=if okB l br mark then ((l.drop 5).take (numTo l 4),l.drop (5+numTo l 4),false) else ([],l,true)
def okL (l:List UInt8)(br:Bool)(most:Int):Bool:=okH l br 108 4&&decide ((numTo l 4:Int)≤most)
def rdList (l:List UInt8)(br:Bool)(most:Int):Nat × List UInt8 × Bool:=if okL l br most then (numTo l 4,l.drop 5,false) else (0,l,true)
attribute [local go_sem ↓] sl5 sl9 slo1
theorem cUint (B:Nat)(l:List UInt8)(br:Bool)(w:World)(h:IsR w B l br):
  Calls Tryz.prog 88 #[.pointer (some ⟨B,0,none⟩)] w fun e w'=>e=.returned (.int .u64 ((rdUint l br).1:Int))∧IsR w' B (rdUint l br).2.1 (rdUint l br).2.2∧w.grownBy w' (some B):=by
 have H:Hid (IsR w B l br):=h
 cases hok:okH l br 117 8
 ·have HO:Hid (okH l br 117 8=false):=hok
  have hrd:rdUint l br=(0,l,true):=by unfold rdUint;rw[hok];rfl
  rw[hrd]
  clear h hok hrd
  go_enter Tryz.func88,Tryz.ntmps88
  go_wp2_with fail
  refine(cheadNo B l br 117 8 w H.out (by decide) (by omega) HO.out).mono ?_
  rintro e w1 ⟨rfl,hr,hg⟩
  go_wp2_with fail
  go_ret
  exact⟨rfl,hr,hg⟩
 ·have HO:Hid (okH l br 117 8=true):=hok
  have hrd:rdUint l br=(numTo l 8,l.drop 9,false):=by unfold rdUint;rw[hok];rfl
  rw[hrd]
  obtain⟨hbr,hl,_⟩:=okH_of hok
  obtain⟨a,cap,hb,hi,hne⟩:=h
  have c0:=hb.cell 0
  have f0:=hb.frozen 0
  have HI:Hid (IsB w a l.length cap l):=hi
  have HB:Hid (Blk w B 188 (rcell a l.length cap br)):=hb
  clear hb hi hrd hok
  simp only[rcell,List.getElem?_cons_zero] at c0
  generalize hn:l.length=n at *
  have HN:Hid (l.length=n):=hn
  clear hn
  obtain⟨b,off,rfl,_⟩:=HI.out.cells (by omega)
  have hbL:b<B:=hne _ rfl
  obtain⟨o2,ho2⟩:=cutA_some b off cap 9
  have I9:Hid (IsB w (some ⟨b,o2,none⟩) (n-9) (cap-9) (l.drop 9)):=by
   have:=HI.out.cut 9 (by omega)
   rw[ho2] at this;exact this
  generalize hm:numTo l 8=m at *
  have Hm:Hid (numTo l 8=m):=hm
  have h9:9≤n:=by omega
  clear hm hl
  go_enter Tryz.func88,Tryz.ntmps88
  go_wp2_with fail
  refine(cheadOk B l br 117 8 w H.out (by omega) HO.out).mono ?_
  rintro e w1 ⟨rfl,hw⟩
  rw[hw,Hm.out];clear hw w1
  go_wp2_with fail
  go_ret
  refine⟨rfl,?_,gr_set _ _ _ _⟩
  have:=isR_rest HB.out I9.out (fun x hx=>by injection hx with hx;rw[←hx];exact hbL)
  rw[hbr] at this
  exact this
theorem cList (B:Nat)(l:List UInt8)(br:Bool)(most:Int)(w:World)(h:IsR w B l br)(hm0:most≤9223372036854775807):
  Calls Tryz.prog 89 #[.pointer (some ⟨B,0,none⟩),.int .i64 most] w fun e w'=>e=.returned (.int .i64 ((rdList l br most).1:Int))∧IsR w' B (rdList l br most).2.1 (rdList l br most).2.2∧w.grownBy w' (some B):=by
 have H:Hid (IsR w B l br):=h
 cases hok:okH l br 108 4
 ·have HO:Hid (okH l br 108 4=false):=hok
  have hrd:rdList l br most=(0,l,true):=by unfold rdList okL;rw[hok];rfl
  rw[hrd]
  clear h hok hrd
  go_enter Tryz.func89,Tryz.ntmps89
  go_wp2_with fail
  refine(cheadNo B l br 108 4 w H.out (by decide) (by omega) HO.out).mono ?_
  rintro e w1 ⟨rfl,hr,hg⟩
  go_wp2_with fail
  go_ret
  exact⟨rfl,hr,hg⟩
 ·have HO:Hid (okH l br 108 4=true):=hok
  obtain⟨hbr,hl,_⟩:=okH_of hok
  obtain⟨a,cap,hb,hi,hne⟩:=h
  have c0:=hb.cell 0
  have f0:=hb.frozen 0
  have HI:Hid (IsB w a l.length cap l):=hi
  have HB:Hid (Blk w B 188 (rcell a l.length cap br)):=hb
  clear hb hi
  simp only[rcell,List.getElem?_cons_zero] at c0
  have hnum:=numTo_lt4 l
  by_cases hmost:(numTo l 4:Int)≤most
  ·have hrd:rdList l br most=(numTo l 4,l.drop 5,false):=by unfold rdList okL;rw[hok];simp[hmost]
   rw[hrd]
   clear hrd hok
   generalize hn:l.length=n at *
   have HN:Hid (l.length=n):=hn
   clear hn
   obtain⟨b,off,rfl,_⟩:=HI.out.cells (by omega)
   have hbL:b<B:=hne _ rfl
   obtain⟨o2,ho2⟩:=cutA_some b off cap 5
   have I9:Hid (IsB w (some ⟨b,o2,none⟩) (n-5) (cap-5) (l.drop 5)):=by
    have:=HI.out.cut 5 (by omega)
    rw[ho2] at this;exact this
   generalize hm:numTo l 4=m at *
   have Hm:Hid (numTo l 4=m):=hm
   have h9:5≤n:=by omega
   have hmn:¬(most<0):=by omega
   have hmg:¬(most<(m:Int)):=by omega
   clear hm hl
   go_enter Tryz.func89,Tryz.ntmps89
   go_wp2_with fail
   refine(cheadOk B l br 108 4 w H.out (by omega) HO.out).mono ?_
   rintro e w1 ⟨rfl,hw⟩
   rw[hw,Hm.out];clear hw w1
   go_wp2_with fail
   go_ret
   refine⟨rfl,?_,gr_set _ _ _ _⟩
   have:=isR_rest HB.out I9.out (fun x hx=>by injection hx with hx;rw[←hx];exact hbL)
   rw[hbr] at this
   exact this
  ·have hrd:rdList l br most=(0,l,true):=by unfold rdList okL;rw[hok];simp[hmost]
   rw[hrd]
   clear hrd hok c0 f0 hne HI HB
   generalize hm:numTo l 4=m at *
   have Hm:Hid (numTo l 4=m):=hm
   clear hm
   by_cases hmn:most<0
   ·go_enter Tryz.func89,Tryz.ntmps89
    go_wp2_with fail
    refine(cheadOk B l br 108 4 w H.out (by omega) HO.out).mono ?_
    rintro e w1 ⟨rfl,hw⟩
    rw[hw,Hm.out];clear hw w1
    go_wp2_with fail
    refine(cfail B l br _ H.out).mono ?_
    rintro e w2 ⟨rfl,hr,hg⟩
    go_wp2_with fail
    go_ret
    exact⟨rfl,hr,hg⟩
   ·have hmg:most<(m:Int):=by omega
    go_enter Tryz.func89,Tryz.ntmps89
    go_wp2_with fail
    refine(cheadOk B l br 108 4 w H.out (by omega) HO.out).mono ?_
    rintro e w1 ⟨rfl,hw⟩
    rw[hw,Hm.out];clear hw w1
    go_wp2_with fail
    refine(cfail B l br _ H.out).mono ?_
    rintro e w2 ⟨rfl,hr,hg⟩
    go_wp2_with fail
    go_ret
    exact⟨rfl,hr,hg⟩
end
section
open Go.RowKit
def add32 (a b:UInt32):UInt32:=a+b
def xor32 (a b:UInt32):UInt32:=a ^^^ b
def and32 (a b:UInt32):UInt32:=a &&& b
def not32 (a:UInt32):UInt32 := ~~~a
def shr32 (a:UInt32)(n:Nat):UInt32:=UInt32.ofNat (a.toNat/2 ^ n)
theorem bits_range (o:BinOp)(x y:Int):0≤bits o .u32 x y∧bits o .u32 x y<4294967296:=by
 unfold bits
 generalize (match o with | .and=>_ | .or=>_ | .xor=>_|_=>_:BitVec IntKind.u32.bits).toNat=n
 simp[IntKind.wrap,IntKind.signed,IntKind.bits]
 omega
def rot (x:UInt32)(n:Nat):UInt32:=UInt32.ofNat (bits .or .u32 ((x.toNat:Int) * 2 ^ (32-n)%4294967296) ((x.toNat:Int)/2 ^ n)).toNat
theorem w_add (a b:UInt32):((a.toNat:Int)+(b.toNat:Int))%4294967296=((add32 a b).toNat:Int):=by
 unfold add32
 rw[UInt32.toNat_add]
 omega
theorem w_addw (a b:UInt32):IntKind.u32.wrap ((a.toNat:Int)+(b.toNat:Int))=((add32 a b).toNat:Int):=by
 rw[←w_add];simp[IntKind.wrap,IntKind.signed,IntKind.bits]
theorem w_xor (a b:UInt32):bits .xor .u32 (a.toNat:Int) (b.toNat:Int)=((xor32 a b).toNat:Int):=bits_xor32 a b
theorem w_and (a b:UInt32):bits .and .u32 (a.toNat:Int) (b.toNat:Int)=((and32 a b).toNat:Int):=bits_and32 a b
theorem w_not (a:UInt32):bits .xor .u32 4294967295 (a.toNat:Int)=((not32 a).toNat:Int):=by
 have h:=bits_xor32 4294967295 a
 have e:(4294967295:UInt32) ^^^ a = ~~~a:=by
  apply UInt32.toBitVec_inj.1
  rw[UInt32.toBitVec_xor,UInt32.toBitVec_not]
  exact BitVec.allOnes_xor
 rw[e] at h;exact h
theorem w_notm (a:UInt32):bits .xor .u32 IntKind.u32.max (a.toNat:Int)=((not32 a).toNat:Int):=w_not a
theorem w_shr (a:UInt32)(n:Nat):(a.toNat:Int)/2 ^ n=((shr32 a n).toNat:Int):=by
 unfold shr32
 have:a.toNat/2 ^ n<4294967296:=Nat.lt_of_le_of_lt (Nat.div_le_self _ _) a.toNat_lt
 rw[UInt32.toNat_ofNat',Nat.mod_eq_of_lt this]
 norm_cast
theorem w_shr3 (a:UInt32):(a.toNat:Int)/8=((shr32 a 3).toNat:Int):=w_shr a 3
theorem w_shr10 (a:UInt32):(a.toNat:Int)/1024=((shr32 a 10).toNat:Int):=w_shr a 10
theorem w_rot (x:UInt32)(n:Nat):bits .or .u32 ((x.toNat:Int) * 2 ^ (32-n)%4294967296) ((x.toNat:Int)/2 ^ n)=((rot x n).toNat:Int):=by
 unfold rot
 have:=bits_range .or ((x.toNat:Int) * 2 ^ (32-n)%4294967296) ((x.toNat:Int)/2 ^ n)
 rw[UInt32.toNat_ofNat']
 omega
theorem ret_int32 {a b:Int}(h:a=b):Ending.returned (.int .u32 a)=.returned (.int .u32 b):=by rw[h]
theorem and31 (n:Nat)(h0:1≤n)(h1:n≤31):bits .and .u64 (IntKind.u64.wrap (-(n:Int))) 31=((32-n:Nat):Int):=by
 have:∀n:Nat,n<32→1≤n→bits .and .u64 (IntKind.u64.wrap (-(n:Int))) 31=((32-n:Nat):Int):=by decide +kernel
 exact this n (by omega) h0
theorem rotLneg (x:UInt32)(n:Nat)(h0:1≤n)(h1:n≤31)(w:World):
  Calls Tryz.prog 243 #[.int .u32 (x.toNat:Int),.int .i64 (-(n:Int))] w fun e w'=>e=.returned (.int .u32 ((rot x n).toNat:Int))∧w'=w:=by
 have e1:=and31 n h0 h1
 have e2:32-(32-n)=n:=by omega
 have H:Hid (bits .or .u32 ((x.toNat:Int) * 2 ^ (32-n)%4294967296) ((x.toNat:Int)/2 ^ n)=((rot x n).toNat:Int)):=w_rot x n
 go_enter Tryz.func243,Tryz.ntmps243
 go_wp2
 go_ret
 exact⟨ret_int32 H.out,rfl⟩
theorem digRight (x:UInt32)(n:Nat)(h0:1≤n)(h1:n≤31)(w:World):
  Calls Tryz.prog 225 #[.int .u32 (x.toNat:Int),.int .i64 (n:Int)] w fun e w'=>e=.returned (.int .u32 ((rot x n).toNat:Int))∧w'=w:=by
 go_enter Tryz.func225,Tryz.ntmps225
 go_wp2_with fail
 refine(rotLneg x n h0 h1 _).mono ?_
 rintro e w' ⟨rfl,rfl⟩
 go_wp2
 go_ret
 exact⟨rfl,rfl⟩
theorem digRightI (x:UInt32)(k:Int)(h0:1≤k)(h1:k≤31)(w:World):
  Calls Tryz.prog 225 #[.int .u32 (x.toNat:Int),.int .i64 k] w fun e w'=>e=.returned (.int .u32 ((rot x k.toNat).toNat:Int))∧w'=w:=by
 have h:=digRight x k.toNat (by omega) (by omega) w
 have e:((k.toNat:Nat):Int)=k:=by omega
 rw[e] at h;exact h
def wv (l:List UInt32):List Value:=l.map fun x=>.int .u32 (x.toNat:Int)
def nthW (l:List UInt32)(i:Nat):UInt32:=l.getD i 0
theorem nthW_eq (l:List UInt32)(i:Nat)(h:i<l.length):nthW l i=l[i]:=by
 unfold nthW;rw[List.getD_eq_getElem?_getD,List.getElem?_eq_getElem h];rfl
theorem wv_at (l:List UInt32)(i:Nat)(h:i<l.length):(wv l)[i]?=some (.int .u32 ((nthW l i).toNat:Int)):=by
 rw[nthW_eq l i h];simp[wv,List.getElem?_eq_getElem h]
theorem wv_length (l:List UInt32):(wv l).length=l.length:=by simp[wv]
theorem wv_set (l:List UInt32)(i:Nat)(x:UInt32):wv (l.set i x)=(wv l).set i (.int .u32 (x.toNat:Int)):=by unfold wv;rw[List.map_set]
theorem wv_one (l:List UInt32):∀u∈wv l,u.oneCell'=true:=by
 intro u hu
 obtain⟨b,_,rfl⟩:=List.mem_map.1 hu
 rfl
theorem keepc {w:World}{a b:Addr}{v:Value}{x:Option Value}(h:w.cell? b=x)(hne:a≠b):(w.setCell a v).drew.cell? b=x :=
 (World.cell?_setCell_other _ _ _ _ hne).trans h
theorem addr_ne {B i j:Nat}(h:i≠j):(⟨B,i,none⟩:Addr)≠⟨B,j,none⟩:=by
 intro e;injection e with _ e2;exact h e2
theorem wv_all (l:List UInt32):(wv l).toArray.all (·.oneCell')=true:=all_oneCell_toArray (wv_one l)
end
section
def ab (mix:List UInt32→List UInt8→List UInt32)(start:List UInt32)(A:List UInt8):Nat→List UInt32
 | 0=>start
 | j+1=>mix (ab mix start A j) ((A.drop (64 * j)).take 64)
theorem nth_take (l:List UInt8)(k i:Nat)(h:i<k):nth (l.take k) i=nth l i:=by
 unfold nth;rw[List.getD_eq_getElem?_getD,List.getD_eq_getElem?_getD,List.getElem?_take,if_pos h]
theorem nth_append_left (l m:List UInt8)(i:Nat)(h:i<l.length):nth (l++m) i=nth l i:=by
 unfold nth;rw[List.getD_eq_getElem?_getD,List.getD_eq_getElem?_getD,List.getElem?_append_left h]
theorem nth_append_right (l m:List UInt8)(i:Nat)(h:l.length≤i):nth (l++m) i=nth m (i-l.length):=by
 unfold nth;rw[List.getD_eq_getElem?_getD,List.getD_eq_getElem?_getD,List.getElem?_append_right h]
theorem extNth (l m:List UInt8)(h:l.length=m.length)(hn:∀k,k<l.length→nth l k=nth m k):l=m:=by
 apply List.ext_getElem h
 intro i h1 h2
 have:=hn i h1
 rwa [nth_eq l i h1,nth_eq m i h2] at this
theorem ab_prefix (mix:List UInt32→List UInt8→List UInt32)(start:List UInt32)(A B:List UInt8):∀j,64 * j≤A.length→ab mix start (A++B) j=ab mix start A j
 | 0,_=>rfl
 | j+1,h=>by
  rw[ab,ab,ab_prefix mix start A B j (by omega)]
  congr 1
  rw[List.drop_append_of_le_length (by omega),List.take_append_of_le_length (by rw[List.length_drop];omega)]
def spl (buf:List UInt8)(at_:Nat)(x:List UInt8):List UInt8:=buf.take at_++(x++buf.drop (at_+x.length))
theorem spl_length (buf:List UInt8)(at_:Nat)(x:List UInt8)(h:at_+x.length≤buf.length):(spl buf at_ x).length=buf.length:=by
 simp[spl];omega
theorem spl_low (buf:List UInt8)(at_:Nat)(x:List UInt8)(i:Nat)(h:i<at_)(hb:at_≤buf.length):nth (spl buf at_ x) i=nth buf i:=by
 unfold spl;rw[nth_append_left _ _ _ (by rw[List.length_take];omega),nth_take _ _ _ h]
theorem spl_mid (buf:List UInt8)(at_:Nat)(x:List UInt8)(i:Nat)(h:at_≤i)(h':i<at_+x.length)(hb:at_≤buf.length):nth (spl buf at_ x) i=nth x (i-at_):=by
 have e:(buf.take at_).length=at_:=by rw[List.length_take];omega
 unfold spl;rw[nth_append_right _ _ _ (by omega),e,nth_append_left _ _ _ (by omega)]
structure Inv (mix:List UInt32→List UInt8→List UInt32)(start:List UInt32)(A:List UInt8)(q:Nat)(ws:List UInt32)(buf:List UInt8):Prop where
 words:ws=ab mix start A (q/64)
 size:buf.length=64
 bytes:∀i,i<q%64→nth buf i=nth A (64 * (q/64)+i)
theorem Inv.start_ (mix:List UInt32→List UInt8→List UInt32)(start:List UInt32)(A buf:List UInt8)(h:buf.length=64):Inv mix start A 0 start buf :=
 ⟨rfl,h,fun i hi=>absurd hi (by simp)⟩
theorem Inv.part {mix:List UInt32→List UInt8→List UInt32}{start:List UInt32}{A:List UInt8}{q m:Nat}{ws:List UInt32}{buf:List UInt8}(h:Inv mix start A q ws buf)
  (hq:q+m≤A.length) (hm:q%64+m<64):Inv mix start A (q+m) ws (spl buf (q%64) ((A.drop q).take m)):=by
 have hl:((A.drop q).take m).length=m:=by rw[List.length_take,List.length_drop];omega
 have e1:(q+m)/64=q/64:=by omega
 have e2:(q+m)%64=q%64+m:=by omega
 refine⟨by rw[e1];exact h.words,by rw[spl_length _ _ _ (by rw[hl,h.size];omega)];exact h.size,fun i hi=>?_⟩
 rw[e1];rw[e2] at hi
 by_cases hlt:i<q%64
 ·rw[spl_low _ _ _ _ hlt (by rw[h.size];omega)];exact h.bytes i hlt
 ·rw[spl_mid _ _ _ _ (by omega) (by rw[hl];exact hi) (by rw[h.size];omega),nth_take _ _ _ (by omega),nth_drop]
  congr 1;omega
theorem Inv.full {mix:List UInt32→List UInt8→List UInt32}{start:List UInt32}{A:List UInt8}{q m:Nat}{ws:List UInt32}{buf:List UInt8}(h:Inv mix start A q ws buf)
  (hq:q+m≤A.length) (hm:q%64+m=64):Inv mix start A (q+m) (mix ws (spl buf (q%64) ((A.drop q).take m))) (spl buf (q%64) ((A.drop q).take m)):=by
 have hl:((A.drop q).take m).length=m:=by rw[List.length_take,List.length_drop];omega
 have e1:(q+m)/64=q/64+1:=by omega
 have e2:(q+m)%64=0:=by omega
 have hsz:(spl buf (q%64) ((A.drop q).take m)).length=64:=by rw[spl_length _ _ _ (by rw[hl,h.size];omega)];exact h.size
 have eb:spl buf (q%64) ((A.drop q).take m)=(A.drop (64 * (q/64))).take 64:=by
  refine extNth _ _ (by rw[hsz,List.length_take,List.length_drop];omega) fun i hi=>?_
  rw[hsz] at hi
  rw[nth_take _ _ _ hi,nth_drop]
  by_cases hlt:i<q%64
  ·rw[spl_low _ _ _ _ hlt (by rw[h.size];omega)];exact h.bytes i hlt
  ·rw[spl_mid _ _ _ _ (by omega) (by rw[hl];omega) (by rw[h.size];omega),nth_take _ _ _ (by omega),nth_drop]
   congr 1;omega
 refine⟨by rw[e1,ab,h.words,←eb],hsz,fun i hi=>absurd hi (by omega)⟩
theorem Inv.more {mix:List UInt32→List UInt8→List UInt32}{start:List UInt32}{A:List UInt8}{q:Nat}{ws:List UInt32}{buf:List UInt8}(h:Inv mix start A q ws buf)(hq:q≤A.length)(B:List UInt8):Inv mix start (A++B) q ws buf :=
 ⟨by rw[ab_prefix mix start A B (q/64) (by omega)];exact h.words,h.size,fun i hi=>by rw[nth_append_left _ _ _ (by omega)];exact h.bytes i hi⟩
def rc (kc:List Value)(ws:List UInt32)(buf:List UInt8)(n:Nat):List Value:=kc++(wv ws++(bv buf++[.int .u64 (n:Int)]))
theorem rc_length (kc:List Value)(ws:List UInt32)(buf:List UInt8)(n:Nat)(h1:kc.length=10)(h2:ws.length=8)(h3:buf.length=64):(rc kc ws buf n).length=83:=by
 simp[rc,wv_length,bv_length,h1,h2,h3]
theorem rc_kind (kc:List Value)(ws:List UInt32)(buf:List UInt8)(n i:Nat)(h1:kc.length=10)(hi:i<10):(rc kc ws buf n)[i]?=kc[i]?:=by
 unfold rc;rw[List.getElem?_append_left (by omega)]
theorem rc_word (kc:List Value)(ws:List UInt32)(buf:List UInt8)(n i:Nat)(h1:kc.length=10)(h2:ws.length=8)(hi:i<8):(rc kc ws buf n)[10+i]?=some (.int .u32 ((nthW ws i).toNat:Int)):=by
 unfold rc
 rw[List.getElem?_append_right (by omega),List.getElem?_append_left (by rw[wv_length];omega)]
 have:10+i-kc.length=i:=by omega
 rw[this,wv_at ws i (by omega)]
theorem rc_byte (kc:List Value)(ws:List UInt32)(buf:List UInt8)(n i:Nat)(h1:kc.length=10)(h2:ws.length=8)(h3:buf.length=64)(hi:i<64):(rc kc ws buf n)[18+i]?=some (.int .u8 ((nth buf i).toNat:Int)):=by
 unfold rc
 rw[List.getElem?_append_right (by omega),List.getElem?_append_right (by rw[wv_length];omega),List.getElem?_append_left (by rw[wv_length,bv_length];omega)]
 have:18+i-kc.length-(wv ws).length=i:=by rw[wv_length];omega
 rw[this,bv_at buf i (by omega)]
theorem rc_taken (kc:List Value)(ws:List UInt32)(buf:List UInt8)(n:Nat)(h1:kc.length=10)(h2:ws.length=8)(h3:buf.length=64):(rc kc ws buf n)[82]?=some (.int .u64 (n:Int)):=by
 unfold rc
 rw[List.getElem?_append_right (by omega),List.getElem?_append_right (by rw[wv_length];omega),List.getElem?_append_right (by rw[wv_length,bv_length];omega)]
 have:82-kc.length-(wv ws).length-(bv buf).length=0:=by rw[wv_length,bv_length];omega
 rw[this];rfl
theorem rc_setTaken (kc:List Value)(ws:List UInt32)(buf:List UInt8)(n m:Nat)(h1:kc.length=10)(h2:ws.length=8)(h3:buf.length=64):(rc kc ws buf n).set 82 (.int .u64 (m:Int))=rc kc ws buf m:=by
 unfold rc
 rw[List.set_append_right _ _ (by omega),List.set_append_right _ _ (by rw[wv_length];omega),List.set_append_right _ _ (by rw[wv_length,bv_length];omega)]
 have:82-kc.length-(wv ws).length-(bv buf).length=0:=by rw[wv_length,bv_length];omega
 rw[this];rfl
theorem rc_copy (kc:List Value)(ws:List UInt32)(buf:List UInt8)(n at_:Nat)(x:List UInt8)(h1:kc.length=10)(h2:ws.length=8)(h3:buf.length=64)(hx:at_+x.length≤64):
  (rc kc ws buf n).take (18+at_)++(bv x++(rc kc ws buf n).drop (18+at_+(bv x).length))=rc kc ws (spl buf at_ x) n:=by
 have e1:(rc kc ws buf n).take (18+at_)=kc++(wv ws++bv (buf.take at_)):=by
  unfold rc
  rw[List.take_append,List.take_append,List.take_append,wv_length,bv_length,h1,h2,h3]
  have a1:18+at_-10-8=at_:=by omega
  have a2:18+at_-10-8-64=0:=by omega
  rw[List.take_of_length_le (by omega),List.take_of_length_le (by rw[wv_length];omega),a2,a1]
  unfold bv;rw[List.map_take];simp
 have e2:(rc kc ws buf n).drop (18+at_+(bv x).length)=bv (buf.drop (at_+x.length))++[.int .u64 (n:Int)]:=by
  unfold rc
  rw[bv_length,List.drop_append,List.drop_append,List.drop_append,wv_length,bv_length,h1,h2,h3]
  have a1:18+at_+x.length-10-8=at_+x.length:=by omega
  have a2:18+at_+x.length-10-8-64=0:=by omega
  rw[List.drop_eq_nil_of_le (by omega),List.drop_eq_nil_of_le (by rw[wv_length];omega),a2,a1]
  unfold bv;rw[List.map_drop];simp
 rw[e1,e2]
 unfold rc spl
 simp[bv_append,List.append_assoc]
theorem rc_words (kc:List Value)(ws vs:List UInt32)(buf:List UInt8)(n:Nat)(h1:kc.length=10)(h2:ws.length=8):
  (rc kc ws buf n).take 10++(wv vs++(rc kc ws buf n).drop 18)=rc kc vs buf n:=by
 unfold rc
 rw[List.take_append,List.drop_append,List.drop_append,wv_length,h1,h2]
 simp[List.take_of_length_le,List.drop_eq_nil_of_le,h1,wv_length,h2]
open Go.RowKit
theorem Blk.setCells {B t:Nat}:∀(vs:List Value) (o:Nat) (w:World) (cs:List Value),o+vs.length≤cs.length→Blk w B t cs→Blk (w.setCells B o vs) B t (cs.take o++(vs++cs.drop (o+vs.length)))
 | [],o,w,cs,_,h=>by simpa [World.setCells] using h
 | v::vs,o,w,cs,hl,h=>by
  rw[World.setCells]
  have ih:=Blk.setCells vs (o+1) (w.setCell ⟨B,o,none⟩ v) (cs.set o v) (by simp at hl ⊢;omega) (h.set o v)
  have ho:o<cs.length:=by simp at hl;omega
  have e1:(cs.set o v).take (o+1)=cs.take o++[v]:=by
   rw[List.take_set,List.take_succ_eq_append_getElem ho,List.set_append_right _ _ (by simp;omega)]
   have:o-(cs.take o).length=0:=by simp;omega
   rw[this];rfl
  have e2:(cs.set o v).drop (o+1+vs.length)=cs.drop (o+(v::vs).length):=by
   rw[List.drop_set_of_lt (by omega)];congr 1;simp;omega
  rw[e1,e2] at ih
  simpa using ih
theorem setCells_size (B:Nat):∀(vs:List Value) (o:Nat) (w:World),(w.setCells B o vs).heap.size=w.heap.size
 | [],_,_=>rfl
 | v::vs,o,w=>by rw[World.setCells,setCells_size B vs (o+1) _];simp[World.setCell]
theorem setCells_os (B:Nat):∀(vs:List Value) (o:Nat) (w:World),(w.setCells B o vs).os=w.os∧(w.setCells B o vs).tape=w.tape∧(w.setCells B o vs).output=w.output
 | [],_,_=>⟨rfl,rfl,rfl⟩
 | v::vs,o,w=>by rw[World.setCells];exact setCells_os B vs (o+1) (w.setCell ⟨B,o,none⟩ v)
theorem setCells_other (B k:Nat)(hk:k≠B):∀(vs:List Value) (o:Nat) (w:World),(w.setCells B o vs).heap[k]?=w.heap[k]?
 | [],_,_=>rfl
 | v::vs,o,w=>by rw[World.setCells,setCells_other B k hk vs (o+1) _];exact Below.heap_setCell _ _ _ _ hk
theorem gb_below {w a b:World}{G:Nat}(h:w.grownBy a (some G))(k:Below a.heap.size a b):w.grownBy b (some G):=
 ⟨k.os.trans h.os,k.tape.trans h.tape,k.output.trans h.output,Nat.le_trans h.size k.size,fun i hi hne=>(k.block i (Nat.lt_of_lt_of_le hi h.size)).trans (h.block i hi hne)⟩
theorem gb_setCells {w a:World}{G:Nat}(h:w.grownBy a (some G))(o:Nat)(vs:List Value):w.grownBy (a.setCells G o vs) (some G):=
 ⟨(setCells_os G vs o a).1.trans h.os,(setCells_os G vs o a).2.1.trans h.tape,(setCells_os G vs o a).2.2.trans h.output,by rw[setCells_size];exact h.size,
  fun i hi hne=>(setCells_other G i (fun e=>hne (by rw[e])) vs o a).trans (h.block i hi hne)⟩
theorem IsB.setCells {w:World}{a:Option Addr}{len cap:Nat}{l:List UInt8}(h:IsB w a len cap l)(G o:Nat)(vs:List Value)(hG:0<len→∀b off,a=some ⟨b,off,none⟩→b≠G):IsB (w.setCells G o vs) a len cap l :=
 ⟨h.len_eq,h.le,h.max,h.nil,fun hp=>by
  obtain⟨b,off,e,hc⟩:=h.cells hp
  exact⟨b,off,e,fun i hi=>by rw[World.cell?_of_block (setCells_other G b (hG hp b off e) vs o w)];exact hc i hi⟩⟩
theorem Blk.range {w:World}{B t:Nat}{cs:List Value}(h:Blk w B t cs)(o:Nat)(vs:List Value)(hv:∀j v,vs[j]?=some v→cs[o+j]?=some v):w.rangeAt B o vs :=
 fun j v hj=>by rw[h.cell];exact hv j v hj
theorem Blk.there {w:World}{B t:Nat}{cs:List Value}(h:Blk w B t cs)(o n:Nat)(hn:o+n≤cs.length):w.there B o n :=
 fun j hj=>⟨by rw[h.cell,List.getElem?_eq_getElem (by omega)];rfl,h.frozen _⟩
end
end Go.Proofs.YtpecobmfabmpkaaGreatDoor
