/- OpenK13 RLaid Env13 -/
import Derived.Test.YtpecobmfabmpkaaGreatDoorM41
import Derived.Stop.LaidErr
import Derived.Shelf.Vars
import Derived.Lib.LaidTab
import Derived.MakeChecks
import Derived.SizedLaws
import Derived.Test.YtpecobmfabmpkaaGreatDoorRows
set_option maxRecDepth 100000
set_option maxHeartbeats 1000000
namespace Go.Proofs.YtpecobmfabmpkaaGreatDoor
open Go.ChangeShapes Go.WideShapes
structure KqIn (W:World)(q:Kq):Prop where
 k:IsB W q.2.a q.1.key.length q.2.c q.1.key
 v:IsB W q.2.b q.1.value.length q.2.d q.1.value
 kl:q.1.key.length≤140737488351232
 vl:q.1.value.length≤140737488351232
 r:KqR q
theorem open_kqc {H:Type}{enc:TypeId × Value→H}{W:World}(n:Nat)(cs:List Value)(x:DataW H × List MemPlace)(h:DataW.trod enc Tryz.prog W 0 (fun _=>true) true n 35 cs=some x)(hN:∀ m∈x.1.weights Tryz.prog 35,m≤140737488351232):
  ∃ q:Kq,cs=kpc q.1 q.2∧KqIn W q:=by
 obtain ⟨d,pl⟩:=x
 obtain ⟨xs,k,hk,hxy,hcl,hxl,hf⟩:=DataW.trod_struct Tryz.underlying35 h
 rw [show Tryz.prog.cellsOf 35=5 by kernel_rfl] at hcl
 match xs,hxl,cs,hcl with
 | [y0,y1,y2,y3,y4],_,[v0,v1,v2,v3,v4],_ =>
  have g0:=hf 0 _ rfl
  have g1:=hf 1 _ rfl
  have g2:=hf 2 _ rfl
  have g3:=hf 3 _ rfl
  have g4:=hf 4 _ rfl
  have c_i:Tryz.prog.cellsOf 3=1:=by kernel_rfl
  have c_y:Tryz.prog.cellsOf 33=1:=by kernel_rfl
  simp [c_i] at g0
  simp [c_y] at g1
  simp [c_i] at g2
  simp [c_i] at g3
  simp [c_y] at g4
  have hd:d=.agg [y0.1,y1.1,y2.1,y3.1,y4.1]:=by have:=(Prod.mk.inj hxy).1;simpa using this
  obtain ⟨x0,e0,_,r0⟩:=DataW.trod_int Tryz.underlying3 g0
  simp only [List.cons.injEq,and_true] at e0
  subst e0
  have i0:-9223372036854775808≤x0∧x0≤9223372036854775807:=by simpa [Lit.wf,IntKind.min,IntKind.max,IntKind.signed,IntKind.bits] using r0
  obtain ⟨a1,m1,p1,rfl⟩:=slice_of14 Tryz.underlying33 g1
  have hw1:∀ n∈y1.1.weights Tryz.prog 33,n≤140737488351232:=fun n hn=>hN n (by
   rw [hd]
   simp only [DataW.weights,Tryz.underlying35,DataW.weightsEach,List.map_cons,List.map_nil]
   simp [hn])
  obtain ⟨b1,h1,hL1⟩:=open_bytes g1
  have n1:=hL1 _ hw1
  obtain rfl:=h1.len_eq
  obtain ⟨x2,e2,_,r2⟩:=DataW.trod_int Tryz.underlying3 g2
  simp only [List.cons.injEq,and_true] at e2
  subst e2
  have i2:-9223372036854775808≤x2∧x2≤9223372036854775807:=by simpa [Lit.wf,IntKind.min,IntKind.max,IntKind.signed,IntKind.bits] using r2
  obtain ⟨x3,e3,_,r3⟩:=DataW.trod_int Tryz.underlying3 g3
  simp only [List.cons.injEq,and_true] at e3
  subst e3
  have i3:-9223372036854775808≤x3∧x3≤9223372036854775807:=by simpa [Lit.wf,IntKind.min,IntKind.max,IntKind.signed,IntKind.bits] using r3
  obtain ⟨a4,m4,p4,rfl⟩:=slice_of14 Tryz.underlying33 g4
  have hw4:∀ n∈y4.1.weights Tryz.prog 33,n≤140737488351232:=fun n hn=>hN n (by
   rw [hd]
   simp only [DataW.weights,Tryz.underlying35,DataW.weightsEach,List.map_cons,List.map_nil]
   simp [hn])
  obtain ⟨b4,h4,hL4⟩:=open_bytes g4
  have n4:=hL4 _ hw4
  obtain rfl:=h4.len_eq
  exact ⟨(⟨x0,b1,x2,x3,b4⟩,⟨a1,p1,a4,p4⟩),rfl,⟨h1,h4,n1,n4,⟨i2.1,i2.2,i3.1,i3.2⟩⟩⟩
theorem open_ks13 {H:Type}{enc:TypeId × Value→H}{W:World}{fuel:Nat}{a:Option Addr}{len cap:Nat}{x:DataW H × List MemPlace}(h:DataW.trod enc Tryz.prog W 0 (fun _=>true) true fuel 22 [.slice a len cap]=some x)(hN:∀ n∈x.1.weights Tryz.prog 22,n≤140737488351232):
  ∃ l,IsK13 W.heap.size W a len l∧(∀ y∈l,KqR y)∧len≤140737488351232:=by
 obtain ⟨l,h1,h2,h3,_,_⟩:=open_row ((⟨0,[],0,0,[]⟩,⟨none,0,none,0⟩):Kq) 5 (fun q=>kpc q.1 q.2) (KqIn W) 22 35 Tryz.underlying22 (by kernel_rfl) (by decide) (fun _=>rfl) open_kqc h hN
 rw [show Tryz.prog.bytesOf 35=72 by kernel_rfl] at h3
 refine ⟨l,⟨h1.len,fun hp=>?_,fun y hy=>kpk_in (h2 y hy).k (h2 y hy).v,fun y hy=>⟨by have:=(h2 y hy).kl;omega,by have:=(h2 y hy).vl;omega⟩⟩,fun y hy=>(h2 y hy).r,by omega⟩
 obtain ⟨g,off,e,_,hc⟩:=h1.cells hp
 refine ⟨g,off,e,fun k y hy j hj=>?_⟩
 have h5:(kpc y.1 y.2)[j]?=some ((kpc y.1 y.2)[j]'(by simpa [kpc] using hj)):=List.getElem?_eq_getElem _
 rw [h5]
 exact hc k y hy j _ h5
end Go.Proofs.YtpecobmfabmpkaaGreatDoor
namespace Go.Proofs.YtpecobmfabmpkaaGreatDoor
open Go.RowKit
theorem returns_laid {H:Type}{enc:TypeId × Value→H}{a:Assume}{C:Checked}{os:Os}{f:FuncId}{fn:Func}{s:ChangeSpec}{conds:List PathCond}{apart fresh handsOn again:Bool}{X:World→Array Value→Prop}
  (hX:∀ (w w':World) (args:Array Value),w.heap=w'.heap→X w args→X w' args)
  (own:ownKnob C.prog.godebug=none) (started:os.Started) (noInit:C.prog.inits.idxOf? f=none) (hfn:C.prog.funcs[f]?=some fn)
  (witness:∃ (w:World) (tape:Tape) (i:Input),w.os=os∧(w.forCall tape i).Shaped C.prog∧i.vars=[]∧Input.okWide C.prog (w.forCall tape i) .any w.heap.size f i ∧
   ((s.pre enc C.prog fn conds apart (w.forCall tape i).memory i.args∧X (w.forCall tape i).memory i.args)∧sizedMet enc C.prog fn (OpenSpec.ofChange s) apart (w.forCall tape i).memory i.args)∧a.holds C.prog (lone (Frame.enter C.prog f i.args .normal) [] (w.forCall tape i)))
  (contract:∀ (W:World) (base:Nat) (args:Array Value) (ds gs:List (DataW H)) (before:List MemPlace),
   (∀ (j:Nat) t v,fn.params[j]?=some t→args[j]?=some v→Value.okWide C.prog W .any base t v) →
   DataW.Whole enc C.prog fn.params.toList s.vars apart W args.toList ds gs before →
   conds.all (PathCond.test C.prog ⟨fn.params.toList,ds,s.plain.varTypes C.prog,gs⟩)=true →
   (DataW.weightsEach C.prog (fn.params.toList++s.plain.varTypes C.prog) (ds++gs)).all (·≤reachBytes)=true→X W args→W.ShapedOpen C.prog →
   a.holds C.prog (lone (Frame.enter C.prog f args .normal) [] W) →
   Calls C.prog f args W fun e W'=>∃ v,e=.returned v∧s.post enc C.prog fn apart fresh handsOn again W args v W'):
  ReturnsInHanded a C os f .any (fun w args=>(s.pre enc C.prog fn conds apart w args∧X w args)∧sizedMet enc C.prog fn (OpenSpec.ofChange s) apart w args) (s.post enc C.prog fn apart fresh handsOn again):=by
 refine returnsInHanded_of_calls own started noInit witness ?_
 intro w tape i _ hsh _ hok hpre hholds
 obtain ⟨_,_,_,fn',hfn',_,_,_,_,hval⟩:=hok
 have e:fn'=fn:=Option.some.inj (hfn'.symm.trans hfn)
 subst e
 obtain ⟨⟨⟨ds,gs,before,hw,hc⟩,hx⟩,hz⟩:=hpre
 have hw':=DataW.Whole.of_heap (w':=w.forCall tape i) (by rfl) hw
 refine (contract (w.forCall tape i) w.heap.size i.args ds gs before hval hw' hc (hz.weights hw) (hX _ _ _ (by rfl) hx) hsh hholds).mono fun e W' ⟨v,he,hp⟩=>?_
 subst he
 exact ChangeSpec.post_blind hp
abbrev laidQ13:List (String × DataW Unit):=[("unicode/utf8.acceptRanges",Rows.laid_unicode_utf8_acceptRanges),("unicode/utf8.first",Rows.laid_unicode_utf8_first)]
end Go.Proofs.YtpecobmfabmpkaaGreatDoor
