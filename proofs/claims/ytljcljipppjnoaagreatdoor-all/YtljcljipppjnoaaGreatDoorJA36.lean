import Derived.Test.YtljcljipppjnoaaGreatDoorRows
import Derived.ProofKit
import Derived.LaidMore
import Derived.OpenShut
import Derived.Stop.Joined
import Derived.Stop.LaidErr
namespace Go.Proofs.YtljcljipppjnoaaGreatDoor
open Go.ChangeShapes Go.WideShapes Go.ChangeAt Go.WideMaps Go.WideElems Go.RowKit
theorem Tryz.own:ownKnob Tryz.prog.godebug=none:=by kernel_rfl
theorem Tryz.gLong : Tryz.prog.globalNamed "prose/api.ErrLong" = some 1 := by kernel_rfl
theorem Tryz.gIdle : Tryz.prog.globalNamed "prose/api.ErrIdle" = some 2 := by kernel_rfl
theorem Tryz.gSink : Tryz.prog.globalNamed "prose/api.ErrSink" = some 0 := by kernel_rfl
theorem Tryz.tLong:(Tryz.prog.globals[1]?).map (·.type)=some 98:=by kernel_rfl
theorem Tryz.tIdle:(Tryz.prog.globals[2]?).map (·.type)=some 98:=by kernel_rfl
theorem Tryz.tSink:(Tryz.prog.globals[0]?).map (·.type)=some 98:=by kernel_rfl
theorem Tryz.cellsES:Tryz.prog.cellsOf 312=1:=by kernel_rfl
theorem Tryz.cellsStr:Tryz.prog.cellsOf 9=1:=by kernel_rfl
theorem Tryz.star : "*" ++ "errors.errorString" = "*errors.errorString" := by decide
theorem Tryz.rowES (u : TypeId) (h : Tryz.prog.typeName? 3 u = some "*errors.errorString") : u = 292 :=
  typeName_ptr_named (nm := "errors.errorString") (by rw [Tryz.star]; kernel_rfl) (by kernel_rfl) (by decide) u (by rw [Tryz.star]; exact h)
theorem three_sents {P:Program} {W:World} {r:List (String × DataW Unit)} {n0 n1 n2 nm:String} {x0 x1 x2:List UInt8} {g0 g1 g2:Nat} {ti tp te ts:TypeId} {ms:Array (String × TypeId)} {f:Field}
    (h:laidMet P ((n0,.iface nm (.ptr (.agg [.lit (.string x0)]))) :: (n1,.iface nm (.ptr (.agg [.lit (.string x1)]))) :: (n2,.iface nm (.ptr (.agg [.lit (.string x2)]))) :: r) W)
    (eg0:P.globalNamed n0=some g0) (eg1:P.globalNamed n1=some g1) (eg2:P.globalNamed n2=some g2)
    (et0:(P.globals[g0]?).map (·.type)=some ti) (et1:(P.globals[g1]?).map (·.type)=some ti) (et2:(P.globals[g2]?).map (·.type)=some ti)
    (hi:P.underlying ti=some (.interface ms)) (hrow:∀ u,P.typeName? 3 u=some nm→u=tp)
    (hp:P.underlying tp=some (.pointer te)) (he:P.underlying te=some (.struct #[f])) (hft:f.type=ts) (hfo:f.offset=0) (hs:P.underlying ts=some .string) (hc:P.cellsOf te=1) (hcs:P.cellsOf ts=1) :
    ∃ (a0 a1 a2:Addr) (c0 c1 c2:Array Value) (t0 t1 t2:TypeId),
      W.cell? ⟨g0,0,none⟩=some (.iface tp (.pointer (some a0))) ∧
      W.cell? ⟨g1,0,none⟩=some (.iface tp (.pointer (some a1))) ∧
      W.cell? ⟨g2,0,none⟩=some (.iface tp (.pointer (some a2))) ∧
      a1 ≠ a0∧a2 ≠ a0∧a2 ≠ a1 ∧
      W.heap[a0.block]?=some (.cells c0 t0 (0,0))∧W.heap[a1.block]?=some (.cells c1 t1 (0,0))∧W.heap[a2.block]?=some (.cells c2 t2 (0,0)):=by
  obtain ⟨ps,⟨g0',t0,cs0,f0,p0,q0,hg0,ht0,hv0,hd0,⟨g1',t1,cs1,f1,p1,q1,hg1,ht1,hv1,hd1,⟨g2',t2,cs2,f2,p2,q2,hg2,ht2,hv2,hd2,_,e2⟩,e1⟩,e0⟩,hnd,hrows⟩:=h
  obtain rfl:=Option.some.inj (eg0.symm.trans hg0)
  obtain rfl:=Option.some.inj (eg1.symm.trans hg1)
  obtain rfl:=Option.some.inj (eg2.symm.trans hg2)
  obtain rfl:=Option.some.inj (et0.symm.trans ht0)
  obtain rfl:=Option.some.inj (et1.symm.trans ht1)
  obtain rfl:=Option.some.inj (et2.symm.trans ht2)
  subst e2
  subst e1
  subst e0
  obtain ⟨l0⟩:=cs0
  obtain ⟨l1⟩:=cs1
  obtain ⟨l2⟩:=cs2
  have ok0:∀ u v,l0=[.iface u v]→Value.okWide P W .any 0 u v:=fun u v e=>by
    subst e
    exact (hrows g0 0 (by simp [MemPlace.row])).2 u v (by simpa using World.var?_cell hg0 hv0 0)
  have ok1:∀ u v,l1=[.iface u v]→Value.okWide P W .any 0 u v:=fun u v e=>by
    subst e
    exact (hrows g1 0 (by simp [MemPlace.row])).2 u v (by simpa using World.var?_cell hg1 hv1 0)
  have ok2:∀ u v,l2=[.iface u v]→Value.okWide P W .any 0 u v:=fun u v e=>by
    subst e
    exact (hrows g2 0 (by simp [MemPlace.row])).2 u v (by simpa using World.var?_cell hg2 hv2 0)
  obtain ⟨a0,s0,rfl,hc0,hs0,hz0,rfl⟩:=errorString_of_trod hi hrow hp he hft hfo hs hc hcs hd0 ok0
  obtain ⟨a1,s1,rfl,hc1,hs1,hz1,rfl⟩:=errorString_of_trod hi hrow hp he hft hfo hs hc hcs hd1 ok1
  obtain ⟨a2,s2,rfl,hc2,hs2,hz2,rfl⟩:=errorString_of_trod hi hrow hp he hft hfo hs hc hcs hd2 ok2
  obtain ⟨c0,t0,hb0⟩:=(hrows a0.block a0.off (by simp [MemPlace.row])).1
  obtain ⟨c1,t1,hb1⟩:=(hrows a1.block a1.off (by simp [MemPlace.row])).1
  obtain ⟨c2,t2,hb2⟩:=(hrows a2.block a2.off (by simp [MemPlace.row])).1
  refine ⟨a0,a1,a2,c0,c1,c2,t0,t1,t2,by simpa using World.var?_cell hg0 hv0 0,by simpa using World.var?_cell hg1 hv1 0,by simpa using World.var?_cell hg2 hv2 0,?_,?_,?_,hb0,hb1,hb2⟩
  all_goals (rintro rfl;simp [MemPlace.row] at hnd)
theorem sents_of_laid {W : World} {r : List (String × DataW Unit)} (h : laidMet Tryz.prog (("prose/api.ErrLong", Rows.laid_prose_api_ErrLong) :: ("prose/api.ErrIdle", Rows.laid_prose_api_ErrIdle) :: ("prose/api.ErrSink", Rows.laid_prose_api_ErrSink) :: r) W) :
    ∃ (a0 a1 a2:Addr) (c0 c1 c2:Array Value) (t0 t1 t2:TypeId),
      W.cell? ⟨1,0,none⟩=some (.iface 292 (.pointer (some a0))) ∧
      W.cell? ⟨2,0,none⟩=some (.iface 292 (.pointer (some a1))) ∧
      W.cell? ⟨0,0,none⟩=some (.iface 292 (.pointer (some a2))) ∧
      a1 ≠ a0∧a2 ≠ a0∧a2 ≠ a1 ∧
      W.heap[a0.block]?=some (.cells c0 t0 (0,0))∧W.heap[a1.block]?=some (.cells c1 t1 (0,0))∧W.heap[a2.block]?=some (.cells c2 t2 (0,0)) :=
  three_sents h Tryz.gLong Tryz.gIdle Tryz.gSink Tryz.tLong Tryz.tIdle Tryz.tSink Tryz.underlying98 Tryz.rowES Tryz.underlying292 Tryz.underlying312 rfl rfl Tryz.underlying9 Tryz.cellsES Tryz.cellsStr
end Go.Proofs.YtljcljipppjnoaaGreatDoor
