import Derived.Test.YtljcljipppjnoaaGreatDoorJA14
import Derived.Test.YtljcljipppjnoaaGreatDoorJA36
import Derived.LaidHandle
import Derived.LaidSub
namespace Go.Proofs.YtljcljipppjnoaaGreatDoor
open Go.ChangeShapes Go.WideShapes Go.ChangeAt Go.WideMaps Go.WideElems Go.RowKit Go.Joins
theorem Tryz.et : Tryz.prog.globalNamed "errors.errorType" = some 3 := by kernel_rfl
theorem Tryz.rt : (Tryz.prog.cutTypes.find? (·.1 == "internal/reflectlite.rtype")).map (·.2) = some 200 := by kernel_rfl
theorem Tryz.nty:Tryz.prog.types.size=324:=by kernel_rfl
theorem Tryz.oneRow:((List.range 324).filter fun t=>Tryz.prog.rowNamed t [101,114,114,111,114])=[98]:=by kernel_rfl
theorem Tryz.laidOut:laidOutB Tryz.prog=true:=by kernel_rfl
theorem Tryz.cellsIn:Tryz.prog.cellsOf 33=4:=by kernel_rfl
theorem Tryz.cellsInt:Tryz.prog.cellsOf 3=1:=by kernel_rfl
theorem handle_of {W : World} {l : List (String × DataW Unit)} (h : handlesMet Tryz.prog l W) (hm : ("errors.errorType", Rows.laid_errors_errorType) ∈ l) :
    W.cell? ⟨3,0,none⟩=some (.iface 200 (.agg #[.pointer (some ⟨12,98,none⟩)])):=by
  obtain ⟨name,u,ty,e1,e2,e3,e4,e5⟩:=h _ hm
  have en:name=[101,114,114,111,114]:=(Option.some.inj e1).symm
  subst en
  obtain rfl:=Option.some.inj (Tryz.rt.symm.trans e2)
  have hmm:ty ∈ (List.range 324).filter fun t=>Tryz.prog.rowNamed t [101,114,114,111,114]:=List.mem_filter.2 ⟨List.mem_range.2 (by rw [← Tryz.nty];exact e3),e4⟩
  rw [Tryz.oneRow] at hmm
  obtain rfl:=List.mem_singleton.1 hmm
  have hh:typeHandle Tryz.prog 98=.pointer (some ⟨12,98,none⟩):=by kernel_rfl
  rw [hh] at e5
  simpa using World.var?_cell Tryz.et e5 0
set_option maxRecDepth 100000 in
theorem open_in {H:Type} {enc:TypeId × Value→H} {W:World} {sp:Nat→Bool} {r:Reach} {b0:Nat} {v:Value} {d:DataW H} {p:List MemPlace} (hv:Value.okWide Tryz.prog W r b0 33 v) (h:DataW.Trod enc Tryz.prog W 0 sp true 33 v d p) :
    ∃ (tx:ByteArray) (ca:Option Addr) (cap:Nat) (cs:List Int) (fa:Int) (wt:Bool),v=.agg #[.string tx,.slice ca cs.length cap,.int .i64 fa,.bool wt]∧NumsAt (.slice ca cs.length cap) cs W:=by
  obtain ⟨v0,v1,v2,v3,y0,y1,y2,y3,n,rfl,rfl,rfl,h0,h1,h2,h3⟩:=open_agg4 Tryz.underlying33 (by kernel_rfl) Tryz.cellsIn hv h
  obtain ⟨s,e0,_,_⟩:=DataW.trod_string Tryz.underlying9 h0
  obtain ⟨fa,e2,_,_⟩:=DataW.trod_int Tryz.underlying3 h2
  obtain ⟨wt,e3,_⟩:=DataW.trod_bool Tryz.underlying4 h3
  simp at e0 e2 e3
  subst e0 e2 e3
  rcases open_ints Tryz.underlying31 Tryz.underlying3 Tryz.cellsInt h1 with ⟨hcs,_⟩ | ⟨x,l,c,zs,hcs,_,hl,hm,hz,_,hcell,hwz⟩
  · simp at hcs
    subst hcs
    exact ⟨s,none,0,[],fa,wt,rfl,Or.inl ⟨rfl,_,_,rfl⟩⟩
  · simp at hcs
    subst hcs
    have hlen:(zs.take l).length=l:=by rw [List.length_take];split at hz <;> omega
    refine ⟨s,some x,c,zs.take l,fa,wt,by rw [hlen],?_⟩
    rw [hlen]
    by_cases h0:l=0
    · subst h0
      exact Or.inl ⟨by simp,_,_,rfl⟩
    · right
      have hzl:l≤zs.length:=by split at hz <;> omega
      have hc0:=hcell 0 (by omega)
      obtain ⟨g,o,spot⟩:=x
      have hspot:spot=none:=by simpa [Addr.add] using World.cell?_spot hc0
      subst hspot
      rw [Addr.add_lit] at hc0
      refine ⟨g,o,c,by rw [hlen],lt_cell hc0,fun j cc hj=>?_⟩
      have hjl:j < l:=by have:=(List.getElem?_eq_some_iff.1 hj).1;omega
      have:=hcell j (by omega)
      rw [Addr.add_lit] at this
      rw [this]
      rw [List.getElem?_take_of_lt hjl] at hj
      rw [List.getD_eq_getElem?_getD,hj]
      rfl
end Go.Proofs.YtljcljipppjnoaaGreatDoor
