import Derived.Test.YtljcljipppjnoaaGreatDoorJA35
import Derived.Test.YtljcljipppjnoaaGreatDoorJA37
import Derived.Deep.Strs
namespace Go.Proofs.YtljcljipppjnoaaGreatDoor
open Go.ChangeShapes Go.WideShapes Go.ChangeAt Go.WideMaps Go.WideElems Go.RowKit Go.Joins
theorem Tryz.cellsBool:Tryz.prog.cellsOf 4=1:=by kernel_rfl
theorem list_of_each {α:Type} (Q:Nat→α→Prop) (n:Nat) (h:∀ i,i < n→∃ x,Q i x):∃ l:List α,l.length=n∧∀ i x,l[i]?=some x→Q i x:=by
  induction n with
  | zero=>exact ⟨[],rfl,fun i x hi=>by simp at hi⟩
  | succ n ih =>
    obtain ⟨l,h1,h2⟩:=ih (fun i hi=>h i (by omega))
    obtain ⟨x,hx⟩:=h n (by omega)
    refine ⟨l++[x],by simp [h1],fun i y hi=>?_⟩
    by_cases hn:i < n
    · rw [List.getElem?_append_left (by omega)] at hi
      exact h2 i y hi
    · have hin:i=n:=by
        have:=(List.getElem?_eq_some_iff.1 hi).1
        simp [h1] at this
        omega
      subst hin
      rw [List.getElem?_append_right (by omega),h1] at hi
      simp at hi
      subst hi
      exact hx
theorem Tryz.cellsOp:Tryz.prog.cellsOf 54=3:=by kernel_rfl
set_option maxRecDepth 100000 in
theorem open_ops {H:Type} {enc:TypeId × Value→H} {W:World} {sp:Nat→Bool} {r:Reach} {b0:Nat} {v:Value} {d:DataW H} {q:List MemPlace} (hv:Value.okWide Tryz.prog W r b0 34 v) (h:DataW.Trod enc Tryz.prog W 0 sp true 34 v d q) :
    ∃ (p:Option Addr) (cap:Nat) (ops:List (Int × Int × Bool)),v=.slice p ops.length cap∧OpsAt p ops W:=by
  obtain ⟨a0,len0,cap0,rfl⟩:=okWide_slice Tryz.underlying34 hv
  obtain ⟨fuel,hf⟩:=h
  rcases DataW.trod_slice Tryz.underlying34 hf with ⟨hcs,_⟩ | ⟨a,len,cap,elems,rest,n,_,hcs,_,hb,hl,hm,hlen,hel,_⟩
  · simp [Value.cells] at hcs
    obtain ⟨rfl,rfl,rfl⟩:=hcs
    exact ⟨none,0,[],rfl,Or.inl rfl⟩
  · simp [Value.cells] at hcs
    obtain ⟨rfl,rfl,rfl⟩:=hcs
    have each:∀ i,i < len0→∃ k m t,W.cell? (a.add (i * 3))=some (.int .i64 k)∧W.cell? (a.add (i * 3+1))=some (.int .i64 m)∧W.cell? (a.add (i * 3+2))=some (.bool t):=by
      intro i hi
      have h1:=hel i hi
      rw [Tryz.cellsOp] at h1
      obtain ⟨y,hy⟩:∃ y,elems[i]?=some y:=⟨elems[i]'(by omega),List.getElem?_eq_getElem _⟩
      rw [hy,Option.bind_eq_some_iff] at h1
      obtain ⟨cs,hcs,ht⟩:=h1
      obtain ⟨_,hl3,hc⟩:=World.cells?_some hcs
      obtain ⟨y0,y1,y2,n',_,_,t0,t1,t2⟩:=Go.Deep.trod_struct3 Tryz.underlying54 ht
      change DataW.trod enc Tryz.prog W 0 sp true n' 3 (List.take (Tryz.prog.cellsOf 3) (List.drop 0 cs))=some y0 at t0
      change DataW.trod enc Tryz.prog W 0 sp true n' 3 (List.take (Tryz.prog.cellsOf 3) (List.drop 1 cs))=some y1 at t1
      change DataW.trod enc Tryz.prog W 0 sp true n' 4 (List.take (Tryz.prog.cellsOf 4) (List.drop 2 cs))=some y2 at t2
      rw [Tryz.cellsInt] at t0 t1
      rw [Tryz.cellsBool] at t2
      obtain ⟨c0,c1,c2,rfl⟩:∃ c0 c1 c2,cs=[c0,c1,c2]:=by
        match cs,hl3 with
        | [c0,c1,c2],_=>exact ⟨c0,c1,c2,rfl⟩
      obtain ⟨k,e0,_,_⟩:=DataW.trod_int Tryz.underlying3 t0
      obtain ⟨m,e1,_,_⟩:=DataW.trod_int Tryz.underlying3 t1
      obtain ⟨t,e2,_⟩:=DataW.trod_bool Tryz.underlying4 t2
      simp at e0 e1 e2
      subst e0 e1 e2
      have h0:=hc 0 (by decide)
      have h1:=hc 1 (by decide)
      have h2:=hc 2 (by decide)
      rw [Addr.add_add] at h0 h1 h2
      exact ⟨k,m,t,h0,h1,h2⟩
    obtain ⟨ops,hol,hop'⟩:=list_of_each (fun i (x:Int × Int × Bool)=>W.cell? (a.add (i * 3))=some (.int .i64 x.1)∧W.cell? (a.add (i * 3+1))=some (.int .i64 x.2.1)∧W.cell? (a.add (i * 3+2))=some (.bool x.2.2)) len0 (fun i hi=>by
      obtain ⟨k,m,t,h⟩:=each i hi
      exact ⟨(k,m,t),h⟩)
    have hop:∀ i k m t,ops[i]?=some (k,m,t)→W.cell? (a.add (i * 3))=some (.int .i64 k)∧W.cell? (a.add (i * 3+1))=some (.int .i64 m)∧W.cell? (a.add (i * 3+2))=some (.bool t):=fun i k m t hi=>hop' i (k,m,t) hi
    refine ⟨some a,cap0,ops,by rw [hol],?_⟩
    by_cases h0:ops=[]
    · exact Or.inl h0
    · right
      obtain ⟨⟨k,m,t⟩,r,rfl⟩:=List.exists_cons_of_ne_nil h0
      obtain ⟨q0,_,_⟩:=hop 0 k m t rfl
      obtain ⟨g,o,spot⟩:=a
      have hspot:spot=none:=by simpa [Addr.add] using World.cell?_spot q0
      subst hspot
      rw [Addr.add_lit] at q0
      refine ⟨g,o,rfl,lt_cell q0,fun i k m t hi=>?_⟩
      have:=hop i k m t hi
      simpa [Addr.add_lit,Nat.add_assoc] using this
theorem OpsAt.below {p:Option Addr} {ops:List (Int × Int × Bool)} {w W:World} (h:OpsAt p ops w) (hb:Below w.heap.size w W):OpsAt p ops W:=by
  rcases h with h | ⟨g,o,h1,h2,h3⟩
  · exact Or.inl h
  · refine Or.inr ⟨g,o,h1,by have:=hb.size;omega,fun i k n t hi=>?_⟩
    obtain ⟨c1,c2,c3⟩:=h3 i k n t hi
    exact ⟨(World.cell?_of_block (hb.block g h2)).trans c1,(World.cell?_of_block (hb.block g h2)).trans c2,(World.cell?_of_block (hb.block g h2)).trans c3⟩
theorem trodAll_five {H:Type} {enc:TypeId × Value→H} {P:Program} {w:World} {base:Nat} {spare:Nat→Bool} {held:Bool} {t0 t1 t2 t3 t4:TypeId} {args:Array Value} {ds:List (DataW H)} {ps:List MemPlace} (h:DataW.TrodAll enc P w base spare held [t0,t1,t2,t3,t4] args.toList ds ps) :
    ∃ v0 v1 v2 v3 v4 d0 d1 d2 d3 d4 p0 p1 p2 p3 p4,args=#[v0,v1,v2,v3,v4]∧ds=[d0,d1,d2,d3,d4]∧ps=p0++(p1++(p2++(p3++p4)))∧DataW.Trod enc P w base spare held t0 v0 d0 p0∧DataW.Trod enc P w base spare held t1 v1 d1 p1∧DataW.Trod enc P w base spare held t2 v2 d2 p2∧DataW.Trod enc P w base spare held t3 v3 d3 p3∧DataW.Trod enc P w base spare held t4 v4 d4 p4:=by
  obtain ⟨v0,vs0,d0,ds0,p0,q0,hargs,rfl,rfl,e0,r0⟩:=trodAll_cons h
  obtain ⟨v1,vs1,d1,ds1,p1,q1,rfl,rfl,rfl,e1,r1⟩:=trodAll_cons r0
  obtain ⟨v2,vs2,d2,ds2,p2,q2,rfl,rfl,rfl,e2,r2⟩:=trodAll_cons r1
  obtain ⟨v3,vs3,d3,ds3,p3,q3,rfl,rfl,rfl,e3,r3⟩:=trodAll_cons r2
  obtain ⟨v4,vs4,d4,ds4,p4,q4,rfl,rfl,rfl,e4,r4⟩:=trodAll_cons r3
  obtain ⟨rfl,rfl,rfl⟩:=trodAll_nil r4
  exact ⟨v0,v1,v2,v3,v4,d0,d1,d2,d3,d4,p0,p1,p2,p3,p4,by cases args;simp_all,rfl,by simp,e0,e1,e2,e3,e4⟩
theorem trodAll_mk5 {H:Type} {enc:TypeId × Value→H} {P:Program} {w:World} {base:Nat} {spare:Nat→Bool} {held:Bool} {t0 t1 t2 t3 t4:TypeId} {v0 v1 v2 v3 v4:Value} {d0 d1 d2 d3 d4:DataW H} {p0 p1 p2 p3 p4:List MemPlace} (h0:DataW.Trod enc P w base spare held t0 v0 d0 p0) (h1:DataW.Trod enc P w base spare held t1 v1 d1 p1) (h2:DataW.Trod enc P w base spare held t2 v2 d2 p2) (h3:DataW.Trod enc P w base spare held t3 v3 d3 p3) (h4:DataW.Trod enc P w base spare held t4 v4 d4 p4) :
    DataW.TrodAll enc P w base spare held [t0,t1,t2,t3,t4] [v0,v1,v2,v3,v4] [d0,d1,d2,d3,d4] (p0++(p1++(p2++(p3++p4)))):=⟨p0,_,h0,⟨p1,_,h1,⟨p2,_,h2,trodAll_mk2 h3 h4,rfl⟩,rfl⟩,rfl⟩
end Go.Proofs.YtljcljipppjnoaaGreatDoor
