import Derived.Test.YtljcljipppjnoaaGreatDoorJA04
import Derived.Test.YtljcljipppjnoaaGreatDoorJA17
import Derived.Test.YtljcljipppjnoaaGreatDoorJA28
import Derived.Test.YtljcljipppjnoaaGreatDoorJA38
import Derived.Test.YtljcljipppjnoaaGreatDoorJA48
import Derived.Lay
import Derived.Shelf.Vars
namespace Go.Proofs.YtljcljipppjnoaaGreatDoor
open Go.ChangeShapes Go.WideShapes Go.ChangeAt Go.WideMaps Go.WideElems Go.RowKit Go.Joins
theorem maxLen5 {W:World} (h:W.ShapedOpen Tryz.prog):∃ m,W.cell? ⟨6,0,none⟩=some (.int .i64 m) :=
  cell_of_shapedOpen_int (P:=Tryz.prog) (t:=3) (zero:=#[.int .i64 0]) h (of_decide_eq_true (by kernel_rfl)) (by kernel_rfl) rfl (by kernel_rfl) (by kernel_rfl) Tryz.underlying3
def apiName (x : String × DataW Unit) : Bool := x.1 == "prose/api.ErrLong" || x.1 == "prose/api.ErrIdle" || x.1 == "prose/api.ErrSink"
theorem glob5 {W : World} {L : List (String × DataW Unit)} (h : laidMetH Tryz.prog L W) (e : ((L.filter fun x => x.2.handleName?.isNone).filter apiName) = [("prose/api.ErrLong", Rows.laid_prose_api_ErrLong), ("prose/api.ErrIdle", Rows.laid_prose_api_ErrIdle), ("prose/api.ErrSink", Rows.laid_prose_api_ErrSink)])
    (hm : ("errors.errorType", Rows.laid_errors_errorType) ∈ L) : ∃ aL aI aS, Glob W aL aI ∧ W.cell? ⟨0, 0, none⟩ = some (sinkV aS) := by
  obtain ⟨h1,h2⟩:=laidMetH_iff.1 h
  have h3:=h1.filter apiName
  rw [e] at h3
  obtain ⟨a0,a1,a2,c0,c1,c2,t0,t1,t2,g0,g1,g2,n10,n20,n21,b0,b1,b2⟩:=sents_of_laid h3
  have ht:=handle_of h2 (List.mem_filter.2 ⟨hm,rfl⟩)
  exact ⟨a0,a1,a2,⟨g0,g1,ht,sent_other a1 a0 c1 c0 t1 t0 W n10 b1 b0⟩,g2⟩
theorem laidMet_over5 {P:Program} {w0:World} {laid:List (String × DataW Unit)} (args:Array Value) (hf:w0.layFits P laid []=true) (hi:w0.layIfaces P laid (w0.layVars P laid)=true) :
    laidMet P laid ((w0.layVars P laid).forCall (fun _ _=>0) ⟨#[],args,[]⟩).memory:=by
  have e1:(laid.filter fun x=>(laid.map (·.1)).contains x.1)=laid:=List.filter_eq_self.2 fun x hx=>List.contains_iff_mem.2 (List.mem_map.2 ⟨x,hx,rfl⟩)
  have e2:(laid.filter fun x=>!(laid.map (·.1)).contains x.1)=[]:=List.filter_eq_nil_iff.2 fun x hx=>by rw [List.contains_iff_mem.2 (List.mem_map.2 ⟨x,hx,rfl⟩)];simp
  have h:laidMet P laid (w0.layVars P laid):=laidMet_layVars (w0:=w0) (laid.map (·.1)) [] (by rw [e1]) (by rw [e1];exact hf) (by rw [e1];exact hi) (by rw [e2];exact LaidIn.none)
  exact h.of_heap (by simp [World.memory,World.forCall,Input.heap])
end Go.Proofs.YtljcljipppjnoaaGreatDoor
namespace Go.Proofs.YtljcljipppjnoaaGreatDoor
open Go.ChangeShapes Go.WideShapes Go.ChangeAt Go.WideMaps Go.WideElems Go.RowKit Go.Joins
set_option maxRecDepth 100000 in
theorem open_out {H:Type} {enc:TypeId × Value→H} {W:World} {sp:Nat→Bool} {r:Reach} {b0:Nat} {v:Value} {d:DataW H} {p:List MemPlace} (hv:Value.okWide Tryz.prog W r b0 58 v) (h:DataW.Trod enc Tryz.prog W 0 sp true 58 v d p) :
    ∃ (ta:Option Addr) (ts:List Int) (tc:Nat) (f l li:Int),v=.agg #[.slice ta ts.length tc,.int .i64 f,.int .i64 l,.int .i64 li]∧NumsAt (.slice ta ts.length tc) ts W∧∀ t ∈ ts,-9223372036854775808≤t∧t≤9223372036854775807:=by
  obtain ⟨v0,v1,v2,v3,y0,y1,y2,y3,n,rfl,rfl,rfl,h0,h1,h2,h3⟩:=open_agg4 Tryz.underlying58 (by kernel_rfl) (show Tryz.prog.cellsOf 58=4 by kernel_rfl) hv h
  obtain ⟨f,e1,_,_⟩:=DataW.trod_int Tryz.underlying3 h1
  obtain ⟨l,e2,_,_⟩:=DataW.trod_int Tryz.underlying3 h2
  obtain ⟨li,e3,_,_⟩:=DataW.trod_int Tryz.underlying3 h3
  simp at e1 e2 e3
  subst e1 e2 e3
  rcases open_ints Tryz.underlying31 Tryz.underlying3 Tryz.cellsInt h0 with ⟨hcs,_⟩ | ⟨x,l',c,zs,hcs,_,hl,hm,hz,_,hcell,hwz⟩
  · simp at hcs
    subst hcs
    exact ⟨none,[],0,f,l,li,rfl,Or.inl ⟨rfl,_,_,rfl⟩,fun t ht=>by cases ht⟩
  · simp at hcs
    subst hcs
    have hlen:(zs.take l').length=l':=by rw [List.length_take];split at hz <;> omega
    refine ⟨some x,zs.take l',c,f,l,li,by rw [hlen],?_,fun t ht=>bounds_i64 (hwz t (List.mem_of_mem_take ht))⟩
    rw [hlen]
    by_cases h0:l'=0
    · subst h0
      exact Or.inl ⟨by simp,_,_,rfl⟩
    · right
      have hzl:l'≤zs.length:=by split at hz <;> omega
      have hc0:=hcell 0 (by omega)
      obtain ⟨g,o,spot⟩:=x
      have hspot:spot=none:=by simpa [Addr.add] using World.cell?_spot hc0
      subst hspot
      rw [Addr.add_lit] at hc0
      refine ⟨g,o,c,by rw [hlen],lt_cell hc0,fun j cc hj=>?_⟩
      have hjl:j < l':=by have:=(List.getElem?_eq_some_iff.1 hj).1;omega
      have:=hcell j (by omega)
      rw [Addr.add_lit] at this
      rw [this]
      rw [List.getElem?_take_of_lt hjl] at hj
      rw [List.getD_eq_getElem?_getD,hj]
      rfl
theorem out_ok {w0:World} {u:Ou} (h:NumsAt u.tv u.ts w0) (hb:∀ t ∈ u.ts,-9223372036854775808≤t∧t≤9223372036854775807) (hl:u.ts.length≤1048576):u.Ok w0 :=
  ⟨(uT_ok h hb hl).takes,hl⟩
end Go.Proofs.YtljcljipppjnoaaGreatDoor
namespace Go.Proofs.YtljcljipppjnoaaGreatDoor
open Go.RowKit Go.Shelf
set_option maxRecDepth 100000 in
set_option maxHeartbeats 2000000 in
theorem everything {aL aI:Addr} {m:Int} {aS:Addr} {ta tb:ByteArray} {ca cb:Option Addr} {pa pb:Nat} {csa csb:List Int} {fa fb:Int} {wa wb:Bool} {po:Option Addr} {co:Nat} {ops:List (Int × Int × Bool)} {tt:Option Addr} {ts:List Int} {tc:Nat} {f l li k:Int} (W:World) (B:Base W aL aI m) (hS:W.cell? ⟨0,0,none⟩=some (sinkV aS))
    (na:NumsAt (.slice ca csa.length pa) csa W) (nb:NumsAt (.slice cb csb.length pb) csb W) (ho:OpsAt po ops W) (hT:NumsAt (.slice tt ts.length tc) ts W) (hb:∀ t ∈ ts,-9223372036854775808≤t∧t≤9223372036854775807) (hk:-9223372036854775808≤k∧k≤9223372036854775807) :
    Calls Tryz.prog 7 #[.agg #[.string ta,.slice ca csa.length pa,.int .i64 fa,.bool wa],.agg #[.string tb,.slice cb csb.length pb,.int .i64 fb,.bool wb],.slice po ops.length co,.agg #[.slice tt ts.length tc,.int .i64 f,.int .i64 l,.int .i64 li],.int .i64 k] W fun e w'=>e=.returned (.bool true)∧Below W.heap.size W w':=by
  have c1:Hid (∀ w,Below W.heap.size W w→Calls Tryz.prog 27 #[.agg #[.string ta,.slice ca csa.length pa,.int .i64 fa,.bool wa]] w fun e w'=>e=.returned (.bool true)∧Below w.heap.size w w'):=by
    intro w hw
    by_cases hf:ta.size≤1048576∧csa.length≤1048576
    · exact gathers_fit ta ca pa csa fa wa aL aI w (na.below hw) hf.1 hf.2 (B.to hw).glob
    · exact gathers_unfit ta ca csa.length pa fa wa w hf
  have c2:Hid (∀ w,Below W.heap.size W w→Calls Tryz.prog 3 #[.string ta] w fun e w'=>e=.returned (.bool true)∧Below w.heap.size w w'):=fun w hw=>blocked_any ta m w (B.to hw).max
  have c3:Hid (∀ w,Below W.heap.size W w→Calls Tryz.prog 28 #[.string ta] w fun e w'=>e=.returned (.bool true)∧Below w.heap.size w w'):=fun w hw=>inlined_any ta m w (B.to hw).max
  have c4:Hid (∀ w,Below W.heap.size W w→Calls Tryz.prog 4 #[.agg #[.string ta,.slice ca csa.length pa,.int .i64 fa,.bool wa],.agg #[.string tb,.slice cb csb.length pb,.int .i64 fb,.bool wb],.slice po ops.length co] w fun e w'=>e=.returned (.bool true)∧Below w.heap.size w w'):=by
    intro w hw
    by_cases hf:(ta.size≤1048576∧csa.length≤1048576)∧(tb.size≤1048576∧csb.length≤1048576)∧ops.length≤1048576
    · obtain ⟨⟨oa,na'⟩,ga⟩:=gat_some fa wa (csa.length+2) ta csa 0 ByteArray.empty 0 (by split <;> omega)
      obtain ⟨⟨ob,nb'⟩,gb⟩:=gat_some fb wb (csb.length+2) tb csb 0 ByteArray.empty 0 (by split <;> omega)
      exact pulls_fit ⟨true,ta,csa,fa,wa,oa,na'⟩ ⟨true,tb,csb,fb,wb,ob,nb'⟩ ⟨hf.1.1,hf.1.2,fun _=>ga,fun h=>by cases h⟩ ⟨hf.2.1.1,hf.2.1.2,fun _=>gb,fun h=>by cases h⟩ rfl rfl ca cb pa pb po co ops aL aI m w (na.below hw) (nb.below hw) (ho.below hw) hf.2.2 (B.to hw)
    · exact pulls_unfit ta tb ca cb csa.length csb.length pa pb fa fb wa wb po ops.length co w hf
  have c5:Hid (∀ w,Below W.heap.size W w→Calls Tryz.prog 5 #[.agg #[.string ta,.slice ca csa.length pa,.int .i64 fa,.bool wa],.agg #[.slice tt ts.length tc,.int .i64 f,.int .i64 l,.int .i64 li]] w fun e w'=>e=.returned (.bool true)∧Below w.heap.size w w'):=by
    intro w hw
    by_cases hf:ta.size≤1048576∧csa.length≤1048576∧ts.length≤1048576
    · exact writes_fit ta ca pa csa fa wa tt ts tc f l li w (B.to hw) ((hw.cell (p:=⟨0,0,none⟩) (lt_cell hS)).trans hS) (na.below hw) (out_ok (hT.below hw) hb hf.2.2) hf.1 hf.2.1
    · exact writes_unfit ta ca csa.length pa fa wa tt ts.length tc f l li w hf
  have c6:Hid (∀ w,Below W.heap.size W w→Calls Tryz.prog 6 #[.agg #[.string ta,.slice ca csa.length pa,.int .i64 fa,.bool wa],.int .i64 k] w fun e w'=>e=.returned (.bool true)∧Below w.heap.size w w'):=by
    intro w hw
    by_cases hf:ta.size≤1048576∧csa.length≤1048576
    · exact counted_fit ta ca pa csa fa wa k hk w (B.to hw) ((hw.cell (p:=⟨0,0,none⟩) (lt_cell hS)).trans hS) (na.below hw) hf.1 hf.2
    · exact counted_unfit ta ca csa.length pa fa wa k w hf
  exact ev_walk W c1 c2 c3 c4 c5 c6
end Go.Proofs.YtljcljipppjnoaaGreatDoor
namespace Go.Proofs.YtljcljipppjnoaaGreatDoor
open Go.ChangeShapes Go.WideShapes Go.ChangeAt Go.WideMaps Go.WideElems Go.RowKit Go.Joins
theorem all_door (os:Os) (args:Array Value):laidMetH Tryz.prog Rows.allRow.laid (((World.doorLaid Tryz.prog 136 os).layVars Tryz.prog (Rows.allRow.laid.filter fun x=>x.2.handleName?.isNone)).forCall (fun _ _=>0) ⟨#[],args,[]⟩).memory :=
  laidMetH_of_parts3 (fuel:=8) (laidMet_over5 args (by kernel_rfl) (by kernel_rfl)) (by kernel_rfl) (by kernel_rfl)
set_option maxRecDepth 100000 in
theorem all_lifted (os:Os) (started:os.Started) (H:Type) (enc:TypeId × Value→H) :
    ReturnsInHanded {} Tryz.checked os 7 .any (fun w args=>(Rows.allSpec.pre enc Tryz.prog Tryz.f7 [] false w args∧laidMetH Tryz.prog Rows.allRow.laid w)∧sizedMet enc Tryz.prog Tryz.f7 (OpenSpec.ofChange Rows.allSpec) false w args)
      (Rows.allSpec.post enc Tryz.prog Tryz.f7 false true false false):=by
  refine returnsInHanded_of_calls Tryz.own started (by kernel_rfl)
    (ChangeSpec.witness_shaped (enc:=enc) (C:=Tryz.checked) (os:=os) (X:=fun w _=>laidMetH Tryz.prog Rows.allRow.laid w) false ((World.doorLaid Tryz.prog 136 os).layVars Tryz.prog (Rows.allRow.laid.filter fun x=>x.2.handleName?.isNone)) #[.agg #[.string ⟨#[]⟩,.slice none 0 0,.int .i64 0,.bool false],.agg #[.string ⟨#[]⟩,.slice none 0 0,.int .i64 0,.bool false],.slice none 0 0,.agg #[.slice none 0 0,.int .i64 0,.int .i64 0,.int .i64 0],.int .i64 0] 8 (World.layVars_os _ _ _)
      (World.shaped_of_ZipB (by kernel_rfl) (by kernel_rfl)) (by kernel_rfl) (by kernel_rfl) (by kernel_rfl) (all_door os _)) ?_
  intro w tape i _ hsh _ hok hpre _
  obtain ⟨_,_,_,fn',hfn',_,_,_,_,hval0⟩:=hok
  obtain rfl:fn'=Tryz.f7:=Option.some.inj (hfn'.symm.trans Tryz.func7)
  obtain ⟨⟨⟨ds,gs,before,hw0,_⟩,hL0⟩,_⟩:=hpre
  have hW:=DataW.Whole.of_heap (w':=w.forCall tape i) (by rfl) hw0
  have hL:laidMetH Tryz.prog Rows.allRow.laid (w.forCall tape i):=hL0.of_heap (by rfl)
  suffices h:Calls Tryz.prog 7 i.args (w.forCall tape i) fun e W'=>∃ v,e=.returned v∧Rows.allSpec.post enc Tryz.prog Tryz.f7 false true false false (w.forCall tape i) i.args v W' by
    refine h.mono fun e W' ⟨v,he,hp⟩=>?_
    subst he
    exact ChangeSpec.post_blind hp
  generalize w.forCall tape i=W at hsh hW hval0 hL
  generalize i.args=args at hW hval0
  have hval:∀ (j:Nat) t v,Tryz.f7.params[j]?=some t→args[j]?=some v→Value.okWide Tryz.prog W .any w.heap.size t v:=hval0
  have hW':=hW
  obtain ⟨p,q,hA0,hV,rfl,_,_⟩:=hW
  have hA:DataW.TrodAll enc Tryz.prog W 0 (fun _=>true) true Tryz.f7.params.toList args.toList ds p:=hA0
  rw [Tryz.params7] at hA hval
  obtain ⟨v0,v1,v2,v3,v4,d0,d1,d2,d3,d4,p0,p1,p2,p3,p4,rfl,rfl,rfl,h0,h1,h2,h3,h4⟩:=trodAll_five hA
  obtain ⟨rfl,rfl⟩:=trodVars_none hV
  have lt0:∀ x ∈ p0,x.block < W.heap.size:=by obtain ⟨m,hm⟩:=h0;exact DataW.trod_lt m _ _ _ hm
  have lt1:∀ x ∈ p1,x.block < W.heap.size:=by obtain ⟨m,hm⟩:=h1;exact DataW.trod_lt m _ _ _ hm
  have lt2:∀ x ∈ p2,x.block < W.heap.size:=by obtain ⟨m,hm⟩:=h2;exact DataW.trod_lt m _ _ _ hm
  have lt3:∀ x ∈ p3,x.block < W.heap.size:=by obtain ⟨m,hm⟩:=h3;exact DataW.trod_lt m _ _ _ hm
  have lt4:∀ x ∈ p4,x.block < W.heap.size:=by obtain ⟨m,hm⟩:=h4;exact DataW.trod_lt m _ _ _ hm
  obtain ⟨m,hm⟩:=maxLen5 hsh
  obtain ⟨aL,aI,aS,G,hS⟩:=glob5 hL rfl (by simp [Rows.allRow])
  obtain ⟨ta,ca,pa,csa,fa,wa,hv0,na⟩:=open_in (hval 0 33 v0 rfl rfl) h0
  obtain ⟨tb,cb,pb,csb,fb,wb,hv1,nb⟩:=open_in (hval 1 33 v1 rfl rfl) h1
  obtain ⟨po,co,ops,hv2,ho⟩:=open_ops (hval 2 34 v2 rfl rfl) h2
  obtain ⟨tt,ts,tc,f,l,li,hv3,hT,hb⟩:=open_out (hval 3 58 v3 rfl rfl) h3
  obtain ⟨k,hv4,hk⟩:∃ k,v4=.int .i64 k∧(-9223372036854775808≤k∧k≤9223372036854775807):=by
    obtain ⟨n,hn,_,_,hw⟩:=open_int Tryz.underlying3 (hval 4 3 v4 rfl rfl) h4
    exact ⟨n,hn,bounds_i64 hw⟩
  simp only [List.append_nil] at hW'
  have walk:Calls Tryz.prog 7 #[v0,v1,v2,v3,v4] W fun e w'=>e=.returned (.bool true)∧Below W.heap.size W w':=by
    rw [hv0,hv1,hv2,hv3,hv4]
    exact everything W ⟨G,hm⟩ hS na nb ho hT hb hk
  refine walk.mono fun e W' ⟨he,bel⟩=>?_
  subst he
  exact ⟨_,rfl,_,_,_,[],_,[],hW',trodAll_mk1 (shut_bool Tryz.underlying4 _),trodAll_mk5 (Below.trod Tryz.laidOut (by kernel_rfl) (of_decide_eq_true (by kernel_rfl)) h0 bel lt0) (Below.trod Tryz.laidOut (by kernel_rfl) (of_decide_eq_true (by kernel_rfl)) h1 bel lt1) (Below.trod Tryz.laidOut (by kernel_rfl) (of_decide_eq_true (by kernel_rfl)) h2 bel lt2) (Below.trod Tryz.laidOut (by kernel_rfl) (of_decide_eq_true (by kernel_rfl)) h3 bel lt3) (Below.trod Tryz.laidOut (by kernel_rfl) (of_decide_eq_true (by kernel_rfl)) h4 bel lt4),rfl,bel.frame _,fun h=>by cases h⟩
theorem all_holds:Rows.AllSaid :=
  OpenClaim.holds_of_wide 7 Tryz.f7 rfl rfl rfl rfl rfl rfl rfl ⟨rfl,rfl,rfl,rfl,rfl⟩ rfl rfl rfl rfl rfl (by kernel_rfl) Tryz.func7 (by kernel_rfl)
    (of_decide_eq_true (by kernel_rfl)) (by unfold Func.isWrapper;first | (rw [if_pos (by decide +kernel)];kernel_rfl) | (rw [if_neg (by decide +kernel)];exact ⟨rfl,rfl⟩))
    (fun os started H enc _=>all_lifted os started H enc)
#print axioms all_holds
end Go.Proofs.YtljcljipppjnoaaGreatDoor
