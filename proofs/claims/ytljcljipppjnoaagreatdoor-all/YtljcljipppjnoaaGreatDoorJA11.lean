import Derived.Test.YtljcljipppjnoaaGreatDoorJA03
import Derived.Test.YtljcljipppjnoaaGreatDoorJA10
import Derived.Stop.Asserts
import Derived.RowKitTokens
import Derived.Deep.RegionWith
import Derived.Deep.RegionLaw
namespace Go.Proofs.YtljcljipppjnoaaGreatDoor
open Go.RowKit Go.Extern.Stop Go.Stop Go.Extern
theorem Tryz.valueOfTT (t:Addr) (w:World):(ReflectliteValue.unpack (.iface 136 (.pointer (some t)))).run Tryz.prog w
    = .ok (.agg #[.pointer (some ⟨12,136,none⟩),.pointer (some ⟨w.heap.size,0,none⟩),.int .u64 150]) (w.alloc (.cells #[.pointer (some t)] 136)):=by kernel_rfl
theorem Tryz.typeTT (a : Addr) (w : World) : (ReflectliteValue.methodAny (ReflectliteValue.valueError "reflectlite.Value.Type" 0) (fun t _ _ _ => ReflectliteType.toType t) #[.agg #[.pointer (some ⟨12, 136, none⟩), .pointer (some a), .int .u64 150]]).run Tryz.prog w
    = .ok (.iface 200 (.agg #[.pointer (some ⟨12,136,none⟩)])) w:=by kernel_rfl
theorem Tryz.kindTT (w:World):((ReflectliteType.abiMethod fun t=>(fun a:Nat=>Value.int IntKind.u8 (a:Int)) <$> Rtype.kind t) #[.pointer (some ⟨12,136,none⟩)]).run Tryz.prog w=.ok (.int .u8 22) w:=by kernel_rfl
theorem Tryz.kindT (w:World):((ReflectliteType.abiMethod fun t=>(fun a:Nat=>Value.int IntKind.u8 (a:Int)) <$> Rtype.kind t) #[.pointer (some ⟨12,133,none⟩)]).run Tryz.prog w=.ok (.int .u8 22) w:=by kernel_rfl
theorem Tryz.partsTT (a:Addr) (w:World):(ReflectliteValue.parts (.agg #[.pointer (some ⟨12,136,none⟩),.pointer (some a),.int .u64 150])).run Tryz.prog w=.ok (some (136,a,150)) w:=by kernel_rfl
theorem Tryz.isNilTT (a p:Addr) (W:World) (ha:W.cell? a=some (.pointer (some p))) :
    (ReflectliteValue.method (ReflectliteValue.valueError "reflectlite.Value.IsNil" 0) ReflectliteValue.isNil #[.agg #[.pointer (some ⟨12, 136, none⟩), .pointer (some a), .int .u64 150]]).run Tryz.prog W = .ok (.bool false) W := by
  change Sem.run Tryz.prog (bind (ReflectliteValue.parts _) _) W=_
  simp only [Sem.run_bind,Array.getLit,List.getElem_toArray,List.getElem_cons_zero,Tryz.partsTT,Result.andThen]
  simp [ReflectliteValue.isNil,loadVar,isAgg,underlying,Tryz.underlying136,ha,Result.andThen]
theorem Tryz.elemTT (w:World):(ReflectliteType.method ReflectliteType.elem #[.agg #[.pointer (some ⟨12,136,none⟩)]]).run Tryz.prog w=.ok (.iface 200 (.agg #[.pointer (some ⟨12,133,none⟩)])) w:=by kernel_rfl
theorem Tryz.implementsT (w : World) : (ReflectliteType.relation "Implements" ReflectliteType.implements_ #[.agg #[.pointer (some ⟨12, 133, none⟩)], .iface 200 (.agg #[.pointer (some ⟨12, 98, none⟩)])]).run Tryz.prog w = .ok (.bool true) w := by kernel_rfl
theorem Tryz.typeOfT (v:Value) (w:World):(ReflectliteType.typeOf #[.iface 133 v]).run Tryz.prog w=.ok (.iface 200 (.agg #[.pointer (some ⟨12,133,none⟩)])) w:=by kernel_rfl
theorem Tryz.typeOfR (v:Value) (w:World):(ReflectliteType.typeOf #[.iface 134 v]).run Tryz.prog w=.ok (.iface 200 (.agg #[.pointer (some ⟨12,134,none⟩)])) w:=by kernel_rfl
theorem Tryz.assignableT (w : World) : (ReflectliteType.relation "AssignableTo" ReflectliteType.assignableTo #[.agg #[.pointer (some ⟨12, 133, none⟩)], .iface 200 (.agg #[.pointer (some ⟨12, 133, none⟩)])]).run Tryz.prog w = .ok (.bool true) w := by kernel_rfl
theorem Tryz.assignableR (w : World) : (ReflectliteType.relation "AssignableTo" ReflectliteType.assignableTo #[.agg #[.pointer (some ⟨12, 134, none⟩)], .iface 200 (.agg #[.pointer (some ⟨12, 133, none⟩)])]).run Tryz.prog w = .ok (.bool false) w := by kernel_rfl
theorem Tryz.valueOfT (e:Addr) (w:World):(ReflectliteValue.unpack (.iface 133 (.pointer (some e)))).run Tryz.prog w
    = .ok (.agg #[.pointer (some ⟨12,133,none⟩),.pointer (some ⟨w.heap.size,0,none⟩),.int .u64 150]) (w.alloc (.cells #[.pointer (some e)] 133)):=by kernel_rfl
theorem Tryz.elemOfTT (w:World):(Rtype.elem? 136).run Tryz.prog w=.ok (some 133) w:=by kernel_rfl
theorem Tryz.mkT (p:Addr) (w:World):(ReflectliteValue.mk 133 p ReflectliteValue.flagAddr).run Tryz.prog w=.ok (.agg #[.pointer (some ⟨12,133,none⟩),.pointer (some p),.int .u64 406]) w:=by kernel_rfl
theorem Tryz.elemVTT (a p:Addr) (W:World) (ha:W.cell? a=some (.pointer (some p))) :
    (ReflectliteValue.method (ReflectliteValue.valueError "reflectlite.Value.Elem" 0) ReflectliteValue.elem #[.agg #[.pointer (some ⟨12, 136, none⟩), .pointer (some a), .int .u64 150]]).run Tryz.prog W
      = .ok (.agg #[.pointer (some ⟨12,133,none⟩),.pointer (some p),.int .u64 406]) W:=by
  change Sem.run Tryz.prog (bind (ReflectliteValue.parts _) _) W=_
  simp only [Sem.run_bind,Array.getLit,List.getElem_toArray,List.getElem_cons_zero,Tryz.partsTT,Result.andThen]
  simp [ReflectliteValue.elem,loadVar,isAgg,underlying,Tryz.underlying136,ha,Result.andThen,Tryz.elemOfTT,Tryz.mkT]
theorem Tryz.partsTa (a:Addr) (w:World):(ReflectliteValue.parts (.agg #[.pointer (some ⟨12,133,none⟩),.pointer (some a),.int .u64 406])).run Tryz.prog w=.ok (some (133,a,406)) w:=by kernel_rfl
theorem Tryz.partsT (a:Addr) (w:World):(ReflectliteValue.parts (.agg #[.pointer (some ⟨12,133,none⟩),.pointer (some a),.int .u64 150])).run Tryz.prog w=.ok (some (133,a,150)) w:=by kernel_rfl
theorem Tryz.directT (w:World):(Rtype.directlyAssignable 133 133).run Tryz.prog w=.ok true w:=by kernel_rfl
theorem Tryz.setT (ta b e:Addr) (old:Value) (W:World) (hb:W.cell? b=some (.pointer (some e))) (ht:W.cell? ta=some old) (hf:W.frozen? ta=false) :
    (ReflectliteValue.set #[.agg #[.pointer (some ⟨12,133,none⟩),.pointer (some ta),.int .u64 406],.agg #[.pointer (some ⟨12,133,none⟩),.pointer (some b),.int .u64 150]]).run Tryz.prog W
      = .ok (.tuple #[]) (W.setCell ta (.pointer (some e))):=by
  change Sem.run Tryz.prog (bind (ReflectliteValue.parts _) _) W=_
  simp only [Sem.run_bind,Array.getLit,List.getElem_toArray,List.getElem_cons_zero,List.getElem_cons_succ,Tryz.partsTa,Tryz.partsT,Result.andThen]
  simp [ReflectliteValue.flagAddr,loadVar,isAgg,underlying,Tryz.underlying133,hb,Result.andThen,Tryz.directT,storeVar,Value.cells,storeCells,Addr.add]
  rw [run_store Tryz.prog W ta _ _ (by rfl)]
  simp [ht,hf]
theorem Tryz.noAsR (v:Value) (xT:TypeId) (w:World):(Instr.typeAssert (.iface 134 v) xT 204 true).run Tryz.prog w=.ok (.tuple #[.nilIface,.bool false]) w:=run_typeAssert_lacksB Tryz.underlying204 (by kernel_rfl) (by kernel_rfl) v xT w
theorem Tryz.hasUnR (v:Value) (xT:TypeId) (w:World):(Instr.typeAssert (.iface 134 v) xT 207 true).run Tryz.prog w=.ok (.tuple #[.iface 134 v,.bool true]) w:=run_typeAssert_hasB Tryz.underlying207 (by kernel_rfl) v xT w
def asking (t:Addr) (w:World):World:=((w.alloc (.cells #[.pointer (some t)] 136)).alloc (.cells #[.pointer (some ⟨12,136,none⟩),.pointer (some ⟨w.heap.size,0,none⟩),.int .u64 150] 171)).alloc (.cells #[.pointer (some ⟨12,136,none⟩),.pointer (some ⟨w.heap.size,0,none⟩),.int .u64 150] 171)
set_option maxHeartbeats 4000000 in
theorem as_deep (gE:Nat) (e t:Addr) (old:Value) (w:World) (hg:w.cell? ⟨3,0,none⟩=some (.iface 200 (.agg #[.pointer (some ⟨12,98,none⟩)]))) (he:w.cell? ⟨gE,1,none⟩=some (.iface 133 (.pointer (some e)))) (ht0:w.cell? t=some old) (hf0:w.frozen? t=false) :
    Calls Tryz.prog 69 #[.iface 134 (.pointer (some ⟨gE,0,none⟩)),.iface 136 (.pointer (some t))] w fun ev w'=>ev=.returned (.bool true)∧w'=((asking t w).alloc (.cells #[.pointer (some e)] 133)).setCell t (.pointer (some e)):=by
  unfold asking
  have hlt:3 < w.heap.size:=by
    rcases Nat.lt_or_ge 3 w.heap.size with h' | h'
    · exact h'
    · simp [World.cell?,Array.getElem?_eq_none h'] at hg
  have hle:gE < w.heap.size:=by
    rcases Nat.lt_or_ge gE w.heap.size with h' | h'
    · exact h'
    · simp [World.cell?,Array.getElem?_eq_none h'] at he
  have htl:t.block < w.heap.size:=by
    rcases Nat.lt_or_ge t.block w.heap.size with h | h
    · exact h
    · simp [World.cell?,Array.getElem?_eq_none h] at ht0
  have h6:=@run_callFunc_extern Tryz.prog 87 _ (fun args=>ReflectliteValue.unpack (args.getD 0 (.tuple #[]))) Tryz.func87 (by kernel_rfl) (by kernel_rfl) (by kernel_rfl) (by kernel_rfl)
  have h7 := @run_callFunc_extern Tryz.prog 88 _ (ReflectliteValue.methodAny (ReflectliteValue.valueError "reflectlite.Value.Type" 0) (fun t _ _ _ => ReflectliteType.toType t)) Tryz.func88 (by kernel_rfl) (by kernel_rfl) (by kernel_rfl) (by kernel_rfl)
  have h8 := @run_callFunc_extern Tryz.prog 89 _ (ReflectliteValue.method (ReflectliteValue.valueError "reflectlite.Value.IsNil" 0) ReflectliteValue.isNil) Tryz.func89 (by kernel_rfl) (by kernel_rfl) (by kernel_rfl) (by kernel_rfl)
  have h27:=@run_callFunc_extern Tryz.prog 256 _ (ReflectliteType.abiMethod fun t=>do pure (.int .u8 (← Rtype.kind t))) Tryz.func256 (by kernel_rfl) (by kernel_rfl) (by kernel_rfl) (by kernel_rfl)
  have h37:=@run_callFunc_extern Tryz.prog 272 _ (ReflectliteType.method ReflectliteType.elem) Tryz.func272 (by kernel_rfl) (by kernel_rfl) (by kernel_rfl) (by kernel_rfl)
  have h38 := @run_callFunc_extern Tryz.prog 273 _ (ReflectliteType.relation "Implements" ReflectliteType.implements_) Tryz.func273 (by kernel_rfl) (by kernel_rfl) (by kernel_rfl) (by kernel_rfl)
  have h10:=@run_callFunc_extern Tryz.prog 91 _ ReflectliteType.typeOf Tryz.func91 (by kernel_rfl) (by kernel_rfl) (by kernel_rfl) (by kernel_rfl)
  have h35 := @run_callFunc_extern Tryz.prog 270 _ (ReflectliteType.relation "AssignableTo" ReflectliteType.assignableTo) Tryz.func270 (by kernel_rfl) (by kernel_rfl) (by kernel_rfl) (by kernel_rfl)
  have h11 := @run_callFunc_extern Tryz.prog 113 _ (ReflectliteValue.method (ReflectliteValue.valueError "reflectlite.Value.Elem" 0) ReflectliteValue.elem) Tryz.func113 (by kernel_rfl) (by kernel_rfl) (by kernel_rfl) (by kernel_rfl)
  have h12:=@run_callFunc_extern Tryz.prog 114 _ ReflectliteValue.set Tryz.func114 (by kernel_rfl) (by kernel_rfl) (by kernel_rfl) (by kernel_rfl)
  have tO:=Tryz.typeOfT
  have tR:=Tryz.typeOfR
  have aT:=Tryz.assignableT
  have aR:=Tryz.assignableR
  have vT:=Tryz.valueOfT
  have f6:=Tryz.valueOfTT
  have f7:=Tryz.typeTT
  have k27:=Tryz.kindTT
  have k25:=Tryz.kindT
  have e27:=Tryz.elemTT
  have i25:=Tryz.implementsT
  have nR:=Tryz.noAsR
  have uR:=Tryz.hasUnR
  have n8:=Tryz.isNilTT ⟨w.heap.size,0,none⟩ t ((w.alloc (.cells #[.pointer (some t)] 136)).alloc (.cells #[.pointer (some ⟨12,136,none⟩),.pointer (some ⟨w.heap.size,0,none⟩),.int .u64 150] 171)) (by simp)
  have hg2:((w.alloc (.cells #[.pointer (some t)] 136)).alloc (.cells #[.pointer (some ⟨12,136,none⟩),.pointer (some ⟨w.heap.size,0,none⟩),.int .u64 150] 171)).cell? ⟨3,0,none⟩=some (.iface 200 (.agg #[.pointer (some ⟨12,98,none⟩)])):=by
    rw [World.cell?_alloc_lt _ _ ⟨3,0,none⟩ (by simp;omega),World.cell?_alloc_lt _ _ ⟨3,0,none⟩ hlt];exact hg
  have he2:(((w.alloc (.cells #[.pointer (some t)] 136)).alloc (.cells #[.pointer (some ⟨12,136,none⟩),.pointer (some ⟨w.heap.size,0,none⟩),.int .u64 150] 171)).alloc (.cells #[.pointer (some ⟨12,136,none⟩),.pointer (some ⟨w.heap.size,0,none⟩),.int .u64 150] 171)).cell? ⟨gE,1,none⟩=some (.iface 133 (.pointer (some e))):=by
    rw [World.cell?_alloc_lt _ _ ⟨gE,1,none⟩ (by simp;omega),World.cell?_alloc_lt _ _ ⟨gE,1,none⟩ (by simp;omega),World.cell?_alloc_lt _ _ ⟨gE,1,none⟩ hle];exact he
  have el:=Tryz.elemVTT ⟨w.heap.size,0,none⟩ t (((w.alloc (.cells #[.pointer (some t)] 136)).alloc (.cells #[.pointer (some ⟨12,136,none⟩),.pointer (some ⟨w.heap.size,0,none⟩),.int .u64 150] 171)).alloc (.cells #[.pointer (some ⟨12,136,none⟩),.pointer (some ⟨w.heap.size,0,none⟩),.int .u64 150] 171)) (by rw [World.cell?_alloc_lt _ _ ⟨w.heap.size,0,none⟩ (by simp;omega)];simp)
  have st:=Tryz.setT t ⟨w.heap.size+1+1+1,0,none⟩ e old ((((w.alloc (.cells #[.pointer (some t)] 136)).alloc (.cells #[.pointer (some ⟨12,136,none⟩),.pointer (some ⟨w.heap.size,0,none⟩),.int .u64 150] 171)).alloc (.cells #[.pointer (some ⟨12,136,none⟩),.pointer (some ⟨w.heap.size,0,none⟩),.int .u64 150] 171)).alloc (.cells #[.pointer (some e)] 133))
    (by rw [World.cell?_alloc_at _ _ _ _ (by simp)];rfl)
    (by rw [World.cell?_alloc_lt _ _ t (by simp;omega),World.cell?_alloc_lt _ _ t (by simp;omega),World.cell?_alloc_lt _ _ t (by simp;omega),World.cell?_alloc_lt _ _ t htl];exact ht0)
    (by rw [World.frozen?_alloc_old _ _ t (by simp;omega),World.frozen?_alloc_old _ _ t (by simp;omega),World.frozen?_alloc_old _ _ t (by simp;omega),World.frozen?_alloc_old _ _ t (Nat.ne_of_lt htl)];exact hf0)
  clear hg ht0 hf0 he
  go_enter Tryz.func69,Tryz.ntmps69
  go_wp2
  refine wp_loop_rounds 2 ?_
  rw [rounds_succ]
  go_wp2
  rw [rounds_succ]
  go_wp2
  go_ret
  exact ⟨rfl,rfl⟩
end Go.Proofs.YtljcljipppjnoaaGreatDoor
namespace Go.Proofs.YtljcljipppjnoaaGreatDoor
open Go.RowKit Go.Extern.Stop Go.Stop Go.Extern
theorem lt_cell {w:World} {b i:Nat} {v:Value} (h:w.cell? ⟨b,i,none⟩=some v):b < w.heap.size:=by
  rcases Nat.lt_or_ge b w.heap.size with h' | h'
  · exact h'
  · simp [World.cell?,Array.getElem?_eq_none h'] at h
theorem Tryz.asR (v:Value) (w:World):(Instr.typeAssert (.iface 134 v) 98 134 true).run Tryz.prog w=.ok (.tuple #[v,.bool true]) w:=by kernel_rfl
theorem Tryz.asER (v:Value) (w:World):(Instr.typeAssert (.iface 292 v) 98 134 true).run Tryz.prog w=.ok (.tuple #[.pointer none,.bool false]) w:=by kernel_rfl
theorem Tryz.asEW (v:Value) (w:World):(Instr.typeAssert (.iface 292 v) 98 141 true).run Tryz.prog w=.ok (.tuple #[.pointer none,.bool false]) w:=by kernel_rfl
theorem sent_same (a:Addr) (w:World):(binOp .eql 98 (.iface 292 (.pointer (some a))) (.iface 292 (.pointer (some a)))).run Tryz.prog w=.ok (.bool true) w:=by
  obtain ⟨i,hi,hcmp⟩:=Option.map_eq_some_iff.1 Tryz.compErr
  obtain ⟨j,hj,hjs⟩:=Option.map_eq_some_iff.1 Tryz.sizeErr
  exact run_eql_iface_ptr_same (P:=Tryz.prog) w a Tryz.underlying98 Tryz.underlying292 hi hcmp hj
theorem Tryz.compOwn:(Tryz.prog.info? 133).map (·.comparable)=some true:=by kernel_rfl
theorem Tryz.sizeOwn:(Tryz.prog.info? 306).map (fun j=>decide (j.size ≠ 0))=some true:=by kernel_rfl
theorem own_same (a:Addr) (w:World):(binOp .eql 98 (.iface 133 (.pointer (some a))) (.iface 133 (.pointer (some a)))).run Tryz.prog w=.ok (.bool true) w:=by
  obtain ⟨i,hi,hcmp⟩:=Option.map_eq_some_iff.1 Tryz.compOwn
  obtain ⟨j,hj,hjs⟩:=Option.map_eq_some_iff.1 Tryz.sizeOwn
  exact run_eql_iface_ptr_same (P:=Tryz.prog) w a Tryz.underlying98 Tryz.underlying133 hi hcmp hj
theorem tell_cell {w:World} {g:Nat} {v:Value} (h:w.cell? ⟨g,0,none⟩=some v):((w.alloc (.cells #[.int .i64 0,.int .i64 0] 43)).alloc (.cells #[.pointer none] 133)).cell? ⟨g,0,none⟩=some v:=by
  have l:=lt_cell h
  have e:((w.alloc (.cells #[.int .i64 0,.int .i64 0] 43)).alloc (.cells #[.pointer none] 133)).heap[g]?=w.heap[g]?:=by rw [Below.heap_alloc _ _ g (by simp;omega),Below.heap_alloc _ _ g l]
  rw [← h]
  exact World.cell?_of_block e
set_option maxHeartbeats 1000000 in
theorem of_nil (w:World) :
    Calls Tryz.prog 49 #[.nilIface] w fun e w'=>e=.returned (.agg #[.int .i64 0,.int .i64 0])∧Below w.heap.size w w':=by
  go_enter Tryz.func49,Tryz.ntmps49
  go_wp2
  go_returns
  exact ⟨rfl,((Below.refl _ _).alloc (Nat.le_refl _) _).alloc (by simp) _⟩
set_option maxHeartbeats 1000000 in
theorem of_long (aL:Addr) (w:World) (hL:w.cell? ⟨1,0,none⟩=some (.iface 292 (.pointer (some aL)))) :
    Calls Tryz.prog 49 #[.iface 292 (.pointer (some aL))] w fun e w'=>e=.returned (.agg #[.int .i64 1,.int .i64 0])∧Below w.heap.size w w':=by
  have a1:=Tryz.asER
  have a2:=Tryz.asEW
  have eq:=sent_same aL
  have hL2:=tell_cell hL
  clear hL
  go_enter Tryz.func49,Tryz.ntmps49
  go_wp2
  go_returns
  exact ⟨rfl,((Below.refl _ _).alloc (Nat.le_refl _) _).alloc (by simp) _⟩
set_option maxHeartbeats 1000000 in
theorem of_idle (aL aI:Addr) (w:World) (hL:w.cell? ⟨1,0,none⟩=some (.iface 292 (.pointer (some aL)))) (hI:w.cell? ⟨2,0,none⟩=some (.iface 292 (.pointer (some aI))))
    (q:∀ W:World,(∀ b:Nat,b < w.heap.size→W.heap[b]?=w.heap[b]?)→(binOp .eql 98 (.iface 292 (.pointer (some aI))) (.iface 292 (.pointer (some aL)))).run Tryz.prog W=.ok (.bool false) W) :
    Calls Tryz.prog 49 #[.iface 292 (.pointer (some aI))] w fun e w'=>e=.returned (.agg #[.int .i64 2,.int .i64 0])∧Below w.heap.size w w':=by
  have a1:=Tryz.asER
  have a2:=Tryz.asEW
  have eq:=sent_same aI
  have hL2:=tell_cell hL
  have hI2:=tell_cell hI
  have q2:=q ((w.alloc (.cells #[.int .i64 0,.int .i64 0] 43)).alloc (.cells #[.pointer none] 133)) (fun b hb=>by rw [Below.heap_alloc _ _ b (by simp;omega),Below.heap_alloc _ _ b hb])
  clear q hL hI
  go_enter Tryz.func49,Tryz.ntmps49
  go_wp2
  go_returns
  exact ⟨rfl,((Below.refl _ _).alloc (Nat.le_refl _) _).alloc (by simp) _⟩
def telling (w:World):World:=(w.alloc (.cells #[.int .i64 0,.int .i64 0] 43)).alloc (.cells #[.pointer none] 133)
theorem telling_size (w:World):(telling w).heap.size=w.heap.size+2:=by simp [telling]
theorem telling_old (w:World) (k:Nat) (h:k < w.heap.size):(telling w).heap[k]?=w.heap[k]?:=by
  unfold telling
  rw [Below.heap_alloc _ _ k (by simp;omega),Below.heap_alloc _ _ k h]
theorem telling0 (w:World):(telling w).heap[w.heap.size]?=some (.cells #[.int .i64 0,.int .i64 0] 43 (0,0)):=by
  unfold telling
  rw [Below.heap_alloc _ _ _ (by simp)]
  exact heap_new _ _ rfl
theorem telling1 (w:World):(telling w).heap[w.heap.size+1]?=some (.cells #[.pointer none] 133 (0,0)):=by
  unfold telling
  exact heap_new _ _ (by simp)
theorem as_told (gE:Nat) (k:Int) (gO:Addr) (w:World) (hg:w.cell? ⟨3,0,none⟩=some (.iface 200 (.agg #[.pointer (some ⟨12,98,none⟩)])))
    (h0:w.cell? ⟨gE,0,none⟩=some (.int .i64 k)) (h1:w.cell? ⟨gE,1,none⟩=some (.iface 133 (.pointer (some gO)))) :
    Calls Tryz.prog 69 #[.iface 134 (.pointer (some ⟨gE,0,none⟩)),.iface 136 (.pointer (some ⟨w.heap.size+1,0,none⟩))] (telling w).drew fun e w'=>e=.returned (.bool true) ∧
      w'.cell? ⟨gE,0,none⟩=some (.int .i64 k)∧w'.cell? ⟨gE,1,none⟩=some (.iface 133 (.pointer (some gO)))∧w'.cell? ⟨w.heap.size+1,0,none⟩=some (.pointer (some gO)) ∧
      w'.cell? ⟨w.heap.size,0,none⟩=some (.int .i64 0)∧w'.cell? ⟨w.heap.size,1,none⟩=some (.int .i64 0)∧w'.frozen? ⟨w.heap.size,0,none⟩=false∧w'.frozen? ⟨w.heap.size,1,none⟩=false ∧
      Hid (w'.heap[w.heap.size]?=some (.cells #[.int .i64 0,.int .i64 0] 43 (0,0)))∧Below w.heap.size w w':=by
  have lE:=lt_cell h0
  have lG:=lt_cell hg
  have hs:=telling_size w
  have o1:(telling w).drew.cell? ⟨w.heap.size+1,0,none⟩=some (.pointer none):=by
    show (telling w).cell? _=_
    rw [Lib.cell_of_heap (telling1 w)];rfl
  have o2:(telling w).drew.frozen? ⟨w.heap.size+1,0,none⟩=false:=Lib.frozen_of_heap (telling1 w) 0
  refine (as_deep gE gO ⟨w.heap.size+1,0,none⟩ (.pointer none) (telling w).drew ((World.cell?_of_block (telling_old w _ lG)).trans hg) ((World.cell?_of_block (telling_old w _ lE)).trans h1) o1 o2).mono ?_
  rintro e w' ⟨rfl,rfl⟩
  have kp:Kept (w.heap.size+1) (telling w).drew (((asking ⟨w.heap.size+1,0,none⟩ (telling w).drew).alloc (.cells #[.pointer (some gO)] 133)).setCell ⟨w.heap.size+1,0,none⟩ (.pointer (some gO))) :=
    ((((((Kept.refl _ _).alloc _).alloc _).alloc _).alloc _).setCell 0 _)
  have old:∀ j,j < w.heap.size→(((asking ⟨w.heap.size+1,0,none⟩ (telling w).drew).alloc (.cells #[.pointer (some gO)] 133)).setCell ⟨w.heap.size+1,0,none⟩ (.pointer (some gO))).heap[j]?=w.heap[j]?:=fun j hj =>
    (kp.block j (by show j < (telling w).heap.size;omega) (by omega)).trans (telling_old w j hj)
  have own:=(kp.block w.heap.size (by show _ < (telling w).heap.size;omega) (by omega)).trans (telling0 w)
  have b1:(((asking ⟨w.heap.size+1,0,none⟩ (telling w).drew).alloc (.cells #[.pointer (some gO)] 133)).heap[w.heap.size+1]?)=some (.cells #[.pointer none] 133 (0,0)):=by
    have kq:Kept (w.heap.size+2) (telling w).drew ((asking ⟨w.heap.size+1,0,none⟩ (telling w).drew).alloc (.cells #[.pointer (some gO)] 133)) :=
      (((((Kept.refl _ _).alloc _).alloc _).alloc _).alloc _)
    exact (kq.block _ (by show _ < (telling w).heap.size;omega) (by omega)).trans (telling1 w)
  have own1:=Joins.block_setCell (i:=0) b1 (.pointer (some gO))
  refine ⟨rfl,(World.cell?_of_block (old gE lE)).trans h0,(World.cell?_of_block (old gE lE)).trans h1,?_,?_,?_,Lib.frozen_of_heap own 0,Lib.frozen_of_heap own 1,own,⟨kp.os,kp.tape,kp.output,by have:=kp.size;have e1:(telling w).drew.heap.size=(telling w).heap.size:=rfl;omega,old⟩⟩
  · rw [Lib.cell_of_heap own1];rfl
  · rw [Lib.cell_of_heap own];rfl
  · rw [Lib.cell_of_heap own];rfl
set_option maxHeartbeats 1000000 in
theorem of_read (gE:Nat) (k:Int) (gO:Addr) (w:World) (hg:w.cell? ⟨3,0,none⟩=some (.iface 200 (.agg #[.pointer (some ⟨12,98,none⟩)])))
    (h0:w.cell? ⟨gE,0,none⟩=some (.int .i64 k)) (h1:w.cell? ⟨gE,1,none⟩=some (.iface 133 (.pointer (some gO)))) :
    Calls Tryz.prog 49 #[.iface 134 (.pointer (some ⟨gE,0,none⟩))] w fun e w'=>e=.returned (.agg #[.int .i64 4,.int .i64 k])∧Below w.heap.size w w':=by
  have a1:=Tryz.asR
  have eq:=own_same gO
  have hc:=as_told gE k gO w hg h0 h1
  unfold telling at hc
  clear hg h0 h1
  go_enter Tryz.func49,Tryz.ntmps49
  go_wp2
  go_region_with (go_at_call 69;refine hc.mono ?_;rintro e w1 ⟨rfl,d0,d1,d2,d3,d4,z0,z1,own,hb⟩)
  all_goals
    go_wp2
    have own2:=Joins.block_setCell (i:=0) own.out (.int .i64 4)
    have own3:=Joins.block_setCell (i:=1) own2 (.int .i64 k)
    have e0:(w1.setCell ⟨w.heap.size,0,none⟩ (.int .i64 4)).cell? ⟨w.heap.size,0,none⟩=some (.int .i64 4):=by rw [Lib.cell_of_heap own2];rfl
    have e1:((w1.setCell ⟨w.heap.size,0,none⟩ (.int .i64 4)).setCell ⟨w.heap.size,1,none⟩ (.int .i64 k)).cell? ⟨w.heap.size,1,none⟩=some (.int .i64 k):=by rw [Lib.cell_of_heap own3];rfl
    exact bodyPost_ret (v:=.agg #[.int .i64 4,.int .i64 k]) (by simp [results,Tryz.results49,go_sem,e0,e1]) rfl ⟨rfl,(hb.setCell (p:=⟨w.heap.size,0,none⟩) (Nat.le_refl _) _).setCell (p:=⟨w.heap.size,1,none⟩) (Nat.le_refl _) _⟩
end Go.Proofs.YtljcljipppjnoaaGreatDoor
namespace Go.Proofs.YtljcljipppjnoaaGreatDoor
open Go.RowKit Go.Extern.Stop Go.Stop Go.Extern
theorem Tryz.typeOfW (v:Value) (w:World):(ReflectliteType.typeOf #[.iface 141 v]).run Tryz.prog w=.ok (.iface 200 (.agg #[.pointer (some ⟨12,141,none⟩)])) w:=by kernel_rfl
theorem Tryz.assignableW (w : World) : (ReflectliteType.relation "AssignableTo" ReflectliteType.assignableTo #[.agg #[.pointer (some ⟨12, 141, none⟩)], .iface 200 (.agg #[.pointer (some ⟨12, 133, none⟩)])]).run Tryz.prog w = .ok (.bool false) w := by kernel_rfl
theorem Tryz.noAsW (v:Value) (xT:TypeId) (w:World):(Instr.typeAssert (.iface 141 v) xT 204 true).run Tryz.prog w=.ok (.tuple #[.nilIface,.bool false]) w:=run_typeAssert_lacksB Tryz.underlying204 (by kernel_rfl) (by kernel_rfl) v xT w
theorem Tryz.hasUnW (v:Value) (xT:TypeId) (w:World):(Instr.typeAssert (.iface 141 v) xT 207 true).run Tryz.prog w=.ok (.tuple #[.iface 141 v,.bool true]) w:=run_typeAssert_hasB Tryz.underlying207 (by kernel_rfl) v xT w
set_option maxHeartbeats 4000000 in
theorem as_deepW (gE:Nat) (e t:Addr) (old:Value) (w:World) (hg:w.cell? ⟨3,0,none⟩=some (.iface 200 (.agg #[.pointer (some ⟨12,98,none⟩)]))) (he:w.cell? ⟨gE,1,none⟩=some (.iface 133 (.pointer (some e)))) (ht0:w.cell? t=some old) (hf0:w.frozen? t=false) :
    Calls Tryz.prog 69 #[.iface 141 (.pointer (some ⟨gE,0,none⟩)),.iface 136 (.pointer (some t))] w fun ev w'=>ev=.returned (.bool true)∧w'=((asking t w).alloc (.cells #[.pointer (some e)] 133)).setCell t (.pointer (some e)):=by
  unfold asking
  have hlt:3 < w.heap.size:=by
    rcases Nat.lt_or_ge 3 w.heap.size with h' | h'
    · exact h'
    · simp [World.cell?,Array.getElem?_eq_none h'] at hg
  have hle:gE < w.heap.size:=by
    rcases Nat.lt_or_ge gE w.heap.size with h' | h'
    · exact h'
    · simp [World.cell?,Array.getElem?_eq_none h'] at he
  have htl:t.block < w.heap.size:=by
    rcases Nat.lt_or_ge t.block w.heap.size with h | h
    · exact h
    · simp [World.cell?,Array.getElem?_eq_none h] at ht0
  have h6:=@run_callFunc_extern Tryz.prog 87 _ (fun args=>ReflectliteValue.unpack (args.getD 0 (.tuple #[]))) Tryz.func87 (by kernel_rfl) (by kernel_rfl) (by kernel_rfl) (by kernel_rfl)
  have h7 := @run_callFunc_extern Tryz.prog 88 _ (ReflectliteValue.methodAny (ReflectliteValue.valueError "reflectlite.Value.Type" 0) (fun t _ _ _ => ReflectliteType.toType t)) Tryz.func88 (by kernel_rfl) (by kernel_rfl) (by kernel_rfl) (by kernel_rfl)
  have h8 := @run_callFunc_extern Tryz.prog 89 _ (ReflectliteValue.method (ReflectliteValue.valueError "reflectlite.Value.IsNil" 0) ReflectliteValue.isNil) Tryz.func89 (by kernel_rfl) (by kernel_rfl) (by kernel_rfl) (by kernel_rfl)
  have h27:=@run_callFunc_extern Tryz.prog 256 _ (ReflectliteType.abiMethod fun t=>do pure (.int .u8 (← Rtype.kind t))) Tryz.func256 (by kernel_rfl) (by kernel_rfl) (by kernel_rfl) (by kernel_rfl)
  have h37:=@run_callFunc_extern Tryz.prog 272 _ (ReflectliteType.method ReflectliteType.elem) Tryz.func272 (by kernel_rfl) (by kernel_rfl) (by kernel_rfl) (by kernel_rfl)
  have h38 := @run_callFunc_extern Tryz.prog 273 _ (ReflectliteType.relation "Implements" ReflectliteType.implements_) Tryz.func273 (by kernel_rfl) (by kernel_rfl) (by kernel_rfl) (by kernel_rfl)
  have h10:=@run_callFunc_extern Tryz.prog 91 _ ReflectliteType.typeOf Tryz.func91 (by kernel_rfl) (by kernel_rfl) (by kernel_rfl) (by kernel_rfl)
  have h35 := @run_callFunc_extern Tryz.prog 270 _ (ReflectliteType.relation "AssignableTo" ReflectliteType.assignableTo) Tryz.func270 (by kernel_rfl) (by kernel_rfl) (by kernel_rfl) (by kernel_rfl)
  have h11 := @run_callFunc_extern Tryz.prog 113 _ (ReflectliteValue.method (ReflectliteValue.valueError "reflectlite.Value.Elem" 0) ReflectliteValue.elem) Tryz.func113 (by kernel_rfl) (by kernel_rfl) (by kernel_rfl) (by kernel_rfl)
  have h12:=@run_callFunc_extern Tryz.prog 114 _ ReflectliteValue.set Tryz.func114 (by kernel_rfl) (by kernel_rfl) (by kernel_rfl) (by kernel_rfl)
  have tO:=Tryz.typeOfT
  have tR:=Tryz.typeOfW
  have aT:=Tryz.assignableT
  have aR:=Tryz.assignableW
  have vT:=Tryz.valueOfT
  have f6:=Tryz.valueOfTT
  have f7:=Tryz.typeTT
  have k27:=Tryz.kindTT
  have k25:=Tryz.kindT
  have e27:=Tryz.elemTT
  have i25:=Tryz.implementsT
  have nR:=Tryz.noAsW
  have uR:=Tryz.hasUnW
  have n8:=Tryz.isNilTT ⟨w.heap.size,0,none⟩ t ((w.alloc (.cells #[.pointer (some t)] 136)).alloc (.cells #[.pointer (some ⟨12,136,none⟩),.pointer (some ⟨w.heap.size,0,none⟩),.int .u64 150] 171)) (by simp)
  have hg2:((w.alloc (.cells #[.pointer (some t)] 136)).alloc (.cells #[.pointer (some ⟨12,136,none⟩),.pointer (some ⟨w.heap.size,0,none⟩),.int .u64 150] 171)).cell? ⟨3,0,none⟩=some (.iface 200 (.agg #[.pointer (some ⟨12,98,none⟩)])):=by
    rw [World.cell?_alloc_lt _ _ ⟨3,0,none⟩ (by simp;omega),World.cell?_alloc_lt _ _ ⟨3,0,none⟩ hlt];exact hg
  have he2:(((w.alloc (.cells #[.pointer (some t)] 136)).alloc (.cells #[.pointer (some ⟨12,136,none⟩),.pointer (some ⟨w.heap.size,0,none⟩),.int .u64 150] 171)).alloc (.cells #[.pointer (some ⟨12,136,none⟩),.pointer (some ⟨w.heap.size,0,none⟩),.int .u64 150] 171)).cell? ⟨gE,1,none⟩=some (.iface 133 (.pointer (some e))):=by
    rw [World.cell?_alloc_lt _ _ ⟨gE,1,none⟩ (by simp;omega),World.cell?_alloc_lt _ _ ⟨gE,1,none⟩ (by simp;omega),World.cell?_alloc_lt _ _ ⟨gE,1,none⟩ hle];exact he
  have el:=Tryz.elemVTT ⟨w.heap.size,0,none⟩ t (((w.alloc (.cells #[.pointer (some t)] 136)).alloc (.cells #[.pointer (some ⟨12,136,none⟩),.pointer (some ⟨w.heap.size,0,none⟩),.int .u64 150] 171)).alloc (.cells #[.pointer (some ⟨12,136,none⟩),.pointer (some ⟨w.heap.size,0,none⟩),.int .u64 150] 171)) (by rw [World.cell?_alloc_lt _ _ ⟨w.heap.size,0,none⟩ (by simp;omega)];simp)
  have st:=Tryz.setT t ⟨w.heap.size+1+1+1,0,none⟩ e old ((((w.alloc (.cells #[.pointer (some t)] 136)).alloc (.cells #[.pointer (some ⟨12,136,none⟩),.pointer (some ⟨w.heap.size,0,none⟩),.int .u64 150] 171)).alloc (.cells #[.pointer (some ⟨12,136,none⟩),.pointer (some ⟨w.heap.size,0,none⟩),.int .u64 150] 171)).alloc (.cells #[.pointer (some e)] 133))
    (by rw [World.cell?_alloc_at _ _ _ _ (by simp)];rfl)
    (by rw [World.cell?_alloc_lt _ _ t (by simp;omega),World.cell?_alloc_lt _ _ t (by simp;omega),World.cell?_alloc_lt _ _ t (by simp;omega),World.cell?_alloc_lt _ _ t htl];exact ht0)
    (by rw [World.frozen?_alloc_old _ _ t (by simp;omega),World.frozen?_alloc_old _ _ t (by simp;omega),World.frozen?_alloc_old _ _ t (by simp;omega),World.frozen?_alloc_old _ _ t (Nat.ne_of_lt htl)];exact hf0)
  clear hg ht0 hf0 he
  go_enter Tryz.func69,Tryz.ntmps69
  go_wp2
  refine wp_loop_rounds 2 ?_
  rw [rounds_succ]
  go_wp2
  rw [rounds_succ]
  go_wp2
  go_ret
  exact ⟨rfl,rfl⟩
theorem as_toldW (gE:Nat) (k:Int) (gO:Addr) (w:World) (hg:w.cell? ⟨3,0,none⟩=some (.iface 200 (.agg #[.pointer (some ⟨12,98,none⟩)])))
    (h0:w.cell? ⟨gE,0,none⟩=some (.int .i64 k)) (h1:w.cell? ⟨gE,1,none⟩=some (.iface 133 (.pointer (some gO)))) :
    Calls Tryz.prog 69 #[.iface 141 (.pointer (some ⟨gE,0,none⟩)),.iface 136 (.pointer (some ⟨w.heap.size+1,0,none⟩))] (telling w).drew fun e w'=>e=.returned (.bool true) ∧
      w'.cell? ⟨gE,0,none⟩=some (.int .i64 k)∧w'.cell? ⟨gE,1,none⟩=some (.iface 133 (.pointer (some gO)))∧w'.cell? ⟨w.heap.size+1,0,none⟩=some (.pointer (some gO)) ∧
      w'.cell? ⟨w.heap.size,0,none⟩=some (.int .i64 0)∧w'.cell? ⟨w.heap.size,1,none⟩=some (.int .i64 0)∧w'.frozen? ⟨w.heap.size,0,none⟩=false∧w'.frozen? ⟨w.heap.size,1,none⟩=false ∧
      Hid (w'.heap[w.heap.size]?=some (.cells #[.int .i64 0,.int .i64 0] 43 (0,0)))∧Below w.heap.size w w':=by
  have lE:=lt_cell h0
  have lG:=lt_cell hg
  have hs:=telling_size w
  have o1:(telling w).drew.cell? ⟨w.heap.size+1,0,none⟩=some (.pointer none):=by
    show (telling w).cell? _=_
    rw [Lib.cell_of_heap (telling1 w)];rfl
  have o2:(telling w).drew.frozen? ⟨w.heap.size+1,0,none⟩=false:=Lib.frozen_of_heap (telling1 w) 0
  refine (as_deepW gE gO ⟨w.heap.size+1,0,none⟩ (.pointer none) (telling w).drew ((World.cell?_of_block (telling_old w _ lG)).trans hg) ((World.cell?_of_block (telling_old w _ lE)).trans h1) o1 o2).mono ?_
  rintro e w' ⟨rfl,rfl⟩
  have kp:Kept (w.heap.size+1) (telling w).drew (((asking ⟨w.heap.size+1,0,none⟩ (telling w).drew).alloc (.cells #[.pointer (some gO)] 133)).setCell ⟨w.heap.size+1,0,none⟩ (.pointer (some gO))) :=
    ((((((Kept.refl _ _).alloc _).alloc _).alloc _).alloc _).setCell 0 _)
  have old:∀ j,j < w.heap.size→(((asking ⟨w.heap.size+1,0,none⟩ (telling w).drew).alloc (.cells #[.pointer (some gO)] 133)).setCell ⟨w.heap.size+1,0,none⟩ (.pointer (some gO))).heap[j]?=w.heap[j]?:=fun j hj =>
    (kp.block j (by show j < (telling w).heap.size;omega) (by omega)).trans (telling_old w j hj)
  have own:=(kp.block w.heap.size (by show _ < (telling w).heap.size;omega) (by omega)).trans (telling0 w)
  have b1:(((asking ⟨w.heap.size+1,0,none⟩ (telling w).drew).alloc (.cells #[.pointer (some gO)] 133)).heap[w.heap.size+1]?)=some (.cells #[.pointer none] 133 (0,0)):=by
    have kq:Kept (w.heap.size+2) (telling w).drew ((asking ⟨w.heap.size+1,0,none⟩ (telling w).drew).alloc (.cells #[.pointer (some gO)] 133)) :=
      (((((Kept.refl _ _).alloc _).alloc _).alloc _).alloc _)
    exact (kq.block _ (by show _ < (telling w).heap.size;omega) (by omega)).trans (telling1 w)
  have own1:=Joins.block_setCell (i:=0) b1 (.pointer (some gO))
  refine ⟨rfl,(World.cell?_of_block (old gE lE)).trans h0,(World.cell?_of_block (old gE lE)).trans h1,?_,?_,?_,Lib.frozen_of_heap own 0,Lib.frozen_of_heap own 1,own,⟨kp.os,kp.tape,kp.output,by have:=kp.size;have e1:(telling w).drew.heap.size=(telling w).heap.size:=rfl;omega,old⟩⟩
  · rw [Lib.cell_of_heap own1];rfl
  · rw [Lib.cell_of_heap own];rfl
  · rw [Lib.cell_of_heap own];rfl
theorem Tryz.asW (v:Value) (w:World):(Instr.typeAssert (.iface 141 v) 98 141 true).run Tryz.prog w=.ok (.tuple #[v,.bool true]) w:=by kernel_rfl
theorem Tryz.asWR (v:Value) (w:World):(Instr.typeAssert (.iface 141 v) 98 134 true).run Tryz.prog w=.ok (.tuple #[.pointer none,.bool false]) w:=by kernel_rfl
set_option maxHeartbeats 1000000 in
theorem of_write (gE:Nat) (k:Int) (gO:Addr) (w:World) (hg:w.cell? ⟨3,0,none⟩=some (.iface 200 (.agg #[.pointer (some ⟨12,98,none⟩)])))
    (h0:w.cell? ⟨gE,0,none⟩=some (.int .i64 k)) (h1:w.cell? ⟨gE,1,none⟩=some (.iface 133 (.pointer (some gO)))) :
    Calls Tryz.prog 49 #[.iface 141 (.pointer (some ⟨gE,0,none⟩))] w fun e w'=>e=.returned (.agg #[.int .i64 5,.int .i64 k])∧Below w.heap.size w w':=by
  have a1:=Tryz.asWR
  have a2:=Tryz.asW
  have eq:=own_same gO
  have hc:=as_toldW gE k gO w hg h0 h1
  unfold telling at hc
  clear hg h0 h1
  go_enter Tryz.func49,Tryz.ntmps49
  go_wp2
  go_region_with (go_at_call 69;refine hc.mono ?_;rintro e w1 ⟨rfl,d0,d1,d2,d3,d4,z0,z1,own,hb⟩)
  all_goals
    go_wp2
    have own2:=Joins.block_setCell (i:=0) own.out (.int .i64 5)
    have own3:=Joins.block_setCell (i:=1) own2 (.int .i64 k)
    have e0:(w1.setCell ⟨w.heap.size,0,none⟩ (.int .i64 5)).cell? ⟨w.heap.size,0,none⟩=some (.int .i64 5):=by rw [Lib.cell_of_heap own2];rfl
    have e1:((w1.setCell ⟨w.heap.size,0,none⟩ (.int .i64 5)).setCell ⟨w.heap.size,1,none⟩ (.int .i64 k)).cell? ⟨w.heap.size,1,none⟩=some (.int .i64 k):=by rw [Lib.cell_of_heap own3];rfl
    exact bodyPost_ret (v:=.agg #[.int .i64 5,.int .i64 k]) (by simp [results,Tryz.results49,go_sem,e0,e1]) rfl ⟨rfl,(hb.setCell (p:=⟨w.heap.size,0,none⟩) (Nat.le_refl _) _).setCell (p:=⟨w.heap.size,1,none⟩) (Nat.le_refl _) _⟩
end Go.Proofs.YtljcljipppjnoaaGreatDoor
namespace Go.Proofs.YtljcljipppjnoaaGreatDoor
open Go.RowKit Go.Extern.Stop Go.Stop Go.Extern
theorem Tryz.typeOfE (v:Value) (w:World):(ReflectliteType.typeOf #[.iface 292 v]).run Tryz.prog w=.ok (.iface 200 (.agg #[.pointer (some ⟨12,292,none⟩)])) w:=by kernel_rfl
theorem Tryz.assignableE (w : World) : (ReflectliteType.relation "AssignableTo" ReflectliteType.assignableTo #[.agg #[.pointer (some ⟨12, 292, none⟩)], .iface 200 (.agg #[.pointer (some ⟨12, 133, none⟩)])]).run Tryz.prog w = .ok (.bool false) w := by kernel_rfl
theorem Tryz.noAsE (v:Value) (xT:TypeId) (w:World):(Instr.typeAssert (.iface 292 v) xT 204 true).run Tryz.prog w=.ok (.tuple #[.nilIface,.bool false]) w:=run_typeAssert_lacksB Tryz.underlying204 (by kernel_rfl) (by kernel_rfl) v xT w
theorem Tryz.noUnE (v:Value) (xT:TypeId) (w:World):(Instr.typeAssert (.iface 292 v) xT 207 true).run Tryz.prog w=.ok (.tuple #[.nilIface,.bool false]) w:=run_typeAssert_lacksB Tryz.underlying207 (by kernel_rfl) (by kernel_rfl) v xT w
theorem Tryz.noUnsE (v:Value) (xT:TypeId) (w:World):(Instr.typeAssert (.iface 292 v) xT 208 true).run Tryz.prog w=.ok (.tuple #[.nilIface,.bool false]) w:=run_typeAssert_lacksB Tryz.underlying208 (by kernel_rfl) (by kernel_rfl) v xT w
theorem Tryz.noIsE (v:Value) (xT:TypeId) (w:World):(Instr.typeAssert (.iface 292 v) xT 211 true).run Tryz.prog w=.ok (.tuple #[.nilIface,.bool false]) w:=run_typeAssert_lacksB Tryz.underlying211 (by kernel_rfl) (by kernel_rfl) v xT w
theorem Tryz.noIsW (v:Value) (xT:TypeId) (w:World):(Instr.typeAssert (.iface 141 v) xT 211 true).run Tryz.prog w=.ok (.tuple #[.nilIface,.bool false]) w:=run_typeAssert_lacksB Tryz.underlying211 (by kernel_rfl) (by kernel_rfl) v xT w
theorem Tryz.compE (w : World) : ((ReflectliteType.method fun t => do Rtype.noPackHeld "Comparable" t; (fun a => Value.bool a.comparable) <$> typeInfo t) #[.agg #[.pointer (some ⟨12, 292, none⟩)]]).run Tryz.prog w = .ok (.bool true) w := by kernel_rfl
set_option maxHeartbeats 4000000 in
theorem as_none (gE:Nat) (e t:Addr) (w:World) (hg:w.cell? ⟨3,0,none⟩=some (.iface 200 (.agg #[.pointer (some ⟨12,98,none⟩)]))) (he:w.cell? ⟨gE,1,none⟩=some (.iface 292 (.pointer (some e)))) :
    Calls Tryz.prog 69 #[.iface 141 (.pointer (some ⟨gE,0,none⟩)),.iface 136 (.pointer (some t))] w fun ev w'=>ev=.returned (.bool false)∧w'=asking t w:=by
  unfold asking
  have hlt:3 < w.heap.size:=by
    rcases Nat.lt_or_ge 3 w.heap.size with h' | h'
    · exact h'
    · simp [World.cell?,Array.getElem?_eq_none h'] at hg
  have hle:gE < w.heap.size:=by
    rcases Nat.lt_or_ge gE w.heap.size with h' | h'
    · exact h'
    · simp [World.cell?,Array.getElem?_eq_none h'] at he
  have h6:=@run_callFunc_extern Tryz.prog 87 _ (fun args=>ReflectliteValue.unpack (args.getD 0 (.tuple #[]))) Tryz.func87 (by kernel_rfl) (by kernel_rfl) (by kernel_rfl) (by kernel_rfl)
  have h7 := @run_callFunc_extern Tryz.prog 88 _ (ReflectliteValue.methodAny (ReflectliteValue.valueError "reflectlite.Value.Type" 0) (fun t _ _ _ => ReflectliteType.toType t)) Tryz.func88 (by kernel_rfl) (by kernel_rfl) (by kernel_rfl) (by kernel_rfl)
  have h8 := @run_callFunc_extern Tryz.prog 89 _ (ReflectliteValue.method (ReflectliteValue.valueError "reflectlite.Value.IsNil" 0) ReflectliteValue.isNil) Tryz.func89 (by kernel_rfl) (by kernel_rfl) (by kernel_rfl) (by kernel_rfl)
  have h27:=@run_callFunc_extern Tryz.prog 256 _ (ReflectliteType.abiMethod fun t=>do pure (.int .u8 (← Rtype.kind t))) Tryz.func256 (by kernel_rfl) (by kernel_rfl) (by kernel_rfl) (by kernel_rfl)
  have h37:=@run_callFunc_extern Tryz.prog 272 _ (ReflectliteType.method ReflectliteType.elem) Tryz.func272 (by kernel_rfl) (by kernel_rfl) (by kernel_rfl) (by kernel_rfl)
  have h38 := @run_callFunc_extern Tryz.prog 273 _ (ReflectliteType.relation "Implements" ReflectliteType.implements_) Tryz.func273 (by kernel_rfl) (by kernel_rfl) (by kernel_rfl) (by kernel_rfl)
  have h10:=@run_callFunc_extern Tryz.prog 91 _ ReflectliteType.typeOf Tryz.func91 (by kernel_rfl) (by kernel_rfl) (by kernel_rfl) (by kernel_rfl)
  have h35 := @run_callFunc_extern Tryz.prog 270 _ (ReflectliteType.relation "AssignableTo" ReflectliteType.assignableTo) Tryz.func270 (by kernel_rfl) (by kernel_rfl) (by kernel_rfl) (by kernel_rfl)
  have tR:=Tryz.typeOfW
  have aR:=Tryz.assignableW
  have f6:=Tryz.valueOfTT
  have f7:=Tryz.typeTT
  have k27:=Tryz.kindTT
  have k25:=Tryz.kindT
  have e27:=Tryz.elemTT
  have i25:=Tryz.implementsT
  have tE:=Tryz.typeOfE
  have aE:=Tryz.assignableE
  have nE:=Tryz.noAsE
  have uE:=Tryz.noUnE
  have sE:=Tryz.noUnsE
  have nR:=Tryz.noAsW
  have uR:=Tryz.hasUnW
  have n8:=Tryz.isNilTT ⟨w.heap.size,0,none⟩ t ((w.alloc (.cells #[.pointer (some t)] 136)).alloc (.cells #[.pointer (some ⟨12,136,none⟩),.pointer (some ⟨w.heap.size,0,none⟩),.int .u64 150] 171)) (by simp)
  have hg2:((w.alloc (.cells #[.pointer (some t)] 136)).alloc (.cells #[.pointer (some ⟨12,136,none⟩),.pointer (some ⟨w.heap.size,0,none⟩),.int .u64 150] 171)).cell? ⟨3,0,none⟩=some (.iface 200 (.agg #[.pointer (some ⟨12,98,none⟩)])):=by
    rw [World.cell?_alloc_lt _ _ ⟨3,0,none⟩ (by simp;omega),World.cell?_alloc_lt _ _ ⟨3,0,none⟩ hlt];exact hg
  have he2:(((w.alloc (.cells #[.pointer (some t)] 136)).alloc (.cells #[.pointer (some ⟨12,136,none⟩),.pointer (some ⟨w.heap.size,0,none⟩),.int .u64 150] 171)).alloc (.cells #[.pointer (some ⟨12,136,none⟩),.pointer (some ⟨w.heap.size,0,none⟩),.int .u64 150] 171)).cell? ⟨gE,1,none⟩=some (.iface 292 (.pointer (some e))):=by
    rw [World.cell?_alloc_lt _ _ ⟨gE,1,none⟩ (by simp;omega),World.cell?_alloc_lt _ _ ⟨gE,1,none⟩ (by simp;omega),World.cell?_alloc_lt _ _ ⟨gE,1,none⟩ hle];exact he
  clear hg he
  go_enter Tryz.func69,Tryz.ntmps69
  go_wp2
  refine wp_loop_rounds 2 ?_
  rw [rounds_succ]
  go_wp2
  rw [rounds_succ]
  go_wp2
  go_ret
  exact ⟨rfl,rfl⟩
set_option maxHeartbeats 2000000 in
theorem is_sink (gE:Nat) (b:Addr) (w:World) (h1:w.cell? ⟨gE,1,none⟩=some (.iface 292 (.pointer (some b)))) :
    Calls Tryz.prog 70 #[.iface 141 (.pointer (some ⟨gE,0,none⟩)),.iface 292 (.pointer (some b))] w fun e w'=>e=.returned (.bool true)∧w'=w:=by
  have h8:=@run_callFunc_extern Tryz.prog 91 _ ReflectliteType.typeOf Tryz.func91 (by kernel_rfl) (by kernel_rfl) (by kernel_rfl) (by kernel_rfl)
  have h32 := @run_callFunc_extern Tryz.prog 271 _ (ReflectliteType.method fun t => do Rtype.noPackHeld "Comparable" t; pure (.bool (← typeInfo t).comparable)) Tryz.func271 (by kernel_rfl) (by kernel_rfl) (by kernel_rfl) (by kernel_rfl)
  have tT:=Tryz.typeOfE
  have cT:=Tryz.compE
  have nE:=Tryz.noIsE
  have nW:=Tryz.noIsW
  have uW:=Tryz.hasUnW
  have heq:=sent_same b
  have hty:=run_eql_iface_types (P:=Tryz.prog) 141 292 (.pointer (some ⟨gE,0,none⟩)) (.pointer (some b)) Tryz.underlying98 (by decide) w
  go_enter Tryz.func70,Tryz.ntmps70
  go_wp2
  refine wp_loop_rounds 2 ?_
  rw [rounds_succ]
  go_wp2
  rw [rounds_succ]
  go_wp2
  go_ret
  exact ⟨rfl,rfl⟩
end Go.Proofs.YtljcljipppjnoaaGreatDoor
namespace Go.Proofs.YtljcljipppjnoaaGreatDoor
open Go.RowKit Go.Extern.Stop Go.Stop Go.Extern
theorem as_toldN (gE:Nat) (k:Int) (aS:Addr) (w:World) (hg:w.cell? ⟨3,0,none⟩=some (.iface 200 (.agg #[.pointer (some ⟨12,98,none⟩)])))
    (hS:w.cell? ⟨0,0,none⟩=some (.iface 292 (.pointer (some aS))))
    (h0:w.cell? ⟨gE,0,none⟩=some (.int .i64 k)) (h1:w.cell? ⟨gE,1,none⟩=some (.iface 292 (.pointer (some aS)))) :
    Calls Tryz.prog 69 #[.iface 141 (.pointer (some ⟨gE,0,none⟩)),.iface 136 (.pointer (some ⟨w.heap.size+1,0,none⟩))] (telling w).drew fun e w'=>e=.returned (.bool false) ∧
      w'.cell? ⟨gE,0,none⟩=some (.int .i64 k)∧w'.cell? ⟨gE,1,none⟩=some (.iface 292 (.pointer (some aS)))∧w'.cell? ⟨0,0,none⟩=some (.iface 292 (.pointer (some aS))) ∧
      w'.cell? ⟨w.heap.size,0,none⟩=some (.int .i64 0)∧w'.cell? ⟨w.heap.size,1,none⟩=some (.int .i64 0)∧w'.frozen? ⟨w.heap.size,0,none⟩=false∧w'.frozen? ⟨w.heap.size,1,none⟩=false ∧
      Hid (w'.heap[w.heap.size]?=some (.cells #[.int .i64 0,.int .i64 0] 43 (0,0)))∧Below w.heap.size w w':=by
  have lE:=lt_cell h0
  have lG:=lt_cell hg
  have lS:=lt_cell hS
  have hs:=telling_size w
  refine (as_none gE aS ⟨w.heap.size+1,0,none⟩ (telling w).drew ((World.cell?_of_block (telling_old w _ lG)).trans hg) ((World.cell?_of_block (telling_old w _ lE)).trans h1)).mono ?_
  rintro e w' ⟨rfl,rfl⟩
  have kp:Kept (w.heap.size+2) (telling w).drew (asking ⟨w.heap.size+1,0,none⟩ (telling w).drew):=(((Kept.refl _ _).alloc _).alloc _).alloc _
  have old:∀ j,j < w.heap.size→(asking ⟨w.heap.size+1,0,none⟩ (telling w).drew).heap[j]?=w.heap[j]?:=fun j hj =>
    (kp.block j (by show j < (telling w).heap.size;omega) (by omega)).trans (telling_old w j hj)
  have own:=(kp.block w.heap.size (by show _ < (telling w).heap.size;omega) (by omega)).trans (telling0 w)
  refine ⟨rfl,(World.cell?_of_block (old gE lE)).trans h0,(World.cell?_of_block (old gE lE)).trans h1,(World.cell?_of_block (old _ lS)).trans hS,?_,?_,Lib.frozen_of_heap own 0,Lib.frozen_of_heap own 1,own,⟨kp.os,kp.tape,kp.output,by have:=kp.size;have e1:(telling w).drew.heap.size=(telling w).heap.size:=rfl;omega,old⟩⟩
  · rw [Lib.cell_of_heap own];rfl
  · rw [Lib.cell_of_heap own];rfl
end Go.Proofs.YtljcljipppjnoaaGreatDoor
namespace Go.Proofs.YtljcljipppjnoaaGreatDoor
open Go.RowKit Go.Extern.Stop Go.Stop Go.Extern
set_option maxHeartbeats 1000000 in
theorem of_sink (gE:Nat) (k:Int) (aS:Addr) (w:World) (hg:w.cell? ⟨3,0,none⟩=some (.iface 200 (.agg #[.pointer (some ⟨12,98,none⟩)])))
    (hS:w.cell? ⟨0,0,none⟩=some (.iface 292 (.pointer (some aS))))
    (h0:w.cell? ⟨gE,0,none⟩=some (.int .i64 k)) (h1:w.cell? ⟨gE,1,none⟩=some (.iface 292 (.pointer (some aS)))) :
    Calls Tryz.prog 49 #[.iface 141 (.pointer (some ⟨gE,0,none⟩))] w fun e w'=>e=.returned (.agg #[.int .i64 3,.int .i64 k])∧Below w.heap.size w w':=by
  have a1:=Tryz.asWR
  have eq:=sent_same aS
  have a2:=Tryz.asW
  have hc:=as_toldN gE k aS w hg hS h0 h1
  unfold telling at hc
  have hI:∀ w1:World,w1.cell? ⟨gE,1,none⟩=some (.iface 292 (.pointer (some aS)))→Calls Tryz.prog 70 #[.iface 141 (.pointer (some ⟨gE,0,none⟩)),.iface 292 (.pointer (some aS))] w1.drew fun e w'=>e=.returned (.bool true)∧w'=w1.drew:=fun w1 h=>is_sink gE aS w1.drew h
  clear hg h0 h1 hS
  go_enter Tryz.func49,Tryz.ntmps49
  go_wp2
  refine wp_region_any (by kernel_rfl) ?_
  change wpAny _ _ _ _ _ _ _ (World.drew _)
  refine wpAny_take (i:=0) (v:=.iface 141 (.pointer (some ⟨gE,0,none⟩))) rfl (by kernel_rfl) (by kernel_rfl) (by kernel_rfl) (fun _ _ _ h=>h) (Or.inl ⟨rfl,fun w=>by go_simp⟩) ?_
  refine wpAny_take (i:=1) (v:=.iface 136 (.pointer (some ⟨w.heap.size+1,0,none⟩))) rfl (by kernel_rfl) (by kernel_rfl) (by kernel_rfl) (fun _ _ _ h=>h) (Or.inl ⟨rfl,fun w=>by go_simp⟩) ?_
  refine wpAny_ready (rs:=[2]) (by kernel_rfl) (by simp) ?_
  refine AllReady.cons (o := { dst := some 46, op := Op.call { callee := Callee.value (Operand.func 69), args := #[Operand.tmp 44, Operand.tmp 45], argTypes := #[98, 20] }, type := 4, pos := "plain.go:41", after := #[{ on := 0, ground := Ground.data }, { on := 1, ground := Ground.data }], guard := none }) rfl (fun K hK => ?_) AllReady.nil
  go_simp
  refine hc.mono ?_
  rintro e w1 ⟨rfl,d0,d1,d2,d3,d4,z0,z1,own,hb⟩
  simp only []
  refine hK _ _ ?_
  clear hK K
  refine wpAny_take (i:=3) (v:=.bool false) rfl (by kernel_rfl) (by kernel_rfl) (by kernel_rfl) (fun _ _ _ h=>h) (Or.inl ⟨by rfl,fun w=>by go_simp⟩) ?_
  refine wpAny_take (i:=4) (v:=undef) rfl (by kernel_rfl) (by kernel_rfl) (by kernel_rfl) (fun _ _ _ h=>h) (Or.inr ⟨by rfl,rfl⟩) ?_
  refine wpAny_take (i:=5) (v:=undef) rfl (by kernel_rfl) (by kernel_rfl) (by kernel_rfl) (fun _ _ _ h=>h) (Or.inr ⟨by rfl,rfl⟩) ?_
  refine wpAny_take (i:=6) (v:=undef) rfl (by kernel_rfl) (by kernel_rfl) (by kernel_rfl) (fun _ _ _ h=>h) (Or.inr ⟨by rfl,rfl⟩) ?_
  refine wpAny_ready (rs:=[7,8]) (by kernel_rfl) (by simp) ?_
  refine AllReady.cons (o := { dst := some 51, op := Op.load 98 (Operand.tmp 50), type := 98, pos := "plain.go:41", after := #[{ on := 6, ground := Ground.data }, { on := 3, ground := Ground.guard }], guard := some (3, true) }) rfl (fun K hK => ?_) ?_
  · go_simp
    refine hK _ _ ?_
    clear hK K
    refine wpAny_ready (rs:=[8]) (by kernel_rfl) (by simp) ?_
    refine AllReady.cons (o := { dst := some 52, op := Op.load 133 (Operand.tmp 3), type := 133, pos := "plain.go:41", after := #[{ on := 3, ground := Ground.guard }], guard := some (3, true) }) rfl (fun K hK => ?_) AllReady.nil
    go_simp
    refine hK _ _ ?_
    clear hK K
    refine wpAny_take (i:=9) (v:=undef) rfl (by kernel_rfl) (by kernel_rfl) (by kernel_rfl) (fun _ _ _ h=>h) (Or.inr ⟨by rfl,rfl⟩) ?_
    refine wpAny_ready (rs:=[10]) (by kernel_rfl) (by simp) ?_
    refine AllReady.cons (o := { dst := some 54, op := Op.binOp BinOp.eql 98 (Operand.tmp 51) (Operand.tmp 53) 98, type := 4, pos := "plain.go:41", after := #[{ on := 7, ground := Ground.data }, { on := 9, ground := Ground.data }, { on := 3, ground := Ground.guard }], guard := some (3, true) }) rfl (fun K hK => ?_) AllReady.nil
    go_simp
    refine hK _ _ ?_
    clear hK K
    refine wpAny_take (i:=11) (v:=.bool false) rfl (by kernel_rfl) (by kernel_rfl) (by kernel_rfl) (fun _ _ _ h=>h) (Or.inl ⟨by rfl,fun w=>by go_simp⟩) ?_
    refine wpAny_done (by kernel_rfl) ?_ _
    go_simp
    go_wp2
    go_region_with (go_at_call 70;refine (hI w1 d1).mono ?_;rintro e w2 ⟨rfl,rfl⟩)
    all_goals
      go_simp
      go_wp2
      have own2:=Joins.block_setCell (i:=0) own.out (.int .i64 3)
      have own3:=Joins.block_setCell (i:=1) own2 (.int .i64 k)
      have e0:(w1.setCell ⟨w.heap.size,0,none⟩ (.int .i64 3)).cell? ⟨w.heap.size,0,none⟩=some (.int .i64 3):=by rw [Lib.cell_of_heap own2];rfl
      have e1:((w1.setCell ⟨w.heap.size,0,none⟩ (.int .i64 3)).setCell ⟨w.heap.size,1,none⟩ (.int .i64 k)).cell? ⟨w.heap.size,1,none⟩=some (.int .i64 k):=by rw [Lib.cell_of_heap own3];rfl
      exact bodyPost_ret (v:=.agg #[.int .i64 3,.int .i64 k]) (by simp [results,Tryz.results49,go_sem,e0,e1]) rfl ⟨rfl,((hb.setCell (p:=⟨w.heap.size,0,none⟩) (Nat.le_refl _) _).setCell (p:=⟨w.heap.size,1,none⟩) (Nat.le_refl _) _).drew⟩
  · refine AllReady.cons (o := { dst := some 52, op := Op.load 133 (Operand.tmp 3), type := 133, pos := "plain.go:41", after := #[{ on := 3, ground := Ground.guard }], guard := some (3, true) }) rfl (fun K hK => ?_) AllReady.nil
    go_simp
    refine hK _ _ ?_
    clear hK K
    refine wpAny_take (i:=9) (v:=undef) rfl (by kernel_rfl) (by kernel_rfl) (by kernel_rfl) (fun _ _ _ h=>h) (Or.inr ⟨by rfl,rfl⟩) ?_
    refine wpAny_ready (rs:=[7]) (by kernel_rfl) (by simp) ?_
    refine AllReady.cons (o := { dst := some 51, op := Op.load 98 (Operand.tmp 50), type := 98, pos := "plain.go:41", after := #[{ on := 6, ground := Ground.data }, { on := 3, ground := Ground.guard }], guard := some (3, true) }) rfl (fun K hK => ?_) AllReady.nil
    go_simp
    refine hK _ _ ?_
    clear hK K
    refine wpAny_ready (rs:=[10]) (by kernel_rfl) (by simp) ?_
    refine AllReady.cons (o := { dst := some 54, op := Op.binOp BinOp.eql 98 (Operand.tmp 51) (Operand.tmp 53) 98, type := 4, pos := "plain.go:41", after := #[{ on := 7, ground := Ground.data }, { on := 9, ground := Ground.data }, { on := 3, ground := Ground.guard }], guard := some (3, true) }) rfl (fun K hK => ?_) AllReady.nil
    go_simp
    refine hK _ _ ?_
    clear hK K
    refine wpAny_take (i:=11) (v:=.bool false) rfl (by kernel_rfl) (by kernel_rfl) (by kernel_rfl) (fun _ _ _ h=>h) (Or.inl ⟨by rfl,fun w=>by go_simp⟩) ?_
    refine wpAny_done (by kernel_rfl) ?_ _
    go_simp
    go_wp2
    go_region_with (go_at_call 70;refine (hI w1 d1).mono ?_;rintro e w2 ⟨rfl,rfl⟩)
    all_goals
      go_simp
      go_wp2
      have own2:=Joins.block_setCell (i:=0) own.out (.int .i64 3)
      have own3:=Joins.block_setCell (i:=1) own2 (.int .i64 k)
      have e0:(w1.setCell ⟨w.heap.size,0,none⟩ (.int .i64 3)).cell? ⟨w.heap.size,0,none⟩=some (.int .i64 3):=by rw [Lib.cell_of_heap own2];rfl
      have e1:((w1.setCell ⟨w.heap.size,0,none⟩ (.int .i64 3)).setCell ⟨w.heap.size,1,none⟩ (.int .i64 k)).cell? ⟨w.heap.size,1,none⟩=some (.int .i64 k):=by rw [Lib.cell_of_heap own3];rfl
      exact bodyPost_ret (v:=.agg #[.int .i64 3,.int .i64 k]) (by simp [results,Tryz.results49,go_sem,e0,e1]) rfl ⟨rfl,((hb.setCell (p:=⟨w.heap.size,0,none⟩) (Nat.le_refl _) _).setCell (p:=⟨w.heap.size,1,none⟩) (Nat.le_refl _) _).drew⟩
end Go.Proofs.YtljcljipppjnoaaGreatDoor
