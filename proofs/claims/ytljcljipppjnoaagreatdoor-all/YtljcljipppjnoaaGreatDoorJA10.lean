import Derived.Test.YtljcljipppjnoaaGreatDoorRows
import Derived.WalkKit
import Derived.WalkSpells
import Derived.WalkLawsBesides
import Derived.LaidEql
import Derived.Deep.QuietTactic
import Derived.BigQuiet
import Derived.Handy
namespace Go.Proofs.YtljcljipppjnoaaGreatDoor
open Go.RowKit
theorem Tryz.compErr:(Tryz.prog.info? 292).map (·.comparable)=some true:=by kernel_rfl
theorem Tryz.sizeErr:(Tryz.prog.info? 312).map (fun j=>decide (j.size ≠ 0))=some true:=by kernel_rfl
theorem sent_other (a b:Addr) (ca cb:Array Value) (ta tb:TypeId) (w:World) (hne:a ≠ b) (ha:w.heap[a.block]?=some (.cells ca ta (0,0))) (hb:w.heap[b.block]?=some (.cells cb tb (0,0))) :
    ∀ W:World,(∀ b:Nat,b < w.heap.size→W.heap[b]?=w.heap[b]?)→(binOp .eql 98 (.iface 292 (.pointer (some a))) (.iface 292 (.pointer (some b)))).run Tryz.prog W=.ok (.bool false) W:=by
  intro W hW
  obtain ⟨i,hi,hcmp⟩:=Option.map_eq_some_iff.1 Tryz.compErr
  obtain ⟨j,hj,hjs⟩:=Option.map_eq_some_iff.1 Tryz.sizeErr
  have la:a.block < w.heap.size:=(Array.getElem?_eq_some_iff.1 ha).1
  have lb:b.block < w.heap.size:=(Array.getElem?_eq_some_iff.1 hb).1
  exact run_eql_iface_ptr_other (P:=Tryz.prog) W Tryz.underlying98 Tryz.underlying292 hi hcmp hj (of_decide_eq_true hjs) hne (by rw [hW _ la];exact ha) (by rw [hW _ lb];exact hb)
end Go.Proofs.YtljcljipppjnoaaGreatDoor
