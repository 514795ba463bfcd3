import Derived.Test.YtljcljipppjnoaaGreatDoorJA03
import Derived.Deep.RegionLaw
import Derived.Deep.RegionHeld3
import Derived.Deep.AppendSrc
namespace Go.Proofs.YtljcljipppjnoaaGreatDoor
open Go.RowKit
theorem step_append {P:Program} {ops:Array Oper} {o:Oper} {a:Act} {w w':World} {v':Value} {K:Act→World→Prop} {Q:Exit→Act→World→Prop} {E:Prop}
    (hg:o.guard=none) (s x:Operand) (t:TypeId) (hop:o.op=Op.call { callee:=Callee.builtin Builtin.append,args:=#[s,x],argTypes:=#[t,t] })
    (vs vx:Value) (hs:a.eval s=vs) (hx:a.eval x=vx) (hrun:(Builtin.append_ #[t,t] o.type #[vs,vx]).run P w=.ok v' w') (hK:K (a.put o.dst v') w') :
    if Region.wanted o (yielded ops a.tmps)=true then Oper.wp P o a w K Q else E:=by
  have hw:Region.wanted o (yielded ops a.tmps)=true:=by simp [Region.wanted,hg]
  rw [if_pos hw]
  unfold Oper.wp
  simp [execOp,hop,resolve,invoke,builtin,hs,hx,hrun,Result.andThen]
  exact hK
def numCells (cs:List Int):List Value:=cs.map fun c=>Value.int .i64 c
theorem Tryz.infoInt:(Tryz.prog.info? 3).map (fun i=>(i.zero,i.size,i.bytes))=some (some (.int .i64 0),1,8):=by kernel_rfl
def NumsAt (cv:Value) (cs:List Int) (w:World):Prop :=
  (cs=[]∧∃ (ca:Option Addr) (cap:Nat),cv=.slice ca 0 cap)∨∃ (g o cap:Nat),cv=.slice (some ⟨g,o,none⟩) cs.length cap∧g < w.heap.size∧(∀ (j:Nat) (c:Int),cs[j]?=some c→w.cell? ⟨g,o+j,none⟩=some (.int .i64 c))
theorem NumsAt.src {cv:Value} {cs:List Int} {w W:World} (h:NumsAt cv cs w) (hold:∀ k,k < w.heap.size→W.heap[k]?=w.heap[k]?):Src Tryz.prog 1 31 cv cs.length (numCells cs) W:=by
  rcases h with ⟨rfl,ca,cap,rfl⟩ | ⟨g,o,cap,rfl,hg,hc⟩
  · cases ca with
    | none=>exact Src.ofNil W Tryz.underlying31 cap
    | some a=>exact Src.ofSlice W Tryz.underlying31 a 0 cap [] (by simp) (fun j u hj=>by simp at hj) (fun u hu=>by simp at hu)
  · refine Src.ofSlice W Tryz.underlying31 ⟨g,o,none⟩ cs.length cap (numCells cs) (by simp [numCells]) (fun j u hj=>?_) ?_
    · simp only [numCells,List.getElem?_map,Option.map_eq_some_iff] at hj
      obtain ⟨c,hj,rfl⟩:=hj
      rw [← hc j c hj,Addr.add_lit]
      exact World.cell?_of_block (hold g hg)
    · intro u hu
      obtain ⟨c,_,rfl⟩:=List.mem_map.1 hu
      rfl
theorem app_run (cv:Value) (cs:List Int) (w W:World) (g:Nat) (h:NumsAt cv cs w) (hl:cs.length≤1048576) (hold:∀ k,k < w.heap.size→W.heap[k]?=w.heap[k]?) (hg:W.heap[g]?=some (.cells #[] 3 (0,0))) :
    ∃ g' cap' w',(Builtin.append_ #[31,31] 31 #[.slice (some ⟨g,0,none⟩) 0 0,cv]).run Tryz.prog W=.ok (.slice (some ⟨g',0,none⟩) cs.length cap') w' ∧
      cs.length≤cap'∧cap'≤9223372036854775807∧(g'=g∨g'=W.heap.size)∧g' < w'.heap.size∧(∀ (i:Nat) (c:Int),cs[i]?=some c→w'.cell? ⟨g',0+i,none⟩=some (.int .i64 c))∧Below W.heap.size W w':=by
  obtain ⟨i,hi,hz⟩:=Option.map_eq_some_iff.1 Tryz.infoInt
  simp only [Prod.mk.injEq] at hz
  obtain ⟨hz0,hz1,hz2⟩:=hz
  have hs:=h.src hold
  have hgl:g < W.heap.size:=(Array.getElem?_eq_some_iff.1 hg).1
  rw [← hz1] at hs
  by_cases h0:cs.length=0
  · have hcs:cs=[]:=List.length_eq_zero_iff.1 h0
    subst hcs
    have hr:=run_append_room_src (P:=Tryz.prog) W 31 31 31 3 i Tryz.underlying31 hi g 0 0 0 cv 0 [] hs (by simp) (fun j hj=>by simp at hj) (fun j hj=>by simp at hj)
    exact ⟨g,0,_,hr,Nat.le_refl _,by omega,Or.inl rfl,hgl,fun i c hi=>by simp at hi,Below.refl _ _⟩
  · have hfc:(Builtin.firstCells i.size 0 (.slice (some ⟨g,0,none⟩) 0 0)).run Tryz.prog W.drew=.ok ([]:List Value).toArray W.drew:=run_firstCells_some W.drew i.size 0 ⟨g,0,none⟩ 0 0 [] (by simp) (fun j v hj=>by simp at hj)
    have hns:Builtin.nextslicecap (0+cs.length) 0=cs.length:=by
      unfold Builtin.nextslicecap
      rw [if_pos (by omega)]
      omega
    have hr:=run_append_grow_src (P:=Tryz.prog) W 31 31 31 3 i (.int .i64 0) Tryz.underlying31 hi hz0 (some ⟨g,0,none⟩) 0 0 [] hfc cv cs.length (numCells cs) hs (by omega) (by omega) (by rw [hns,hz2];omega)
    rw [Nat.zero_add] at hr
    refine ⟨W.heap.size,grownCap W cs.length 0 3,_,hr,grownCap_ge _ _ _ _,?_,Or.inr rfl,by simp,fun i c hi=>?_,(Below.refl _ _).drew.alloc (Nat.le_refl _) _⟩
    · have:=grownCap_le_maxLen W cs.length 0 3 (by unfold maxLen;omega)
      unfold maxLen at this
      omega
    · have hil:i < cs.length:=(List.getElem?_eq_some_iff.1 hi).1
      refine (Lib.cell_of_heap (heap_new W.drew _ (show W.heap.size=W.drew.heap.size from rfl)) (0+i)).trans ?_
      have hci:cs[i]'hil=c:=(List.getElem?_eq_some_iff.1 hi).2
      simp [numCells,Array.getElem?_append,hil,hci]
set_option maxHeartbeats 1000000 in
theorem source_any (tx:ByteArray) (cv0:Value) (cs:List Int) (fa:Int) (wt:Bool) (w:World) (h:NumsAt cv0 cs w) (hl:cs.length≤1048576) :
    Calls Tryz.prog 45 #[.agg #[.string tx,cv0,.int .i64 fa,.bool wt]] w fun e w'=>∃ b cv,e=.returned (.pointer (some ⟨b,0,none⟩))∧w.heap.size≤b∧SrcAt b tx cv fa wt 0 false w'∧CutsOK b cv cs w'∧Below w.heap.size w w':=by
  obtain ⟨g',cap',W',hr,q1,q2,q3,q4,q5,q6⟩:=app_run cv0 cs w ((w.alloc (.cells #[.string tx,cv0,.int .i64 fa,.bool wt] 33)).alloc (.cells #[] 3)).drew (w.heap.size+1) h hl
    (fun k hk=>by show (((w.alloc _).alloc _).heap)[k]?=_;rw [Below.heap_alloc _ _ k (by simp;omega),Below.heap_alloc _ _ k hk]) (heap_new (w.alloc _) _ (by simp))
  obtain ⟨ca,n0,cp,hcv⟩:∃ ca n0 cp,cv0=.slice ca n0 cp:=by
    rcases h with ⟨_,ca,cap,rfl⟩ | ⟨g,o,cap,rfl,_⟩
    · exact ⟨_,_,_,rfl⟩
    · exact ⟨_,_,_,rfl⟩
  subst hcv
  have hsz:w.heap.size+2≤W'.heap.size:=by have:=q6.size;simp at this;omega
  have k0:∀ j v,((w.alloc (.cells #[.string tx,.slice ca n0 cp,.int .i64 fa,.bool wt] 33)).alloc (.cells #[] 3)).drew.cell? ⟨w.heap.size,j,none⟩=some v→W'.cell? ⟨w.heap.size,j,none⟩=some v:=fun j v hv=>(q6.cell (p:=⟨w.heap.size,j,none⟩) (by simp;omega)).trans hv
  have m0:=k0 0 (.string tx) (by simp)
  have m1:=k0 1 (.slice ca n0 cp) (by simp)
  have m2:=k0 2 (.int .i64 fa) (by simp)
  have m3:=k0 3 (.bool wt) (by simp)
  have Q:Hid (cs.length≤cap'∧cap'≤9223372036854775807∧(g'=w.heap.size+1∨g'=w.heap.size+2)∧g' < W'.heap.size∧(∀ (i:Nat) (c:Int),cs[i]?=some c→W'.cell? ⟨g',0+i,none⟩=some (.int .i64 c))∧Below w.heap.size w W'):=by
    refine ⟨q1,q2,?_,q4,q5,?_⟩
    · rcases q3 with q3 | q3
      · exact Or.inl q3
      · right
        simp at q3
        omega
    exact (((((Below.refl _ w).alloc (Nat.le_refl _) _).alloc (by simp) _).drew).trans (q6.mono (by simp;omega)))
  clear q1 q2 q3 q4 q5 q6 k0 h hl
  go_enter Tryz.func45,Tryz.ntmps45
  go_wp2
  go_region_held3 (fun w'=>w'.cell? ⟨w.heap.size,0,none⟩=some (.string tx)∧w'.cell? ⟨w.heap.size,1,none⟩=some (.slice ca n0 cp)∧w'.cell? ⟨w.heap.size,2,none⟩=some (.int .i64 fa)∧w'.cell? ⟨w.heap.size,3,none⟩=some (.bool wt)) (first | go_keep | exact ⟨m0,m1,m2,m3⟩) ((refine step_append (by rfl) _ _ _ (by rfl) _ _ (by rfl) (by rfl) hr ?_))
  go_wp2
  go_ret
  obtain ⟨q1,q2,q3,q4,q5,q6⟩:=Q.out
  have hb:=heap_new W' (.cells #[.string tx,.slice (some ⟨g',0,none⟩) cs.length cap',.int .i64 fa,.bool wt,.int .i64 0,.bool false] 101) rfl
  refine ⟨W'.heap.size,.slice (some ⟨g',0,none⟩) cs.length cap',rfl,by omega,hb,⟨g',0,cap',rfl,q1,q2,by omega,by simp;omega,fun i c hi=>?_⟩,q6.alloc (by omega) _⟩
  rw [← q5 i c hi]
  exact World.cell?_of_block (Below.heap_alloc W' _ g' q4)
end Go.Proofs.YtljcljipppjnoaaGreatDoor
namespace Go.Proofs.YtljcljipppjnoaaGreatDoor
open Go.RowKit
theorem in_cells {w:World} {n:Nat} {tx:ByteArray} {cv:Value} {fa:Int} {wt:Bool} {t:TypeId} (h:w.heap[n]?=some (.cells #[.string tx,cv,.int .i64 fa,.bool wt] t (0,0))) :
    w.cell? ⟨n,0,none⟩=some (.string tx)∧w.cell? ⟨n,1,none⟩=some cv∧w.cell? ⟨n,2,none⟩=some (.int .i64 fa)∧w.cell? ⟨n,3,none⟩=some (.bool wt):=by
  refine ⟨?_,?_,?_,?_⟩ <;> (rw [Lib.cell_of_heap h];rfl)
set_option maxHeartbeats 1000000 in
theorem fit_any (tx:ByteArray) (ca:Option Addr) (len cap:Nat) (fa:Int) (wt:Bool) (w:World) :
    Calls Tryz.prog 17 #[.agg #[.string tx,.slice ca len cap,.int .i64 fa,.bool wt]] w fun e w'=>e=.returned (.bool (decide (tx.size≤1048576) && decide (len≤1048576)))∧Below w.heap.size w w':=by
  by_cases h1:tx.size≤1048576
  · by_cases h2:len≤1048576
    · have k1:decide ((tx.size:Int)≤1048576)=true:=by simp;omega
      have k2:decide ((len:Int)≤1048576)=true:=by simp;omega
      have K:Hid ((decide (tx.size≤1048576) && decide (len≤1048576))=true):=by show _=_;simp [h1,h2]
      clear h1 h2
      go_enter Tryz.func17,Tryz.ntmps17
      go_wp2
      go_ret
      rw [K.out]
      exact ⟨rfl,(Below.refl _ _).alloc (Nat.le_refl _) _⟩
    · have k1:decide ((tx.size:Int)≤1048576)=true:=by simp;omega
      have k2:decide ((len:Int)≤1048576)=false:=by simp;omega
      have K:Hid ((decide (tx.size≤1048576) && decide (len≤1048576))=false):=by show _=_;simp [h2]
      clear h1 h2
      go_enter Tryz.func17,Tryz.ntmps17
      go_wp2
      go_ret
      rw [K.out]
      exact ⟨rfl,(Below.refl _ _).alloc (Nat.le_refl _) _⟩
  · have k1:decide ((tx.size:Int)≤1048576)=false:=by simp;omega
    have K:Hid ((decide (tx.size≤1048576) && decide (len≤1048576))=false):=by show _=_;simp [h1]
    clear h1
    go_enter Tryz.func17,Tryz.ntmps17
    go_wp2
    go_ret
    rw [K.out]
    exact ⟨rfl,(Below.refl _ _).alloc (Nat.le_refl _) _⟩
theorem NumsAt.below {cv:Value} {cs:List Int} {w W:World} (h:NumsAt cv cs w) (hb:Below w.heap.size w W):NumsAt cv cs W:=by
  rcases h with h | ⟨g,o,cap,h1,h2,h3⟩
  · exact Or.inl h
  · refine Or.inr ⟨g,o,cap,h1,by have:=hb.size;omega,fun j c hj=>?_⟩
    rw [← h3 j c hj]
    exact World.cell?_of_block (hb.block g h2)
end Go.Proofs.YtljcljipppjnoaaGreatDoor
namespace Go.Proofs.YtljcljipppjnoaaGreatDoor
open Go.RowKit
set_option maxHeartbeats 1000000 in
theorem source_new (tx:ByteArray) (cv0:Value) (cs:List Int) (fa:Int) (wt:Bool) (w:World) (h:NumsAt cv0 cs w) (hl:cs.length≤1048576) :
    Calls Tryz.prog 45 #[.agg #[.string tx,cv0,.int .i64 fa,.bool wt]] w fun e w'=>∃ b cv,e=.returned (.pointer (some ⟨b,0,none⟩))∧w.heap.size≤b∧SrcAt b tx cv fa wt 0 false w'∧CutsOK b cv cs w'∧(∀ g o l c,cv=.slice (some ⟨g,o,none⟩) l c→w.heap.size≤g∧g ≠ b∧g < w'.heap.size)∧Below w.heap.size w w':=by
  obtain ⟨g',cap',W',hr,q1,q2,q3,q4,q5,q6⟩:=app_run cv0 cs w ((w.alloc (.cells #[.string tx,cv0,.int .i64 fa,.bool wt] 33)).alloc (.cells #[] 3)).drew (w.heap.size+1) h hl
    (fun k hk=>by show (((w.alloc _).alloc _).heap)[k]?=_;rw [Below.heap_alloc _ _ k (by simp;omega),Below.heap_alloc _ _ k hk]) (heap_new (w.alloc _) _ (by simp))
  obtain ⟨ca,n0,cp,hcv⟩:∃ ca n0 cp,cv0=.slice ca n0 cp:=by
    rcases h with ⟨_,ca,cap,rfl⟩ | ⟨g,o,cap,rfl,_⟩
    · exact ⟨_,_,_,rfl⟩
    · exact ⟨_,_,_,rfl⟩
  subst hcv
  have hsz:w.heap.size+2≤W'.heap.size:=by have:=q6.size;simp at this;omega
  have k0:∀ j v,((w.alloc (.cells #[.string tx,.slice ca n0 cp,.int .i64 fa,.bool wt] 33)).alloc (.cells #[] 3)).drew.cell? ⟨w.heap.size,j,none⟩=some v→W'.cell? ⟨w.heap.size,j,none⟩=some v:=fun j v hv=>(q6.cell (p:=⟨w.heap.size,j,none⟩) (by simp;omega)).trans hv
  have m0:=k0 0 (.string tx) (by simp)
  have m1:=k0 1 (.slice ca n0 cp) (by simp)
  have m2:=k0 2 (.int .i64 fa) (by simp)
  have m3:=k0 3 (.bool wt) (by simp)
  have Q:Hid (cs.length≤cap'∧cap'≤9223372036854775807∧(g'=w.heap.size+1∨g'=w.heap.size+2)∧g' < W'.heap.size∧(∀ (i:Nat) (c:Int),cs[i]?=some c→W'.cell? ⟨g',0+i,none⟩=some (.int .i64 c))∧Below w.heap.size w W'):=by
    refine ⟨q1,q2,?_,q4,q5,?_⟩
    · rcases q3 with q3 | q3
      · exact Or.inl q3
      · right
        simp at q3
        omega
    exact (((((Below.refl _ w).alloc (Nat.le_refl _) _).alloc (by simp) _).drew).trans (q6.mono (by simp;omega)))
  clear q1 q2 q3 q4 q5 q6 k0 h hl
  go_enter Tryz.func45,Tryz.ntmps45
  go_wp2
  go_region_held3 (fun w'=>w'.cell? ⟨w.heap.size,0,none⟩=some (.string tx)∧w'.cell? ⟨w.heap.size,1,none⟩=some (.slice ca n0 cp)∧w'.cell? ⟨w.heap.size,2,none⟩=some (.int .i64 fa)∧w'.cell? ⟨w.heap.size,3,none⟩=some (.bool wt)) (first | go_keep | exact ⟨m0,m1,m2,m3⟩) ((refine step_append (by rfl) _ _ _ (by rfl) _ _ (by rfl) (by rfl) hr ?_))
  go_wp2
  go_ret
  obtain ⟨q1,q2,q3,q4,q5,q6⟩:=Q.out
  have hb:=heap_new W' (.cells #[.string tx,.slice (some ⟨g',0,none⟩) cs.length cap',.int .i64 fa,.bool wt,.int .i64 0,.bool false] 101) rfl
  refine ⟨W'.heap.size,.slice (some ⟨g',0,none⟩) cs.length cap',rfl,by omega,hb,⟨g',0,cap',rfl,q1,q2,by omega,by simp;omega,fun i c hi=>?_⟩,(fun g o l c he=>?_),q6.alloc (by omega) _⟩
  · rw [← q5 i c hi]
    exact World.cell?_of_block (Below.heap_alloc W' _ g' q4)
  · injection he with he _ _
    injection he with he
    injection he with he _
    subst he
    simp
    omega
end Go.Proofs.YtljcljipppjnoaaGreatDoor
