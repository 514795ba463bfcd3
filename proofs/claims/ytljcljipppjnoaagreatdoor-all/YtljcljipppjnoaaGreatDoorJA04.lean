import Derived.Test.YtljcljipppjnoaaGreatDoorJA02
import Derived.Test.YtljcljipppjnoaaGreatDoorJA03
import Derived.Deep.CutBlock
namespace Go.Proofs.YtljcljipppjnoaaGreatDoor
open Go.RowKit
structure MemE (W:World) (L:List (Nat × Obj)) (w:World):Prop where
  below:Below W.heap.size W w
  blk:∀ n o,(n,o) ∈ L→w.heap[n]?=some o
theorem MemE.next {W:World} {L:List (Nat × Obj)} {w w':World} (h:MemE W L w) (hb:Below w.heap.size w w'):MemE W L w' :=
  ⟨h.below.trans (hb.mono h.below.size),fun n o ho=>(hb.block n (Array.getElem?_eq_some_iff.1 (h.blk n o ho)).1).trans (h.blk n o ho)⟩
theorem MemE.add {W:World} {L:List (Nat × Obj)} {w:World} (h:MemE W L w) (o:Array Value) (t:TypeId):MemE W ((w.heap.size,.cells o t (0,0)) :: L) (w.alloc (.cells o t)):=by
  have hn:=h.next ((Below.refl _ w).alloc (Nat.le_refl _) (.cells o t))
  refine ⟨hn.below,fun n b hb=>?_⟩
  rcases List.mem_cons.1 hb with e | e
  · injection e with e1 e2
    subst e1
    subst e2
    exact heap_new _ _ rfl
  · exact hn.blk n b e
theorem MemE.start (W:World):MemE W [] W:=⟨Below.refl _ W,fun _ _ h=>by cases h⟩
set_option maxRecDepth 100000 in
set_option maxHeartbeats 2000000 in
theorem ev_walk {ta tb:ByteArray} {ca cb:Option Addr} {na pa nb pb:Nat} {fa fb:Int} {wa wb:Bool} {po:Option Addr} {no co:Nat} {tt:Option Addr} {nt tc:Nat} {f l li k:Int} (W:World)
    (c1:Hid (∀ w,Below W.heap.size W w→Calls Tryz.prog 27 #[.agg #[.string ta,.slice ca na pa,.int .i64 fa,.bool wa]] w fun e w'=>e=.returned (.bool true)∧Below w.heap.size w w'))
    (c2:Hid (∀ w,Below W.heap.size W w→Calls Tryz.prog 3 #[.string ta] w fun e w'=>e=.returned (.bool true)∧Below w.heap.size w w'))
    (c3:Hid (∀ w,Below W.heap.size W w→Calls Tryz.prog 28 #[.string ta] w fun e w'=>e=.returned (.bool true)∧Below w.heap.size w w'))
    (c4:Hid (∀ w,Below W.heap.size W w→Calls Tryz.prog 4 #[.agg #[.string ta,.slice ca na pa,.int .i64 fa,.bool wa],.agg #[.string tb,.slice cb nb pb,.int .i64 fb,.bool wb],.slice po no co] w fun e w'=>e=.returned (.bool true)∧Below w.heap.size w w'))
    (c5:Hid (∀ w,Below W.heap.size W w→Calls Tryz.prog 5 #[.agg #[.string ta,.slice ca na pa,.int .i64 fa,.bool wa],.agg #[.slice tt nt tc,.int .i64 f,.int .i64 l,.int .i64 li]] w fun e w'=>e=.returned (.bool true)∧Below w.heap.size w w'))
    (c6:Hid (∀ w,Below W.heap.size W w→Calls Tryz.prog 6 #[.agg #[.string ta,.slice ca na pa,.int .i64 fa,.bool wa],.int .i64 k] w fun e w'=>e=.returned (.bool true)∧Below w.heap.size w w')) :
    Calls Tryz.prog 7 #[.agg #[.string ta,.slice ca na pa,.int .i64 fa,.bool wa],.agg #[.string tb,.slice cb nb pb,.int .i64 fb,.bool wb],.slice po no co,.agg #[.slice tt nt tc,.int .i64 f,.int .i64 l,.int .i64 li],.int .i64 k] W fun e w'=>e=.returned (.bool true)∧Below W.heap.size W w':=by
  have M0:Hid (MemE W [((W.alloc (.cells #[.string ta,.slice ca na pa,.int .i64 fa,.bool wa] 33)).alloc (.cells #[.string tb,.slice cb nb pb,.int .i64 fb,.bool wb] 33) |>.heap.size,.cells #[.slice tt nt tc,.int .i64 f,.int .i64 l,.int .i64 li] 58 (0,0)),((W.alloc (.cells #[.string ta,.slice ca na pa,.int .i64 fa,.bool wa] 33)).heap.size,.cells #[.string tb,.slice cb nb pb,.int .i64 fb,.bool wb] 33 (0,0)),(W.heap.size,.cells #[.string ta,.slice ca na pa,.int .i64 fa,.bool wa] 33 (0,0))]
      (((W.alloc (.cells #[.string ta,.slice ca na pa,.int .i64 fa,.bool wa] 33)).alloc (.cells #[.string tb,.slice cb nb pb,.int .i64 fb,.bool wb] 33)).alloc (.cells #[.slice tt nt tc,.int .i64 f,.int .i64 l,.int .i64 li] 58))):=(((MemE.start W).add _ _).add _ _).add _ _
  have M0:Hid (MemE W [(W.heap.size+1+1,.cells #[.slice tt nt tc,.int .i64 f,.int .i64 l,.int .i64 li] 58 (0,0)),(W.heap.size+1,.cells #[.string tb,.slice cb nb pb,.int .i64 fb,.bool wb] 33 (0,0)),(W.heap.size,.cells #[.string ta,.slice ca na pa,.int .i64 fa,.bool wa] 33 (0,0))]
      (((W.alloc (.cells #[.string ta,.slice ca na pa,.int .i64 fa,.bool wa] 33)).alloc (.cells #[.string tb,.slice cb nb pb,.int .i64 fb,.bool wb] 33)).alloc (.cells #[.slice tt nt tc,.int .i64 f,.int .i64 l,.int .i64 li] 58))):=by
    have h:=M0.out
    simp only [World.size_alloc] at h
    exact h
  go_enter Tryz.func7,Tryz.ntmps7
  go_upto_block 0 with fail
  obtain ⟨W1,hW1⟩:∃ W1,(((W.alloc (.cells #[.string ta,.slice ca na pa,.int .i64 fa,.bool wa] 33)).alloc (.cells #[.string tb,.slice cb nb pb,.int .i64 fb,.bool wb] 33)).alloc (.cells #[.slice tt nt tc,.int .i64 f,.int .i64 l,.int .i64 li] 58))=W1:=⟨_,rfl⟩
  rw [hW1] at M0 ⊢
  clear hW1
  go_wp2
  go_loopw [11,12,13,14,15,16,17] (fun i _ _ _ _ _ _ wr=>∃ n:Nat,n≤2∧i=.int .i64 n∧Hid (MemE W [(W.heap.size+1+1,.cells #[.slice tt nt tc,.int .i64 f,.int .i64 l,.int .i64 li] 58 (0,0)),(W.heap.size+1,.cells #[.string tb,.slice cb nb pb,.int .i64 fb,.bool wb] 33 (0,0)),(W.heap.size,.cells #[.string ta,.slice ca na pa,.int .i64 fa,.bool wa] 33 (0,0))] wr)) (fun i _ _ _ _ _ _ _=>2 - (intOf i).toNat)
  case atStart=>exact ⟨0,by omega,rfl,M0.out⟩
  case round =>
    clear M0
    obtain ⟨n,hn,rfl,M0⟩:=hrel
    by_cases hlt:n < 2
    · have d1:decide ((n:Int) < 2)=true:=by simp;omega
      have j0:=row_cell (i:=0) (M0.out.blk _ _ (List.mem_cons_of_mem _ (List.mem_cons_of_mem _ List.mem_cons_self))) rfl
      have j1:=row_cell (i:=1) (M0.out.blk _ _ (List.mem_cons_of_mem _ (List.mem_cons_of_mem _ List.mem_cons_self))) rfl
      have j2:=row_cell (i:=2) (M0.out.blk _ _ (List.mem_cons_of_mem _ (List.mem_cons_of_mem _ List.mem_cons_self))) rfl
      have j3:=row_cell (i:=3) (M0.out.blk _ _ (List.mem_cons_of_mem _ (List.mem_cons_of_mem _ List.mem_cons_self))) rfl
      go_upto_region 5 with (go_at_call 27;refine (c1.out wr M0.out.below).mono ?_;rintro e w1 ⟨rfl,b1⟩)
      have M1:Hid _:=M0.out.next b1
      clear j0 j1 j2 j3 b1 M0
      have j0:=row_cell (i:=0) (M1.out.blk _ _ (List.mem_cons_of_mem _ (List.mem_cons_of_mem _ List.mem_cons_self))) rfl
      go_upto_region 6 with (go_at_call 3;refine (c2.out w1 M1.out.below).mono ?_;rintro e w2 ⟨rfl,b2⟩)
      have M2:Hid _:=M1.out.next b2
      clear j0 b2 M1
      have j0:=row_cell (i:=0) (M2.out.blk _ _ (List.mem_cons_of_mem _ (List.mem_cons_of_mem _ List.mem_cons_self))) rfl
      go_upto_region 7 with (go_at_call 28;refine (c3.out w2 M2.out.below).mono ?_;rintro e w3 ⟨rfl,b3⟩)
      have M3:Hid _:=M2.out.next b3
      clear j0 b3 M2
      have j0:=row_cell (i:=0) (M3.out.blk _ _ (List.mem_cons_of_mem _ (List.mem_cons_of_mem _ List.mem_cons_self))) rfl
      have j1:=row_cell (i:=1) (M3.out.blk _ _ (List.mem_cons_of_mem _ (List.mem_cons_of_mem _ List.mem_cons_self))) rfl
      have j2:=row_cell (i:=2) (M3.out.blk _ _ (List.mem_cons_of_mem _ (List.mem_cons_of_mem _ List.mem_cons_self))) rfl
      have j3:=row_cell (i:=3) (M3.out.blk _ _ (List.mem_cons_of_mem _ (List.mem_cons_of_mem _ List.mem_cons_self))) rfl
      have o0:=row_cell (i:=0) (M3.out.blk _ _ (List.mem_cons_of_mem _ List.mem_cons_self)) rfl
      have o1:=row_cell (i:=1) (M3.out.blk _ _ (List.mem_cons_of_mem _ List.mem_cons_self)) rfl
      have o2:=row_cell (i:=2) (M3.out.blk _ _ (List.mem_cons_of_mem _ List.mem_cons_self)) rfl
      have o3:=row_cell (i:=3) (M3.out.blk _ _ (List.mem_cons_of_mem _ List.mem_cons_self)) rfl
      go_upto_region 8 with (go_at_call 4;refine (c4.out w3 M3.out.below).mono ?_;rintro e w4 ⟨rfl,b4⟩)
      have M4:Hid _:=M3.out.next b4
      clear j0 j1 j2 j3 o0 o1 o2 o3 b4 M3
      have j0:=row_cell (i:=0) (M4.out.blk _ _ (List.mem_cons_of_mem _ (List.mem_cons_of_mem _ List.mem_cons_self))) rfl
      have j1:=row_cell (i:=1) (M4.out.blk _ _ (List.mem_cons_of_mem _ (List.mem_cons_of_mem _ List.mem_cons_self))) rfl
      have j2:=row_cell (i:=2) (M4.out.blk _ _ (List.mem_cons_of_mem _ (List.mem_cons_of_mem _ List.mem_cons_self))) rfl
      have j3:=row_cell (i:=3) (M4.out.blk _ _ (List.mem_cons_of_mem _ (List.mem_cons_of_mem _ List.mem_cons_self))) rfl
      have x0:=row_cell (i:=0) (M4.out.blk _ _ List.mem_cons_self) rfl
      have x1:=row_cell (i:=1) (M4.out.blk _ _ List.mem_cons_self) rfl
      have x2:=row_cell (i:=2) (M4.out.blk _ _ List.mem_cons_self) rfl
      have x3:=row_cell (i:=3) (M4.out.blk _ _ List.mem_cons_self) rfl
      go_upto_region 9 with (go_at_call 5;refine (c5.out w4 M4.out.below).mono ?_;rintro e w5 ⟨rfl,b5⟩)
      have M5:Hid _:=M4.out.next b5
      clear j0 j1 j2 j3 x0 x1 x2 x3 b5 M4
      have j0:=row_cell (i:=0) (M5.out.blk _ _ (List.mem_cons_of_mem _ (List.mem_cons_of_mem _ List.mem_cons_self))) rfl
      have j1:=row_cell (i:=1) (M5.out.blk _ _ (List.mem_cons_of_mem _ (List.mem_cons_of_mem _ List.mem_cons_self))) rfl
      have j2:=row_cell (i:=2) (M5.out.blk _ _ (List.mem_cons_of_mem _ (List.mem_cons_of_mem _ List.mem_cons_self))) rfl
      have j3:=row_cell (i:=3) (M5.out.blk _ _ (List.mem_cons_of_mem _ (List.mem_cons_of_mem _ List.mem_cons_self))) rfl
      go_upto_region 10 with (go_at_call 6;refine (c6.out w5 M5.out.below).mono ?_;rintro e w6 ⟨rfl,b6⟩)
      have M6:Hid _:=M5.out.next b6
      clear j0 j1 j2 j3 b6 M5
      go_wp2
      go_roundw
      case rel=>exact ⟨n+1,by omega,by go_num,M6.out⟩
      case measure=>simp [intOf];omega
    · have d1:decide ((n:Int) < 2)=false:=by simp;omega
      go_wp2
      go_ret
      exact ⟨rfl,M0.out.below⟩
end Go.Proofs.YtljcljipppjnoaaGreatDoor
