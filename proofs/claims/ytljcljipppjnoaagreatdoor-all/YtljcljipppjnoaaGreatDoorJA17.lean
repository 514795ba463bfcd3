import Derived.Test.YtljcljipppjnoaaGreatDoorJA14
import Derived.Test.YtljcljipppjnoaaGreatDoorJA16
namespace Go.Proofs.YtljcljipppjnoaaGreatDoor
open Go.RowKit
def inCells (tx:ByteArray) (cv:Value) (fa:Int) (wt:Bool):Array Value:=#[.string tx,cv,.int .i64 fa,.bool wt]
set_option maxHeartbeats 1000000 in
theorem gathers_unfit (tx:ByteArray) (ca:Option Addr) (len cap:Nat) (fa:Int) (wt:Bool) (w:World) (hn:¬ (tx.size≤1048576∧len≤1048576)) :
    Calls Tryz.prog 27 #[.agg #[.string tx,.slice ca len cap,.int .i64 fa,.bool wt]] w fun e w'=>e=.returned (.bool true)∧Below w.heap.size w w':=by
  have hc:=fun W=>fit_any tx ca len cap fa wt W
  have hf:(decide (tx.size≤1048576) && decide (len≤1048576))=false:=by
    rw [Bool.eq_false_iff]
    intro h
    simp at h
    exact hn h
  rw [hf] at hc
  clear hf hn
  go_enter Tryz.func27,Tryz.ntmps27
  go_wp2_with (go_at_call 17;refine (hc _).mono ?_;rintro e w1 ⟨rfl,b1⟩)
  go_ret
  exact ⟨rfl,((Below.refl _ w).alloc (Nat.le_refl _) _).trans (b1.mono (by simp))⟩
structure GM (w:World) (tx:ByteArray) (cv:Value) (fa:Int) (wt:Bool) (nt:Nat) (a k:Int) (wc:World):Prop where
  inB:wc.heap[w.heap.size]?=some (.cells #[.string tx,cv,.int .i64 fa,.bool wt] 33 (0,0))
  told:wc.heap[nt]?=some (.cells #[.int .i64 a,.int .i64 k] 43 (0,0))
  ne:w.heap.size < nt
  below:Below w.heap.size w wc
theorem GM.next {w:World} {tx:ByteArray} {cv:Value} {fa:Int} {wt:Bool} {nt:Nat} {a k:Int} {wc wd:World} (h:GM w tx cv fa wt nt a k wc) (hb:Below wc.heap.size wc wd):GM w tx cv fa wt nt a k wd :=
  ⟨(hb.block _ (Array.getElem?_eq_some_iff.1 h.inB).1).trans h.inB,(hb.block _ (Array.getElem?_eq_some_iff.1 h.told).1).trans h.told,h.ne,h.below.trans (hb.mono h.below.size)⟩
theorem GM.put {w:World} {tx:ByteArray} {cv:Value} {fa:Int} {wt:Bool} {nt:Nat} {a k:Int} {wc:World} (h:GM w tx cv fa wt nt a k wc) (a' k':Int):GM w tx cv fa wt nt a' k' ((wc.setCell ⟨nt,0,none⟩ (.int .i64 a')).setCell ⟨nt,1,none⟩ (.int .i64 k')):=by
  have hn:=h.ne
  refine ⟨?_,?_,hn,(h.below.setCell (p:=⟨nt,0,none⟩) (by show _≤nt;omega) _).setCell (p:=⟨nt,1,none⟩) (by show _≤nt;omega) _⟩
  · rw [Below.heap_setCell _ _ _ _ (by show w.heap.size ≠ nt;omega),Below.heap_setCell _ _ _ _ (by show w.heap.size ≠ nt;omega)]
    exact h.inB
  · have h1:=Joins.block_setCell (i:=0) h.told (.int .i64 a')
    have h2:=Joins.block_setCell (i:=1) h1 (.int .i64 k')
    simpa using h2
set_option maxHeartbeats 4000000 in
set_option maxRecDepth 100000 in
theorem gathers_fit (tx:ByteArray) (ca:Option Addr) (cap:Nat) (cs:List Int) (fa:Int) (wt:Bool) (aL aI:Addr) (w:World) (h:NumsAt (.slice ca cs.length cap) cs w) (h1:tx.size≤1048576) (h2:cs.length≤1048576) (G:Glob w aL aI) :
    Calls Tryz.prog 27 #[.agg #[.string tx,.slice ca cs.length cap,.int .i64 fa,.bool wt]] w fun e w'=>e=.returned (.bool true)∧Below w.heap.size w w':=by
  obtain ⟨⟨o,n⟩,hg⟩:=gat_some fa wt (cs.length+2) tx cs 0 ByteArray.empty 0 (by split <;> omega)
  have hfit:=fun W=>fit_any tx ca cs.length cap fa wt W
  have hf:(decide (tx.size≤1048576) && decide (cs.length≤1048576))=true:=by simp [h1,h2]
  rw [hf] at hfit
  have hnone:=fun W=>plain_none _ tx (.slice ca cs.length cap) fa wt rfl ⟨_,_,_,rfl⟩ W
  have hsome:=fun (W:World) (hb:Below w.heap.size w W)=>plain_some (cs.length+2) tx (.slice ca cs.length cap) cs fa wt o n aL aI W (h.below hb) h2 (by omega) (by omega) hg (G.below hb)
  have hcome:=fun (W:World) (hb:Below w.heap.size w W)=>come_any (cs.length+2) tx (.slice ca cs.length cap) cs fa wt o n W (h.below hb) h2 h1 (by omega) hg
  generalize outText o=ot at hsome hcome
  generalize outErr o=oe at hsome hcome
  generalize outN o=on at hsome hcome
  have HS:Hid _:=hsome
  have HC:Hid _:=hcome
  have HF:Hid _:=hfit
  have HN:Hid _:=hnone
  clear hsome hcome hfit hnone hf h1 h2 h G hg
  go_enter Tryz.func27,Tryz.ntmps27
  go_upto_region 1 with fail
  go_cut [3] (fun v wc=>v=.bool true∧wc.heap[w.heap.size]?=some (.cells #[.string tx,.slice ca cs.length cap,.int .i64 fa,.bool wt] 33 (0,0))∧Below w.heap.size w wc)
  case first =>
    go_wp2_with (go_at_call 17;refine (HF.out _).mono ?_;rintro e w1 ⟨rfl,b1⟩)
    go_meet
    case rel=>exact ⟨rfl,(b1.block _ (by simp)).trans (heap_new _ _ rfl),((Below.refl _ w).alloc (Nat.le_refl _) _).trans (b1.mono (by simp))⟩
  case rest =>
    obtain ⟨rfl,hin,hbel⟩:=hcut
    obtain ⟨i0,i1,i2,i3⟩:=in_cells hin
    have HI:Hid (wc.heap[w.heap.size]?=some (.cells #[.string tx,.slice ca cs.length cap,.int .i64 fa,.bool wt] 33 (0,0))∧Below w.heap.size w wc):=⟨hin,hbel⟩
    have hws:w.heap.size < wc.heap.size:=(Array.getElem?_eq_some_iff.1 hin).1
    clear hin hbel HF
    go_upto_region 4 with fail
    go_cut [4,5,6] (fun s t r wd=>s=.string ⟨#[]⟩∧∃ nt,t=.pointer (some ⟨nt,0,none⟩)∧GM w tx (.slice ca cs.length cap) fa wt nt 0 0 wd)
    case first =>
      go_wp2_with (go_at_call 55;refine (HN.out wc).mono ?_;rintro e w2 ⟨rfl,b2⟩)
      go_meet
      case rel =>
        have z2:=b2.size
        refine ⟨rfl,_,rfl,?_,heap_new _ _ rfl,by omega,(HI.out.2.trans (b2.mono (by omega))).alloc (by omega) _⟩
        rw [Below.heap_alloc _ _ _ (by omega)]
        exact (b2.block _ hws).trans HI.out.1
    case rest =>
      obtain ⟨rfl,nt,rfl,M⟩:=hcut
      clear i0 i1 i2 i3 HI hws HN
      obtain ⟨i0,i1,i2,i3⟩:=in_cells M.inB
      have t0:wc.cell? ⟨nt,0,none⟩=some (.int .i64 0):=by rw [Lib.cell_of_heap M.told];rfl
      have MM:Hid (GM w tx (.slice ca cs.length cap) fa wt nt 0 0 wc):=M
      have hc7:Calls Tryz.prog 55 #[.agg #[.string tx,.slice ca cs.length cap,.int .i64 fa,.bool wt],.bool false] wc fun e w'=>e=.returned (.tuple #[.string ot,.agg #[.int .i64 oe,.int .i64 on],.int .i64 n]) ∧
          w'.cell? ⟨nt,0,none⟩=some (.int .i64 0)∧w'.cell? ⟨nt,1,none⟩=some (.int .i64 0)∧w'.frozen? ⟨nt,0,none⟩=false∧w'.frozen? ⟨nt,1,none⟩=false∧Hid (GM w tx (.slice ca cs.length cap) fa wt nt 0 0 w'):=by
        refine (HS.out wc M.below).mono ?_
        rintro e w' ⟨rfl,hb⟩
        have M2:=M.next hb
        exact ⟨rfl,by rw [Lib.cell_of_heap M2.told];rfl,by rw [Lib.cell_of_heap M2.told];rfl,Lib.frozen_of_heap M2.told 0,Lib.frozen_of_heap M2.told 1,M2⟩
      clear M HS
      go_upto_region 7 with fail
      go_cut [7,8] (fun s r wc=>s=.string ot∧r=.int .i64 n∧GM w tx (.slice ca cs.length cap) fa wt nt oe on wc)
      case first =>
        go_wp2_with (go_at_call 55;refine hc7.mono ?_;rintro e w4 ⟨rfl,d0,d1,z0,z1,dd⟩)
        go_meet
        case rel=>exact ⟨rfl,rfl,dd.out.put oe on⟩
      case rest =>
        obtain ⟨rfl,rfl,M⟩:=hcut
        clear i0 i1 i2 i3 t0 MM hc7
        obtain ⟨i0,i1,i2,i3⟩:=in_cells M.inB
        have hc8:=HC.out wc M.below
        have MM:Hid (GM w tx (.slice ca cs.length cap) fa wt nt oe on wc):=M
        clear M HC
        go_upto_region 8 with fail
        go_cut [9] (fun c wc=>∃ nc,c=.pointer (some ⟨nc,0,none⟩)∧GM w tx (.slice ca cs.length cap) fa wt nt oe on wc∧wc.heap[nc]?=some (.cells #[.string ot,.int .i64 oe,.int .i64 on,.int .i64 n] 49 (0,0)))
        case first =>
          go_wp2_with (go_at_call 24;refine hc8.mono ?_;rintro e w5 ⟨rfl,b5⟩)
          go_meet
          case rel =>
            have M5:=MM.out.next b5
            exact ⟨_,rfl,M5.next ((Below.refl _ _).alloc (Nat.le_refl _) _),heap_new _ _ rfl⟩
        case rest =>
          obtain ⟨nc,rfl,M,hcb⟩:=hcut
          clear i0 i1 i2 i3 MM hc8
          have t0:wc.cell? ⟨nt,0,none⟩=some (.int .i64 oe):=by rw [Lib.cell_of_heap M.told];rfl
          have t1:wc.cell? ⟨nt,1,none⟩=some (.int .i64 on):=by rw [Lib.cell_of_heap M.told];rfl
          have v0:wc.cell? ⟨nc,0,none⟩=some (.string ot):=by rw [Lib.cell_of_heap hcb];rfl
          have v1:wc.cell? ⟨nc,1,none⟩=some (.int .i64 oe):=by rw [Lib.cell_of_heap hcb];rfl
          have v2:wc.cell? ⟨nc,2,none⟩=some (.int .i64 on):=by rw [Lib.cell_of_heap hcb];rfl
          have v3:wc.cell? ⟨nc,3,none⟩=some (.int .i64 n):=by rw [Lib.cell_of_heap hcb];rfl
          have MM:Hid (GM w tx (.slice ca cs.length cap) fa wt nt oe on wc):=M
          clear M hcb
          go_wp2
          go_ret
          exact ⟨rfl,MM.out.below⟩
end Go.Proofs.YtljcljipppjnoaaGreatDoor
