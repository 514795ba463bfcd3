import Derived.Test.YtljcljipppjnoaaGreatDoorDevBlocks
import Derived.Test.YtljcljipppjnoaaGreatDoorPlainEv
namespace Go.Proofs.YtljcljipppjnoaaGreatDoor
open Go.RowKit Go.Shelf

set_option maxRecDepth 100000 in
theorem pBlocks_any (s : ByteArray) (m : Int) (W : World) (hs : s.size ≤ 1048576) (hm : W.cell? ⟨6, 0, none⟩ = some (.int .i64 m)) :
    Calls Tryz.prog 12 #[.string s] W fun e w' => ∃ v, e = .returned v ∧ w'.ownsRow W.heap.size 39 4 v (docBl s).length (evCs (docBl s)) ∧ Below W.heap.size W w' := by
  have c1 := dBlocks_any s m W hs hm
  have hl : (docBl s).length ≤ 1099511627776 := by
    have h1 := blocksAt_le 3 (linesL [] (reg s))
    have h2 := tot_len (linesL [] (reg s))
    have h3 := tot_lines (reg s)
    have h4 := reg_len s
    unfold docBl
    omega
  have c2 := fun v w (hB : W.heap.size ≤ w.heap.size) (h : w.ownsRow W.heap.size 92 4 v (docBl s).length (evCs (docBl s))) => pevents_any W.heap.size v (docBl s) w hB h hl
  generalize docBl s = bs at c1 c2 hl ⊢
  go_enter Tryz.func12, Tryz.ntmps12
  go_wp2_with (first | (go_at_call 35; refine c1.mono ?_; rintro e w1 ⟨v, rfl, own1, b1⟩) | (go_at_call 34; refine (c2 v w1 b1.size own1).mono ?_; rintro e w2 ⟨v2, rfl, own2, b2⟩))
  go_ret
  exact ⟨v2, rfl, Joins.ownsRow_le own2 b1.size, b1.trans b2⟩

end Go.Proofs.YtljcljipppjnoaaGreatDoor
