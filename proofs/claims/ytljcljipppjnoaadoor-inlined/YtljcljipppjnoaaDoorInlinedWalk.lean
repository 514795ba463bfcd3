import Derived.Test.YtljcljipppjnoaaDoorLvEach
import Derived.Test.YtljcljipppjnoaaDoorPlainEv
import Derived.Test.YtljcljipppjnoaaDoorRefInl2
import Derived.Test.YtljcljipppjnoaaDoorSame
import Derived.Test.YtljcljipppjnoaaDoorRegularWalk
namespace Go.Proofs.YtljcljipppjnoaaDoor
open Go.RowKit Go.Shelf

theorem docIn_len (s : ByteArray) (hs : s.size ≤ 1048576) : (docIn s).length ≤ 1099511627776 := by
  have h1 := inl_len (reg s) false
  have h2 := reg_len s
  unfold docIn
  omega

set_option maxRecDepth 100000 in
theorem pInline_any (s : ByteArray) (m : Int) (W : World) (hs : s.size ≤ 1048576) (hm : W.cell? ⟨5, 0, none⟩ = some (.int .i64 m)) :
    Calls Tryd.prog 10 #[.string s] W fun e w' => ∃ v, e = .returned v ∧ w'.ownsRow W.heap.size 59 4 v (docIn s).length (evCs (docIn s)) ∧ Below W.heap.size W w' := by
  have c1 := dInline_any s m W hs hm
  have hl := docIn_len s hs
  have c2 := fun v w (hB : W.heap.size ≤ w.heap.size) (h : w.ownsRow W.heap.size 76 4 v (docIn s).length (evCs (docIn s))) => pevents_any W.heap.size v (docIn s) w hB h hl
  generalize docIn s = bs at c1 c2 hl ⊢
  go_enter Tryd.func10, Tryd.ntmps10
  go_wp2_with (first | (go_at_call 18; refine c1.mono ?_; rintro e w1 ⟨v, rfl, own1, b1⟩) | (go_at_call 17; refine (c2 v w1 b1.size own1).mono ?_; rintro e w2 ⟨v2, rfl, own2, b2⟩))
  go_ret
  exact ⟨v2, rfl, Joins.ownsRow_le own2 b1.size, b1.trans b2⟩

set_option maxRecDepth 100000 in
set_option maxHeartbeats 1000000 in
theorem inlined_any (s : ByteArray) (m : Int) (W : World) (hm : W.cell? ⟨5, 0, none⟩ = some (.int .i64 m)) :
    Calls Tryd.prog 5 #[.string s] W fun e w' => e = .returned (.bool true) ∧ Below W.heap.size W w' := by
  by_cases hs : s.size ≤ 1048576
  · have hk : decide ((1048576 : Int) < (s.size : Int)) = false := by simp; omega
    have c1 := pInline_any s m W hs hm
    have c2 := fun w => regular_any s w (by omega)
    have hrl := reg_len s
    have c3 := fun w => rinl_doc ⟨(reg s).toArray⟩ false w (by rw [size_of]; omega)
    have e3 : (⟨(reg s).toArray⟩ : ByteArray).data.toList = reg s := rfl
    have hd : inlineS (reg s) false = docIn s := rfl
    rw [e3, hd] at c3
    have hlen := docIn_len s hs
    have c5 := fun B1 B2 v1 v2 w o1 o2 => same_any B1 B2 v1 v2 (docIn s) w hlen o1 o2
    generalize docIn s = bs at c1 c3 c5 hlen hd
    generalize (reg s).toArray = rg at c2 c3
    clear hrl e3 hd hs
    go_enter Tryd.func5, Tryd.ntmps5
    go_wp2_with (first
      | (go_at_call 10; refine c1.mono ?_; rintro e w1 ⟨v1, rfl, own1, b1⟩)
      | (go_at_call 11; refine (c2 _).mono ?_; rintro e w2 ⟨rfl, b2⟩)
      | (go_at_call 12; refine (c3 _).mono ?_; rintro e w4 ⟨v4, rfl, own4, b4⟩)
      | (go_at_call 13; refine (c5 _ _ v1 v4 _ (own_below (own_below own1 b2 (Nat.le_refl _)) b4 (Nat.le_refl _)) own4).mono ?_; rintro e w5 ⟨rfl, b5⟩))
    go_ret
    have s1 := b1.size
    have s2 := b2.size
    have s4 := b4.size
    exact ⟨rfl, ((b1.trans (b2.mono (by omega))).trans (b4.mono (by omega))).trans (b5.mono (by omega))⟩
  · have hk : decide ((1048576 : Int) < (s.size : Int)) = true := by simp; omega
    go_enter Tryd.func5, Tryd.ntmps5
    go_wp2
    go_ret
    exact ⟨rfl, Below.refl _ _⟩

end Go.Proofs.YtljcljipppjnoaaDoor
