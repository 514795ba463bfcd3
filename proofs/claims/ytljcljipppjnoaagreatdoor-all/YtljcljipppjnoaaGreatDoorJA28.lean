import Derived.Test.YtljcljipppjnoaaGreatDoorJA15
import Derived.Test.YtljcljipppjnoaaGreatDoorJA26
import Derived.Test.YtljcljipppjnoaaGreatDoorJA27
namespace Go.Proofs.YtljcljipppjnoaaGreatDoor
open Go.RowKit Go.Shelf
set_option maxRecDepth 100000 in
set_option maxHeartbeats 1000000 in
theorem blocked_any (s:ByteArray) (m:Int) (W:World) (hm:W.cell? ⟨6,0,none⟩=some (.int .i64 m)) :
    Calls Tryz.prog 3 #[.string s] W fun e w'=>e=.returned (.bool true)∧Below W.heap.size W w':=by
  by_cases hs:s.size≤1048576
  · have hk:decide ((1048576:Int) < (s.size:Int))=false:=by simp;omega
    have c1:=pBlocks_any s m W hs hm
    have c2:=fun w=>regular_any s w (by omega)
    have hrl:=reg_len s
    have c3:=fun w=>rlines_any ⟨(reg s).toArray⟩ w (by rw [size_of];omega)
    have e3:(⟨(reg s).toArray⟩:ByteArray).data.toList=reg s:=rfl
    rw [e3] at c3
    have ht:=tot_lines (reg s)
    have hl2:=tot_len (linesL [] (reg s))
    have hbl:=blocksAt_le 3 (linesL [] (reg s))
    have c4:=fun v w (h:LinesV v (linesL [] (reg s)) w)=>rblocks_doc v (linesL [] (reg s)) w h (tot_small (by omega))
    have hd:blocksAt 3 (linesL [] (reg s))=docBl s:=rfl
    have hlen:(docBl s).length≤1099511627776:=by rw [← hd];omega
    rw [hd] at c4
    have c5:=fun B1 B2 v1 v2 w o1 o2=>same_any B1 B2 v1 v2 (docBl s) w hlen o1 o2
    generalize docBl s=bs at c1 c4 c5 hlen hd
    generalize linesL [] (reg s)=ls at c3 c4 ht hl2 hbl hd
    generalize (reg s).toArray=rg at c2 c3
    clear hrl e3 hd hs
    go_enter Tryz.func3,Tryz.ntmps3
    go_wp2_with (first
      | (go_at_call 12;refine c1.mono ?_;rintro e w1 ⟨v1,rfl,own1,b1⟩)
      | (go_at_call 13;refine (c2 _).mono ?_;rintro e w2 ⟨rfl,b2⟩)
      | (go_at_call 14;refine (c3 _).mono ?_;rintro e w3 ⟨v3,rfl,own3,b3⟩)
      | (go_at_call 15;refine (c4 v3 _ (lines_own own3)).mono ?_;rintro e w4 ⟨v4,rfl,own4,b4⟩)
      | (go_at_call 16;refine (c5 _ _ v1 v4 _ (own_below (own_below (own_below own1 b2 (Nat.le_refl _)) b3 (Nat.le_refl _)) b4 (Nat.le_refl _)) own4).mono ?_;rintro e w5 ⟨rfl,b5⟩))
    go_ret
    have s1:=b1.size
    have s2:=b2.size
    have s3:=b3.size
    have s4:=b4.size
    exact ⟨rfl,(((b1.trans (b2.mono (by omega))).trans (b3.mono (by omega))).trans (b4.mono (by omega))).trans (b5.mono (by omega))⟩
  · have hk:decide ((1048576:Int) < (s.size:Int))=true:=by simp;omega
    go_enter Tryz.func3,Tryz.ntmps3
    go_wp2
    go_ret
    exact ⟨rfl,Below.refl _ _⟩
end Go.Proofs.YtljcljipppjnoaaGreatDoor
