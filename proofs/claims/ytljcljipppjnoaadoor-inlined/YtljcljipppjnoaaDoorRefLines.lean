import Derived.Test.YtljcljipppjnoaaDoorRefLevel
namespace Go.Proofs.YtljcljipppjnoaaDoor
open Go.RowKit

/-- P6: the lines of a text. -/
def linesL : List UInt8 → List UInt8 → List (List UInt8)
  | cur, [] => if cur = [] then [] else [cur]
  | cur, c :: r => if c = 10 then cur :: linesL [] r else linesL (cur ++ [c]) r
/-- The cells of some texts. -/
def strCs (ls : List (List UInt8)) : List Value := ls.map fun l => Value.string ⟨l.toArray⟩

theorem Tryd.infoStr : (Tryd.prog.info? 9).map (fun i => (i.zero, i.size, i.bytes)) = some (some (.string ⟨#[]⟩), 1, 16) := by kernel_rfl


end Go.Proofs.YtljcljipppjnoaaDoor
