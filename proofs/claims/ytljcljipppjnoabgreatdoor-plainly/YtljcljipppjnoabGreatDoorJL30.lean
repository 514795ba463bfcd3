import Derived.Test.YtljcljipppjnoabGreatDoorJL12
import Derived.Test.YtljcljipppjnoabGreatDoorJL22
namespace Go.Proofs.YtljcljipppjnoabGreatDoor
def outText : Out → ByteArray
  | .fine s => ⟨(reg s).toArray⟩
  | _ => ⟨#[]⟩
def outErr : Out → Int
  | .fine _ => 0
  | .long => 1
  | .idle => 2
  | .fail _ => 4
def outN : Out → Int
  | .fail k => k
  | _ => 0
end Go.Proofs.YtljcljipppjnoabGreatDoor
