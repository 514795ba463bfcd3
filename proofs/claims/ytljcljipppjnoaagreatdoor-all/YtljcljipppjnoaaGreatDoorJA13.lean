import Derived.Test.YtljcljipppjnoaaGreatDoorJA03
import Derived.Test.YtljcljipppjnoaaGreatDoorJA08
namespace Go.Proofs.YtljcljipppjnoaaGreatDoor
def outText:Out→ByteArray
  | .fine s=>⟨(reg s).toArray⟩
  | _=>⟨#[]⟩
def outErr:Out→Int
  | .fine _=>0
  | .long=>1
  | .idle=>2
  | .fail _=>4
def outN:Out→Int
  | .fail k=>k
  | _=>0
end Go.Proofs.YtljcljipppjnoaaGreatDoor
