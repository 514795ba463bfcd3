import Derived.Test.YtljcljipppjnoaaGreatDoorRefBlk
namespace Go.Proofs.YtljcljipppjnoaaGreatDoor
open Go.RowKit

theorem rblocks_at (d : Nat) (hd : d ≤ 3) : BlocksC (3 - (d : Int)) (blocksAt d) := by
  induction d with
  | zero => exact rblocks_any (fun _ => []) 3 ⟨by decide, by decide⟩ (fun h => absurd h (by decide)) (fun ls => by simp)
  | succ d ih =>
    have h := rblocks_any (blocksAt d) (2 - (d : Int)) ⟨by omega, by omega⟩ (fun _ => by
      rw [show (2 - (d : Int) + 1) = 3 - (d : Int) by omega]
      exact ih (by omega)) (fun ls => Nat.le_trans (blocksAt_le d ls) (Nat.mul_le_mul_right _ (by omega)))
    rw [show (3 - ((d + 1 : Nat) : Int)) = 2 - (d : Int) by omega]
    exact h

/-- The document's answer: the blocks of some lines. -/
theorem rblocks_doc : BlocksC 0 (blocksAt 3) := by simpa using rblocks_at 3 (Nat.le_refl _)

end Go.Proofs.YtljcljipppjnoaaGreatDoor
