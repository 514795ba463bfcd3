import Derived.Test.YtljcljipppjnoabGreatDoorJL02
import Derived.Deep.QuietTactic
import Derived.BigQuiet
namespace Go.Proofs.YtljcljipppjnoabGreatDoor
open Go.RowKit
def keepL : List UInt8 := [45, 46, 95, 126, 47, 63, 35, 61, 58, 43, 44, 59, 64, 33, 36, 39, 40, 41, 42, 37]
def hexL : List UInt8 := [48, 49, 50, 51, 52, 53, 54, 55, 56, 57, 65, 66, 67, 68, 69, 70]
def keepN (n : Nat) : Bool := (decide (48 ≤ n) && decide (n ≤ 57)) || (decide (97 ≤ n) && decide (n ≤ 122)) || (decide (65 ≤ n) && decide (n ≤ 90))
def whereC (c : UInt8) : List UInt8 :=
  if c = 38 then [38, 97, 109, 112, 59] else if decide (0 ≤ foundZ keepL c 0) || keepN c.toNat then [c] else [37] ++ cutH (c.toNat / 16) ++ cutH (c.toNat % 16)
where cutH (k : Nat) : List UInt8 := (hexL.drop k).take 1
def whereL (l : List UInt8) : List UInt8 := l.flatMap whereC
theorem where_snoc (l : List UInt8) (c : UInt8) : whereL (l ++ [c]) = whereL l ++ whereC c := by simp [whereL]
end Go.Proofs.YtljcljipppjnoabGreatDoor
