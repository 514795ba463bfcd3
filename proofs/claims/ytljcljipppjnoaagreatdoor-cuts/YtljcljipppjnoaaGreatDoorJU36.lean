import Derived.Test.YtljcljipppjnoaaGreatDoorJU03
import Derived.Deep.QuietTactic
import Derived.BigQuiet
namespace Go.Proofs.YtljcljipppjnoaaGreatDoor
open Go.RowKit
def keepL : List UInt8 := [45, 46, 95, 126, 47, 63, 35, 61, 58, 43, 44, 59, 64, 33, 36, 39, 40, 41, 42, 37]
def hexL : List UInt8 := [48, 49, 50, 51, 52, 53, 54, 55, 56, 57, 65, 66, 67, 68, 69, 70]
def keepN (n : Nat) : Bool := (decide (48 ≤ n) && decide (n ≤ 57)) || (decide (97 ≤ n) && decide (n ≤ 122)) || (decide (65 ≤ n) && decide (n ≤ 90))
def whereC (c : UInt8) : List UInt8 :=
  if c = 38 then [38, 97, 109, 112, 59] else if decide (0 ≤ foundZ keepL c 0) || keepN c.toNat then [c] else [37] ++ cutH (c.toNat / 16) ++ cutH (c.toNat % 16)
where cutH (k : Nat) : List UInt8 := (hexL.drop k).take 1
def whereL (l : List UInt8) : List UInt8 := l.flatMap whereC
theorem where_snoc (l : List UInt8) (c : UInt8) : whereL (l ++ [c]) = whereL l ++ whereC c := by simp [whereL]
end Go.Proofs.YtljcljipppjnoaaGreatDoor

namespace Go.Proofs.YtljcljipppjnoaaGreatDoor
open Go.RowKit
set_option maxRecDepth 100000 in
set_option maxHeartbeats 2000000 in
theorem ksame_some (g1 c1 g2 c2 : Nat) (evs : List Ev) (w : World) (hlen : evs.length ≤ 1099511627776)
    (h1 : ∀ (j : Nat) u, (evCs evs)[j]? = some u → w.cell? ⟨g1, j, none⟩ = some u) (h2 : ∀ (j : Nat) u, (evCs evs)[j]? = some u → w.cell? ⟨g2, j, none⟩ = some u) (l1 : g1 < w.heap.size) (l2 : g2 < w.heap.size) :
    Calls Tryz.prog 32 #[.slice (some ⟨g1, 0, none⟩) evs.length c1, .slice (some ⟨g2, 0, none⟩) evs.length c2] w fun e w' => e = .returned (.bool true) ∧ Below w.heap.size w w' := by
  have H1 : Hid _ := h1
  have H2 : Hid _ := h2
  clear h1 h2
  go_enter Tryz.func32, Tryz.ntmps32
  go_wp2
  go_loopw [5] (fun i wr => ∃ k : Nat, k ≤ evs.length ∧ i = .int .i64 k ∧ Below w.heap.size w wr) (fun i _ => evs.length - (intOf i).toNat)
  case atStart => exact ⟨0, Nat.zero_le _, rfl, Below.refl _ _⟩
  case round =>
    obtain ⟨k, hk, rfl, hbel⟩ := hrel
    by_cases hlt : k < evs.length
    · obtain ⟨ev, hev⟩ : ∃ ev, evs[k]? = some ev := ⟨evs[k], List.getElem?_eq_getElem hlt⟩
      obtain ⟨q0, q1, q2, q3⟩ := evCs_at evs k ev hev
      have a0 := (hbel.cell (p := ⟨g1, k * 4, none⟩) l1).trans (H1.out _ _ q0)
      have a1 := (hbel.cell (p := ⟨g1, k * 4 + 1, none⟩) l1).trans (H1.out _ _ q1)
      have a2 := (hbel.cell (p := ⟨g1, k * 4 + 2, none⟩) l1).trans (H1.out _ _ q2)
      have a3 := (hbel.cell (p := ⟨g1, k * 4 + 3, none⟩) l1).trans (H1.out _ _ q3)
      have b0 := (hbel.cell (p := ⟨g2, k * 4, none⟩) l2).trans (H2.out _ _ q0)
      have b1 := (hbel.cell (p := ⟨g2, k * 4 + 1, none⟩) l2).trans (H2.out _ _ q1)
      have b2 := (hbel.cell (p := ⟨g2, k * 4 + 2, none⟩) l2).trans (H2.out _ _ q2)
      have b3 := (hbel.cell (p := ⟨g2, k * 4 + 3, none⟩) l2).trans (H2.out _ _ q3)
      have hlt' : (k : Int) < (evs.length : Int) := by omega
      clear q0 q1 q2 q3 hev H1 H2
      obtain ⟨ek, ef, el, et⟩ := ev
      simp only at a0 a1 a2 a3 b0 b1 b2 b3
      generalize (⟨et.toArray⟩ : ByteArray) = tt at a3 b3
      go_wp2_with fail
      go_quiet (fail)
      go_wp2
      go_roundw
      case rel => exact ⟨k + 1, by omega, by go_num, ⟨hbel.os, hbel.tape, hbel.output, hbel.size, hbel.block⟩⟩
      case measure => simp [intOf]; omega
    · go_wp2
      go_ret
      exact ⟨rfl, hbel⟩
set_option maxRecDepth 100000 in
set_option maxHeartbeats 1000000 in
theorem ksame_none (a1 a2 : Option Addr) (c1 c2 : Nat) (w : World) :
    Calls Tryz.prog 32 #[.slice a1 0 c1, .slice a2 0 c2] w fun e w' => e = .returned (.bool true) ∧ Below w.heap.size w w' := by
  go_enter Tryz.func32, Tryz.ntmps32
  go_wp2
  go_loopw [5] (fun i wr => i = .int .i64 0 ∧ wr = w) (fun _ _ => 0)
  case atStart => exact ⟨rfl, rfl⟩
  case round =>
    obtain ⟨rfl, rfl⟩ := hrel
    go_wp2
    go_ret
    exact ⟨rfl, Below.refl _ _⟩
theorem ksame_any (B1 B2 : Nat) (v1 v2 : Value) (evs : List Ev) (w : World) (hlen : evs.length ≤ 1099511627776) (o1 : w.ownsRow B1 39 4 v1 evs.length (evCs evs)) (o2 : w.ownsRow B2 39 4 v2 evs.length (evCs evs)) :
    Calls Tryz.prog 32 #[v1, v2] w fun e w' => e = .returned (.bool true) ∧ Below w.heap.size w w' := by
  have hf : ∀ {B : Nat} {t : TypeId} {v : Value}, w.ownsRow B t 4 v evs.length (evCs evs) → (v = .slice none 0 0 ∧ evs.length = 0) ∨ ∃ g cap, v = .slice (some ⟨g, 0, none⟩) evs.length cap ∧ g < w.heap.size ∧ ∀ (j : Nat) u, (evCs evs)[j]? = some u → w.cell? ⟨g, j, none⟩ = some u := by
    intro B t v h
    rcases h.2 with h0 | ⟨g, cap, cur, hv, _, hg, _, _, _, _⟩
    · exact Or.inl h0
    · refine Or.inr ⟨g, cap, hv, lt_of_block hg, fun j u hj => ?_⟩
      have := h.cells (g := g) (by rw [hv]; rfl) j u hj
      rw [Addr.add_lit] at this
      simpa using this
  rcases hf o1 with ⟨rfl, n1⟩ | ⟨g1, c1, rfl, l1, h1⟩
  · rcases hf o2 with ⟨rfl, n2⟩ | ⟨g2, c2, rfl, l2, h2⟩
    · exact ksame_none _ _ _ _ _
    · rw [n1]
      exact ksame_none _ _ _ _ _
  · rcases hf o2 with ⟨rfl, n2⟩ | ⟨g2, c2, rfl, l2, h2⟩
    · rw [n2]
      exact ksame_none _ _ _ _ _
    · exact ksame_some g1 c1 g2 c2 evs w hlen h1 h2 l1 l2
end Go.Proofs.YtljcljipppjnoaaGreatDoor
