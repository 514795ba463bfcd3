import Derived.Test.YtljcljipppjnoaaGreatDoorRefLeaf
namespace Go.Proofs.YtljcljipppjnoaaGreatDoor
open Go.RowKit

/-- Lines in memory. -/
structure Strs (g o cap : Nat) (ls : List (List UInt8)) (w : World) : Prop where
  fits : ls.length ≤ cap
  max : cap ≤ 9223372036854775807
  lt : g < w.heap.size
  cell : ∀ (j : Nat) (l : List UInt8), ls[j]? = some l → w.cell? ⟨g, o + j, none⟩ = some (.string ⟨l.toArray⟩)

theorem Strs.below {g o cap B : Nat} {ls : List (List UInt8)} {w w' : World} (h : Strs g o cap ls w) (hb : Below B w w') (hg : g < B) : Strs g o cap ls w' :=
  ⟨h.fits, h.max, by have := hb.size; have := h.lt; omega, fun j l hj => (hb.cell (p := ⟨g, o + j, none⟩) hg).trans (h.cell j l hj)⟩

def blankL (l : List UInt8) : Bool := l.all isBl
def behindS (ls : List (List UInt8)) (n : Nat) : Nat := n + ((ls.drop n).takeWhile blankL).length

/-- No line is longer than this, and there are no more of them. -/
def Small (M : Nat) (ls : List (List UInt8)) : Prop := ls.length ≤ M ∧ ∀ l ∈ ls, l.length ≤ M

theorem behind_lt (ls : List (List UInt8)) (n : Nat) (h : n < ls.length) (hb : blankL ls[n] = true) : behindS ls n = behindS ls (n + 1) := by
  unfold behindS
  rw [List.drop_eq_getElem_cons h, List.takeWhile_cons, if_pos hb]
  simp
  omega
theorem behind_at (ls : List (List UInt8)) (n : Nat) (h : n < ls.length) (hb : blankL ls[n] = false) : behindS ls n = n := by
  unfold behindS
  rw [List.drop_eq_getElem_cons h, List.takeWhile_cons, if_neg (by simp [hb])]
  rfl
theorem behind_end (ls : List (List UInt8)) (n : Nat) (h : n = ls.length) : behindS ls n = n := by
  unfold behindS
  rw [List.drop_eq_nil_iff.2 (by omega)]
  rfl

theorem size_of (l : List UInt8) : (⟨l.toArray⟩ : ByteArray).size = l.length := by
  show l.toArray.size = _
  simp

set_option maxHeartbeats 1000000 in
theorem rbehind_any (g o cap : Nat) (ls : List (List UInt8)) (n : Nat) (w : World) (hS : Strs g o cap ls w) (hM : Small 4611686018427387904 ls) (hn : n ≤ ls.length) :
    Calls Tryz.prog 66 #[.slice (some ⟨g, o, none⟩) ls.length cap, .int .i64 n] w fun e w' => e = .returned (.int .i64 (behindS ls n)) ∧ w' = w := by
  have hlen := hM.1
  have HM : Hid (Small 4611686018427387904 ls) := hM
  have HS : Hid (Strs g o cap ls w) := hS
  clear hM hS
  go_enter Tryz.func66, Tryz.ntmps66
  go_wp2
  go_loop [1] (fun i => ∃ k : Nat, k ≤ ls.length ∧ i = .int .i64 k ∧ Hid (behindS ls k = behindS ls n)) (fun i => ls.length - (intOf i).toNat)
  case atStart => exact ⟨n, hn, rfl, (by show _ = _; rfl)⟩
  case round =>
    obtain ⟨k, hk, rfl, hb⟩ := hrel
    by_cases hlt : k < ls.length
    · obtain ⟨l, hl⟩ : ∃ l, ls[k] = l := ⟨_, rfl⟩
      have hcell := HS.out.cell k l (by rw [List.getElem?_eq_getElem hlt, hl])
      have hsz : l.length ≤ 4611686018427387904 := HM.out.2 l (by rw [← hl]; exact List.getElem_mem hlt)
      have hc := fun W => rBlank_any ⟨l.toArray⟩ W (by rw [size_of]; exact hsz)
      have hbl : blankS ⟨l.toArray⟩ = blankL l := rfl
      rw [hbl] at hc
      cases hbb : blankL l with
      | true =>
        have HB : Hid (behindS ls k = behindS ls (k + 1)) := behind_lt ls k hlt (by rw [hl]; exact hbb)
        rw [hbb] at hc
        clear hbb hbl hsz hl
        go_wp2_with (go_at_call 36; refine (hc _).mono ?_; rintro e w' ⟨rfl, rfl⟩)
        go_round
        case rel => exact ⟨k + 1, by omega, by go_num, (by show _ = _; rw [← HB.out, hb.out])⟩
        case measure => simp [intOf]; omega
      | false =>
        have HB : Hid (behindS ls n = k) := by show _ = _; rw [← hb.out]; exact behind_at ls k hlt (by rw [hl]; exact hbb)
        rw [hbb] at hc
        clear hbb hbl hsz hl
        go_wp2_with (go_at_call 36; refine (hc _).mono ?_; rintro e w' ⟨rfl, rfl⟩)
        go_ret
        exact ⟨by rw [HB.out]; rfl, rfl⟩
    · have HB : Hid (behindS ls n = k) := by show _ = _; rw [← hb.out]; exact behind_end ls k (by omega)
      go_wp2
      go_ret
      exact ⟨by rw [HB.out]; rfl, rfl⟩

end Go.Proofs.YtljcljipppjnoaaGreatDoor
