import Derived.Test.YtljcljipppjnoaaGreatDoorRefPara2
namespace Go.Proofs.YtljcljipppjnoaaGreatDoor
open Go.RowKit

/-- Three backticks. -/
def ticks : ByteArray := ⟨#[96, 96, 96]⟩
def shuts (l : List UInt8) : Bool := beginsS ⟨l.toArray⟩ ⟨#[96, 96, 96]⟩ && blankL (l.drop 3)
def shutAt (ls : List (List UInt8)) (k : Nat) : Nat := k + ((ls.drop k).takeWhile (fun l => !shuts l)).length
def codeOf (ls : List (List UInt8)) : List UInt8 := ls.flatMap fun l => l ++ [10]
def fencedN (ls : List (List UInt8)) : Nat := if shutAt ls 1 < ls.length then shutAt ls 1 + 1 else ls.length
def fencedT (ls : List (List UInt8)) : List UInt8 := codeOf ((ls.take (shutAt ls 1)).drop 1)

theorem shut_lt (ls : List (List UInt8)) (n : Nat) (h : n < ls.length) (hb : shuts ls[n] = false) : shutAt ls n = shutAt ls (n + 1) := by
  unfold shutAt
  rw [List.drop_eq_getElem_cons h, List.takeWhile_cons, if_pos (by simp [hb])]
  simp
  omega
theorem shut_at (ls : List (List UInt8)) (n : Nat) (h : n < ls.length) (hb : shuts ls[n] = true) : shutAt ls n = n := by
  unfold shutAt
  rw [List.drop_eq_getElem_cons h, List.takeWhile_cons, if_neg (by simp [hb])]
  rfl
theorem shut_end (ls : List (List UInt8)) (n : Nat) (h : n = ls.length) : shutAt ls n = n := by
  unfold shutAt
  rw [List.drop_eq_nil_iff.2 (by omega)]
  rfl
theorem codeOf_snoc (ls : List (List UInt8)) (x : List UInt8) : codeOf (ls ++ [x]) = codeOf ls ++ (x ++ [10]) := by
  simp [codeOf]
theorem take_drop_snoc (ls : List (List UInt8)) (k : Nat) (h1 : 1 ≤ k) (h : k < ls.length) : (ls.take (k + 1)).drop 1 = (ls.take k).drop 1 ++ [ls[k]] := by
  rw [snoc_take ls k h, List.drop_append_of_le_length]
  rw [List.length_take]
  omega
theorem ext3 (l : List UInt8) (h : beginsS ⟨l.toArray⟩ ⟨#[96, 96, 96]⟩ = true) : 3 ≤ l.length := by
  by_cases h3 : 3 ≤ l.length
  · exact h3
  · have := begins_short ⟨l.toArray⟩ ⟨#[96, 96, 96]⟩ (by rw [size_of]; exact h3)
    rw [h] at this
    exact absurd this (by decide)
theorem ba_ext (l : List UInt8) (a b : Nat) (hb : b = l.length) : (⟨l.toArray⟩ : ByteArray).extract a b = ⟨(l.drop a).toArray⟩ := by
  apply ByteArray.ext
  apply Array.ext'
  rw [Lib.extract_data, List.take_of_length_le (by simp [hb])]

set_option maxHeartbeats 2000000 in
theorem rfenced_any (g o cap : Nat) (ls : List (List UInt8)) (w : World) (hS : Strs g o cap ls w) (hM : Small 1073741824 ls) (hn : 0 < ls.length) :
    Calls Tryz.prog 38 #[.slice (some ⟨g, o, none⟩) ls.length cap] w fun e w' =>
      ∃ v, e = .returned (.tuple #[v, .int .i64 (fencedN ls)]) ∧ w'.ownsRow w.heap.size 83 4 v (leafS 5 0 (fencedT ls)).length (evCs (leafS 5 0 (fencedT ls))) ∧ Below w.heap.size w w' := by
  have hlen := hM.1
  have HM : Hid (Small 1073741824 ls) := hM
  have HS : Hid (Strs g o cap ls w) := hS
  clear hM hS
  go_enter Tryz.func38, Tryz.ntmps38
  go_wp2
  go_loop [4, 5] (fun t i => ∃ (k : Nat) (acc : List UInt8), 1 ≤ k ∧ k ≤ ls.length ∧ i = .int .i64 k ∧ t = .string ⟨acc.toArray⟩ ∧ Hid (acc = codeOf ((ls.take k).drop 1) ∧ acc.length ≤ k * 1073741825) ∧ Hid (shutAt ls k = shutAt ls 1)) (fun _ i => ls.length - (intOf i).toNat)
  case atStart => exact ⟨1, [], Nat.le_refl _, by omega, rfl, rfl, ⟨(by rw [List.drop_eq_nil_iff.2 (by rw [List.length_take]; omega)]; rfl), (by simp)⟩, (by show _ = _; rfl)⟩
  case round =>
    obtain ⟨k, acc, hk1, hk, rfl, rfl, hJ, hP⟩ := hrel
    have hacc : acc.length ≤ 2305843009213693952 := by
      have h1 := hJ.out.2
      have h2 : k * 1073741825 ≤ 1073741824 * 1073741825 := Nat.mul_le_mul_right _ (by omega)
      have h3 : (1073741824 * 1073741825 : Nat) ≤ 2305843009213693952 := by decide
      exact Nat.le_trans h1 (Nat.le_trans h2 h3)
    have hfin : Hid (shutAt ls 1 = k) → Calls Tryz.prog 41 #[.int .i64 5, .int .i64 0, .string ⟨acc.toArray⟩] w fun e w' => ∃ v, e = .returned v ∧ w'.ownsRow w.heap.size 83 4 v (leafS 5 0 (fencedT ls)).length (evCs (leafS 5 0 (fencedT ls))) ∧ Below w.heap.size w w' := by
      intro h1
      have : fencedT ls = acc := by rw [fencedT, h1.out, hJ.out.1]
      rw [this]
      exact rleaf_any 5 0 ⟨acc.toArray⟩ w
    by_cases hlt : k < ls.length
    · obtain ⟨l, hl⟩ : ∃ l, ls[k] = l := ⟨_, rfl⟩
      have hcell := HS.out.cell k l (by rw [List.getElem?_eq_getElem hlt, hl])
      have hsz : l.length ≤ 1073741824 := HM.out.2 l (by rw [← hl]; exact List.getElem_mem hlt)
      have hs1 := size_of acc
      have hs2 := size_of l
      have hcb := fun W => begins_any ⟨l.toArray⟩ ⟨#[96, 96, 96]⟩ W
      have hcB := fun W => rBlank_any ⟨(l.drop 3).toArray⟩ W (by rw [size_of, List.length_drop]; omega)
      have hbl : blankS ⟨(l.drop 3).toArray⟩ = blankL (l.drop 3) := rfl
      rw [hbl] at hcB
      have hst : shuts l = (beginsS ⟨l.toArray⟩ ⟨#[96, 96, 96]⟩ && blankL (l.drop 3)) := rfl
      have he3 := ext3 l
      have hx := ba_ext l 3 l.length rfl
      have hgo : shuts l = false → Hid (acc ++ (l ++ [10]) = codeOf ((ls.take (k + 1)).drop 1) ∧ (acc ++ (l ++ [10])).length ≤ (k + 1) * 1073741825) ∧ Hid (shutAt ls (k + 1) = shutAt ls 1) := by
        intro hno
        refine ⟨⟨?_, ?_⟩, ?_⟩
        · rw [take_drop_snoc ls k hk1 hlt, codeOf_snoc, ← hJ.out.1, hl]
        · have := hJ.out.2
          simp only [List.length_append, List.length_singleton]
          omega
        · show _ = _
          rw [← shut_lt ls k hlt (by rw [hl]; exact hno), hP.out]
      have hgone : shuts l = true → Hid (shutAt ls 1 = k ∧ fencedN ls = k + 1) := by
        intro hyes
        have h1 : shutAt ls 1 = k := by rw [← hP.out]; exact shut_at ls k hlt (by rw [hl]; exact hyes)
        exact ⟨h1, by rw [fencedN, h1, if_pos hlt]⟩
      generalize beginsS ⟨l.toArray⟩ ⟨#[96, 96, 96]⟩ = fv at hcb hst he3
      generalize blankL (l.drop 3) = bv at hcB hst
      clear hbl hl
      cases fv with
      | false =>
        obtain ⟨hg1, hg2⟩ := hgo (by rw [hst]; rfl)
        clear hgo hgone hfin hst he3 hx hcB
        go_wp2_with (go_at_call 64; refine (hcb _).mono ?_; rintro e w' ⟨rfl, hw⟩; rw [hw]; clear hw)
        go_round
        case rel => exact ⟨k + 1, _, by omega, by omega, by go_num, congrArg Value.string (ba3 acc l [10]), hg1, hg2⟩
        case measure => simp [intOf]; omega
      | true =>
        have h3 := he3 rfl
        rw [← hx] at hcB
        cases bv with
        | false =>
          obtain ⟨hg1, hg2⟩ := hgo (by rw [hst]; rfl)
          clear hgo hgone hfin hst he3 hx
          go_wp2_with (first | (go_at_call 64; refine (hcb _).mono ?_; rintro e w' ⟨rfl, hw⟩; rw [hw]; clear hw) | (go_at_call 36; refine (hcB _).mono ?_; rintro e w' ⟨rfl, hw⟩; rw [hw]; clear hw))
          go_round
          case rel => exact ⟨k + 1, _, by omega, by omega, by go_num, congrArg Value.string (ba3 acc l [10]), hg1, hg2⟩
          case measure => simp [intOf]; omega
        | true =>
          have hg := hgone (by rw [hst]; rfl)
          have hF2 := hfin hg.out.1
          have HN : Hid (fencedN ls = k + 1) := hg.out.2
          clear hgo hgone hfin hst he3 hx
          go_wp2_with (first | (go_at_call 64; refine (hcb _).mono ?_; rintro e w' ⟨rfl, hw⟩; rw [hw]; clear hw) | (go_at_call 36; refine (hcB _).mono ?_; rintro e w' ⟨rfl, hw⟩; rw [hw]; clear hw) | (go_at_call 41; refine hF2.mono ?_; rintro e w' ⟨v, rfl, hown, hb⟩))
          go_ret2
          rw [HN.out]
          exact ⟨v, (by go_num), hown, hb⟩
    · have HF : Hid (shutAt ls 1 = k) := by
        show _ = _
        rw [← hP.out]
        exact shut_end ls k (by omega)
      have HN : Hid (fencedN ls = ls.length) := by
        show _ = _
        rw [fencedN, HF.out, if_neg hlt]
      have hF2 := hfin HF
      clear hfin
      go_wp2_with (go_at_call 41; refine hF2.mono ?_; rintro e w' ⟨v, rfl, hown, hb⟩)
      go_ret2
      rw [HN.out]
      exact ⟨v, rfl, hown, hb⟩

end Go.Proofs.YtljcljipppjnoaaGreatDoor
