import Derived.Test.YtljcljipppjnoaaDoorRefQuote
import Derived.OneCell
namespace Go.Proofs.YtljcljipppjnoaaDoor
open Go.RowKit

/-! What stands in a leaf, in plain words. -/
def signN (n : Nat) : Bool := (decide (33 ≤ n) && decide (n ≤ 47)) || (decide (58 ≤ n) && decide (n ≤ 64)) || (decide (91 ≤ n) && decide (n ≤ 96)) || (decide (123 ≤ n) && decide (n ≤ 126))
/-- One of the signs that a backslash makes text. -/
def signS (c : UInt8) : Bool := signN c.toNat
/-- The first place of a byte from k on (or beyond the end). -/
def nextAt (l : List UInt8) (c : UInt8) (k : Nat) : Nat := k + ((l.drop k).takeWhile fun x => !(x == c)).length
def foundZ (l : List UInt8) (c : UInt8) (k : Nat) : Int := if nextAt l c k < l.length then (nextAt l c k : Int) else -1
def spacedL (l : List UInt8) : List UInt8 := l.map fun c => if c = 10 then 32 else c

theorem next_ge (l : List UInt8) (c : UInt8) (k : Nat) : k ≤ nextAt l c k := by unfold nextAt; omega
theorem next_lt (l : List UInt8) (c : UInt8) (n : Nat) (h : n < l.length) (hb : (l[n] == c) = false) : nextAt l c n = nextAt l c (n + 1) := by
  unfold nextAt
  rw [List.drop_eq_getElem_cons h, List.takeWhile_cons, if_pos (by simp [hb])]
  simp
  omega
theorem next_at (l : List UInt8) (c : UInt8) (n : Nat) (h : n < l.length) (hb : (l[n] == c) = true) : nextAt l c n = n := by
  unfold nextAt
  rw [List.drop_eq_getElem_cons h, List.takeWhile_cons, if_neg (by simp [hb])]
  rfl
theorem next_end (l : List UInt8) (c : UInt8) (n : Nat) (h : l.length ≤ n) : nextAt l c n = n := by
  unfold nextAt
  rw [List.drop_eq_nil_iff.2 h]
  rfl
theorem ba_at (s : ByteArray) (k : Nat) (h : k < s.size) : s.data.toList[k]'(by rw [Array.length_toList]; exact h) = s[k] := rfl
theorem ba_len (s : ByteArray) : s.data.toList.length = s.size := by rw [Array.length_toList]; rfl

set_option maxHeartbeats 1000000 in
theorem rsign_any (c : UInt8) (w : World) :
    Calls Tryd.prog 28 #[.int .u8 c.toNat] w fun e w' => e = .returned (.bool (signS c)) ∧ w' = w := by
  have hc : c.toNat < 256 := c.toNat_lt
  unfold signS
  generalize c.toNat = n at hc
  have hq : n < 33 ∨ (33 ≤ n ∧ n ≤ 47) ∨ (48 ≤ n ∧ n ≤ 57) ∨ (58 ≤ n ∧ n ≤ 64) ∨ (65 ≤ n ∧ n ≤ 90) ∨ (91 ≤ n ∧ n ≤ 96) ∨ (97 ≤ n ∧ n ≤ 122) ∨ (123 ≤ n ∧ n ≤ 126) ∨ 127 ≤ n := by omega
  rcases hq with h | ⟨h, h'⟩ | ⟨h, h'⟩ | ⟨h, h'⟩ | ⟨h, h'⟩ | ⟨h, h'⟩ | ⟨h, h'⟩ | ⟨h, h'⟩ | h
  all_goals
    first
    | (have HV : Hid (signN n = true) := by show _ = _; unfold signN; simp; omega)
    | (have HV : Hid (signN n = false) := by show _ = _; unfold signN; simp; omega)
    go_enter Tryd.func28, Tryd.ntmps28
    go_wp2
    go_ret
    rw [HV.out]
    refine ⟨?_, rfl⟩
    first
    | rfl
    | (refine congrArg (fun b => Ending.returned (Value.bool b)) ?_; simp; omega)

set_option maxHeartbeats 1000000 in
theorem rfind_any (s : ByteArray) (c : UInt8) (k : Nat) (w : World) (hs : s.size ≤ 4611686018427387904) (hk : k ≤ s.size + 2) :
    Calls Tryd.prog 29 #[.string s, .int .u8 c.toNat, .int .i64 k] w fun e w' => e = .returned (.int .i64 (foundZ s.data.toList c k)) ∧ w' = w := by
  have hl := ba_len s
  go_enter Tryd.func29, Tryd.ntmps29
  go_wp2
  go_loop [7] (fun i => ∃ j : Nat, k ≤ j ∧ j ≤ s.size + 2 ∧ i = .int .i64 j ∧ Hid (nextAt s.data.toList c j = nextAt s.data.toList c k)) (fun i => s.size + 2 - (intOf i).toNat)
  case atStart => exact ⟨k, Nat.le_refl _, hk, rfl, (by show _ = _; rfl)⟩
  case round =>
    obtain ⟨j, hj1, hj2, rfl, HN⟩ := hrel
    by_cases hlt : j < s.size
    · have he := u8_eq s[j] c
      cases hb : (s[j] == c) with
      | true =>
        have HF : Hid (foundZ s.data.toList c k = j) := by
          show _ = _
          have := next_at s.data.toList c j (by omega) hb
          rw [HN.out] at this
          rw [foundZ, this, if_pos (by omega)]
        rw [hb] at he
        clear hb
        go_wp2
        go_ret
        rw [HF.out]
        exact ⟨rfl, rfl⟩
      | false =>
        have HN2 : Hid (nextAt s.data.toList c (j + 1) = nextAt s.data.toList c k) := by
          show _ = _
          rw [← next_lt s.data.toList c j (by omega) hb, HN.out]
        rw [hb] at he
        clear hb
        go_wp2
        go_round
        case rel => exact ⟨j + 1, by omega, by omega, by go_num, HN2⟩
        case measure => simp [intOf]; omega
    · have HF : Hid (foundZ s.data.toList c k = -1) := by
        show _ = _
        have := next_end s.data.toList c j (by omega)
        rw [HN.out] at this
        rw [foundZ, if_neg (by omega)]
      go_wp2
      go_ret
      rw [HF.out]
      exact ⟨rfl, rfl⟩

theorem spaced_snoc (l : List UInt8) (c : UInt8) : spacedL (l ++ [c]) = spacedL l ++ [if c = 10 then 32 else c] := by simp [spacedL]

set_option maxHeartbeats 1000000 in
theorem rspaced_any (s : ByteArray) (w : World) (hs : s.size ≤ 4611686018427387904) :
    Calls Tryd.prog 30 #[.string s] w fun e w' => e = .returned (.string ⟨(spacedL s.data.toList).toArray⟩) ∧ w' = w := by
  have hl := ba_len s
  go_enter Tryd.func30, Tryd.ntmps30
  go_wp2
  go_loop [3, 4] (fun t i => ∃ (k : Nat) (acc : List UInt8), k ≤ s.size ∧ i = .int .i64 k ∧ t = .string ⟨acc.toArray⟩ ∧ Hid (acc = spacedL (s.data.toList.take k)) ∧ acc.length ≤ k) (fun _ i => s.size - (intOf i).toNat)
  case atStart => exact ⟨0, [], Nat.zero_le _, rfl, rfl, (by show _ = _; rfl), Nat.le_refl _⟩
  case round =>
    obtain ⟨k, acc, hk, rfl, rfl, HA, hal⟩ := hrel
    have hs1 := size_of acc
    by_cases hlt : k < s.size
    · have he := u8_eq s[k] 10
      have hx : (s.extract k (k + 1)) = ⟨[s[k]].toArray⟩ := by
        apply ByteArray.ext
        apply Array.ext'
        rw [Lib.extract_data, drop_cons s k hlt, show k + 1 - k = 1 by omega]
        rfl
      by_cases hb : s[k] = 10
      · have HA2 : Hid (acc ++ [32] = spacedL (s.data.toList.take (k + 1))) := by
          show _ = _
          rw [take_snoc s k hlt, spaced_snoc, if_pos hb, HA.out]
        have hb2 : ((s[k].toNat : Int) == 10) = true := by rw [hb]; rfl
        clear he hb hx
        go_wp2
        go_round
        case rel => exact ⟨k + 1, acc ++ [32], by omega, by go_num, congrArg Value.string (ba_app acc [32]), HA2, by simp; omega⟩
        case measure => simp [intOf]; omega
      · have HA2 : Hid (acc ++ [s[k]] = spacedL (s.data.toList.take (k + 1))) := by
          show _ = _
          rw [take_snoc s k hlt, spaced_snoc, if_neg hb, HA.out]
        have hb2 : ((s[k].toNat : Int) == 10) = false := by
          have : (s[k] == 10) = false := by rw [beq_eq_false_iff_ne]; exact hb
          rw [this] at he
          exact he
        have HX : Hid ((s.extract k (k + 1)) = ⟨[s[k]].toArray⟩) := hx
        have hxs : (s.extract k (k + 1)).size = 1 := by rw [hx]; rfl
        clear he hb hx
        go_wp2
        go_round
        case rel => exact ⟨k + 1, acc ++ [s[k]], by omega, by go_num, by rw [HX.out]; exact congrArg Value.string (ba_app acc [s[k]]), HA2, by simp; omega⟩
        case measure => simp [intOf]; omega
    · have HF : Hid (acc = spacedL s.data.toList) := by
        show _ = _
        rw [HA.out, List.take_of_length_le (by omega)]
      go_wp2
      go_ret
      rw [← HF.out]
      exact ⟨rfl, rfl⟩

end Go.Proofs.YtljcljipppjnoaaDoor
