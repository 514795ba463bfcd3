import Derived.Test.YtljcljipppjnoaaGreatDoorRefTxt
namespace Go.Proofs.YtljcljipppjnoaaGreatDoor
open Go.RowKit

def hashes (l : List UInt8) : Nat := (l.takeWhile (· == 35)).length
/-- The level of a heading; 0: it is none. -/
def levelS (s : ByteArray) : Nat :=
  if hashes s.data.toList < 1 ∨ 3 < hashes s.data.toList ∨ (s.data.toList[hashes s.data.toList]?).map isBl = some false then 0 else hashes s.data.toList

theorem hashes_at (s : ByteArray) (k : Nat) (hk : k ≤ s.size) (ha : (s.data.toList.take k).all (· == 35) = true) (hn : ∀ h : k < s.size, (s[k] == 35) = false) : hashes s.data.toList = k := by
  unfold hashes
  have hl : s.data.toList.length = s.size := by rw [Array.length_toList]; rfl
  rw [← List.take_append_drop k s.data.toList, List.takeWhile_append_of_pos (by simpa using ha)]
  by_cases h : k < s.size
  · rw [drop_cons s k h, List.takeWhile_cons, if_neg (by simpa using hn h)]
    simp
    omega
  · rw [List.drop_eq_nil_iff.2 (by omega)]
    simp
    omega

theorem at_some (s : ByteArray) (k : Nat) (h : k < s.size) : s.data.toList[k]? = some s[k] := by
  rw [List.getElem?_eq_getElem (by rw [Array.length_toList]; exact h)]
  rfl
theorem at_none (s : ByteArray) (k : Nat) (h : ¬ k < s.size) : s.data.toList[k]? = none := by
  rw [List.getElem?_eq_none_iff, Array.length_toList]
  show s.size ≤ k
  omega

set_option maxHeartbeats 1000000 in
theorem rlevel_any (s : ByteArray) (w : World) (hs : s.size ≤ 4611686018427387904) :
    Calls Tryz.prog 39 #[.string s] w fun e w' => e = .returned (.int .i64 (levelS s)) ∧ w' = w := by
  go_enter Tryz.func39, Tryz.ntmps39
  go_wp2
  go_loop [3] (fun i => ∃ k : Nat, k ≤ s.size ∧ i = .int .i64 k ∧ Hid ((s.data.toList.take k).all (· == 35) = true)) (fun i => s.size - (intOf i).toNat)
  case atStart => exact ⟨0, Nat.zero_le _, rfl, (by show _ = _; simp)⟩
  case round =>
    obtain ⟨k, hk, rfl, ha⟩ := hrel
    by_cases hgo : ∃ h : k < s.size, (s[k] == 35) = true
    · obtain ⟨hlt, hb⟩ := hgo
      have k1 : ((s[k].toNat : Int) == 35) = true := (u8_eq s[k] 35).trans hb
      have HB : Hid ((s[k] == 35) = true) := hb
      clear hb
      go_wp2
      go_round
      case rel =>
        refine ⟨k + 1, by omega, by go_num, ?_⟩
        show _ = _
        rw [take_snoc s k hlt, List.all_append, ha.out]
        simpa using HB.out
      case measure => simp [intOf]; omega
    · have HH : Hid (hashes s.data.toList = k) := hashes_at s k hk ha.out (fun h => Bool.eq_false_iff.2 (fun hh => hgo ⟨h, hh⟩))
      by_cases hlt : k < s.size
      · have k1 : ((s[k].toNat : Int) == 35) = false := (u8_eq s[k] 35).trans (Bool.eq_false_iff.2 (fun hh => hgo ⟨hlt, hh⟩))
        clear hgo
        have hb := u8_bl s[k]
        by_cases h1 : k < 1
        · have HL : Hid (levelS s = 0) := by show _ = _; unfold levelS; rw [HH.out, if_pos (Or.inl h1)]
          clear hb
          go_wp2
          go_ret
          exact ⟨by rw [HL.out]; rfl, rfl⟩
        by_cases h3 : 3 < k
        · have HL : Hid (levelS s = 0) := by show _ = _; unfold levelS; rw [HH.out, if_pos (Or.inr (Or.inl h3))]
          clear hb
          go_wp2
          go_ret
          exact ⟨by rw [HL.out]; rfl, rfl⟩
        cases hbl : isBl s[k] with
        | true =>
          have HL : Hid (levelS s = k) := by
            show _ = _
            unfold levelS
            rw [HH.out, at_some s k hlt, if_neg]
            simp [hbl]
            omega
          rw [hbl] at hb
          clear hbl
          by_cases j1 : ((s[k].toNat : Int) == 32) = true
          · have j1' : ((s[k].toNat : Int) != 32) = false := by simpa using j1
            clear hb
            go_wp2
            go_ret
            exact ⟨by rw [HL.out]; rfl, rfl⟩
          · have j1n : ((s[k].toNat : Int) == 32) = false := by simpa using j1
            have j2 : ((s[k].toNat : Int) == 9) = true := by rw [j1n] at hb; simpa using hb.symm
            have j1' : ((s[k].toNat : Int) != 32) = true := by simpa using j1n
            have j2' : ((s[k].toNat : Int) != 9) = false := by simpa using j2
            clear hb j1
            go_wp2
            go_ret
            exact ⟨by rw [HL.out]; rfl, rfl⟩
        | false =>
          have HL : Hid (levelS s = 0) := by
            show _ = _
            unfold levelS
            rw [HH.out, at_some s k hlt, if_pos]
            simp [hbl]
          rw [hbl] at hb
          have j0 : ((s[k].toNat : Int) == 32) = false ∧ ((s[k].toNat : Int) == 9) = false := by simpa using hb.symm
          have j1' : ((s[k].toNat : Int) != 32) = true := by simpa using j0.1
          have j2' : ((s[k].toNat : Int) != 9) = true := by simpa using j0.2
          clear hbl hb j0
          go_wp2
          go_ret
          exact ⟨by rw [HL.out]; rfl, rfl⟩
      · clear hgo
        by_cases h1 : k < 1
        · have HL : Hid (levelS s = 0) := by show _ = _; unfold levelS; rw [HH.out, if_pos (Or.inl h1)]
          go_wp2
          go_ret
          exact ⟨by rw [HL.out]; rfl, rfl⟩
        by_cases h3 : 3 < k
        · have HL : Hid (levelS s = 0) := by show _ = _; unfold levelS; rw [HH.out, if_pos (Or.inr (Or.inl h3))]
          go_wp2
          go_ret
          exact ⟨by rw [HL.out]; rfl, rfl⟩
        · have HL : Hid (levelS s = k) := by
            show _ = _
            unfold levelS
            rw [HH.out, at_none s k hlt, if_neg]
            simp
            omega
          go_wp2
          go_ret
          exact ⟨by rw [HL.out]; rfl, rfl⟩

/-- What begins with a line, at a depth: 2 to 5; 0: nothing. -/
def startsS (s : ByteArray) (depth : Int) : Int :=
  if beginsS s ⟨#[96, 96, 96]⟩ = true then 2
  else if 0 < levelS s then 3
  else if beginsS s ⟨#[62]⟩ = true ∧ depth < 3 then 4
  else if itemS s = true ∧ depth < 3 then 5
  else 0

set_option maxHeartbeats 1000000 in
theorem rstarts_any (s : ByteArray) (depth : Int) (w : World) (hs : s.size ≤ 4611686018427387904) :
    Calls Tryz.prog 37 #[.string s, .int .i64 depth] w fun e w' => e = .returned (.int .i64 (startsS s depth)) ∧ w' = w := by
  have c1 := fun W => begins_any s ⟨#[96, 96, 96]⟩ W
  have c2 := fun W => rlevel_any s W hs
  have c3 := fun W => begins_any s ⟨#[62]⟩ W
  have c4 := fun W => ritem_any s W
  obtain ⟨r, hS⟩ : ∃ r, startsS s depth = r := ⟨_, rfl⟩
  rw [hS]
  unfold startsS at hS
  generalize beginsS s ⟨#[96, 96, 96]⟩ = b1 at c1 hS
  generalize beginsS s ⟨#[62]⟩ = b3 at c3 hS
  generalize itemS s = b4 at c4 hS
  generalize levelS s = n at c2 hS
  have HS : Hid _ := hS
  clear hS
  by_cases h2 : 0 < n
  · have g2 : decide ((0 : Int) < (n : Int)) = true := by simp; omega
    cases b1
    all_goals
      go_enter Tryz.func37, Tryz.ntmps37
      go_wp2_with (first | (go_at_call_of 64 (Value.string { data := #[96, 96, 96] }); refine (c1 _).mono ?_; rintro e w' ⟨rfl, rfl⟩) | (go_at_call_of 64 (Value.string { data := #[62] }); refine (c3 _).mono ?_; rintro e w' ⟨rfl, rfl⟩) | (go_at_call 39; refine (c2 _).mono ?_; rintro e w' ⟨rfl, rfl⟩) | (go_at_call 65; refine (c4 _).mono ?_; rintro e w' ⟨rfl, rfl⟩))
      go_ret
      exact ⟨by rw [← HS.out]; simp [h2], rfl⟩
  · have g2 : n = 0 := by omega
    subst g2
    by_cases hd : depth < 3
    all_goals
      cases b1
      all_goals
        cases b3
        all_goals
          cases b4
          all_goals
            go_enter Tryz.func37, Tryz.ntmps37
            go_wp2_with (first | (go_at_call_of 64 (Value.string { data := #[96, 96, 96] }); refine (c1 _).mono ?_; rintro e w' ⟨rfl, rfl⟩) | (go_at_call_of 64 (Value.string { data := #[62] }); refine (c3 _).mono ?_; rintro e w' ⟨rfl, rfl⟩) | (go_at_call 39; refine (c2 _).mono ?_; rintro e w' ⟨rfl, rfl⟩) | (go_at_call 65; refine (c4 _).mono ?_; rintro e w' ⟨rfl, rfl⟩))
            go_ret
            exact ⟨by rw [← HS.out]; first | (simp [hd]; done) | simp [Int.not_lt.2 hd], rfl⟩

end Go.Proofs.YtljcljipppjnoaaGreatDoor
