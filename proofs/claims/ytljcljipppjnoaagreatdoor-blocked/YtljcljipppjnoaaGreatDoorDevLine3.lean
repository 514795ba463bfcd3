import Derived.Test.YtljcljipppjnoaaGreatDoorDevLine2
namespace Go.Proofs.YtljcljipppjnoaaGreatDoor
open Go.RowKit Go.Shelf

theorem hashes_drop (l : List UInt8) : l.dropWhile (· == 35) = l.drop (hashes l) := by
  unfold hashes
  induction l with
  | nil => rfl
  | cons c r ih =>
    cases h : (c == 35) with
    | true => rw [List.dropWhile_cons, List.takeWhile_cons, h]; simp [ih]
    | false => rw [List.dropWhile_cons, List.takeWhile_cons, h]; rfl
theorem ends_at (l : List UInt8) (k : Nat) : endsB (l.drop k) = !decide ((l[k]?).map isBl = some false) := by
  by_cases h : k < l.length
  · have e : (l[k]?).map isBl = some (isBl l[k]) := by rw [List.getElem?_eq_getElem h]; rfl
    rw [List.drop_eq_getElem_cons h]
    simp only [e, endsB]
    generalize isBl l[k] = b
    cases b <;> rfl
  · rw [List.drop_eq_nil_iff.2 (by omega), List.getElem?_eq_none (by omega)]
    rfl

set_option maxHeartbeats 1000000 in
theorem dlevel_any (s : ByteArray) (w : World) (hs : s.size ≤ 4611686018427387904) :
    Calls Tryz.prog 148 #[.string s] w fun e w' => e = .returned (.int .i64 (levelS s)) ∧ w' = w := by
  have c := fun W => sh_trimLeft s W
  have e1 : Lib.trimLeftB s.data.toList 35 = s.data.toList.drop (hashes s.data.toList) := hashes_drop _
  rw [e1] at c
  have c2 := fun W => dends_any ⟨(s.data.toList.drop (hashes s.data.toList)).toArray⟩ W
  have e2 : endsB (⟨(s.data.toList.drop (hashes s.data.toList)).toArray⟩ : ByteArray).data.toList = endsB (s.data.toList.drop (hashes s.data.toList)) := rfl
  rw [e2] at c2
  have hk : hashes s.data.toList ≤ s.size := by
    have h : hashes s.data.toList ≤ s.data.toList.length := (List.takeWhile_sublist (l := s.data.toList) _).length_le
    rw [Array.length_toList] at h
    exact h
  have hz : (⟨(s.data.toList.drop (hashes s.data.toList)).toArray⟩ : ByteArray).size = s.size - hashes s.data.toList := by
    rw [size_of, List.length_drop, Array.length_toList]
    rfl
  have HL : Hid (levelS s = if hashes s.data.toList < 1 ∨ 3 < hashes s.data.toList ∨ endsB (s.data.toList.drop (hashes s.data.toList)) = false then 0 else hashes s.data.toList) := by
    show _ = _
    unfold levelS
    rw [ends_at]
    congr 1
    simp
  generalize hb : endsB (s.data.toList.drop (hashes s.data.toList)) = b at c2 HL
  generalize (⟨(s.data.toList.drop (hashes s.data.toList)).toArray⟩ : ByteArray) = t at c c2 hz
  generalize hashes s.data.toList = n at hk hz HL
  clear e1 e2 hb
  by_cases h3 : 3 < n
  · have HR : Hid (levelS s = 0) := by show _ = _; rw [HL.out, if_pos (Or.inr (Or.inl h3))]
    go_enter Tryz.func148, Tryz.ntmps148
    go_wp2_with (go_at_call 177; refine (c _).mono ?_; rintro e w1 ⟨rfl, hw⟩; rw [hw]; clear hw)
    go_ret
    rw [HR.out]
    exact ⟨rfl, rfl⟩
  · cases b with
    | false =>
      have HR : Hid (levelS s = 0) := by show _ = _; rw [HL.out, if_pos (Or.inr (Or.inr rfl))]
      go_enter Tryz.func148, Tryz.ntmps148
      go_wp2_with (first | (go_at_call 177; refine (c _).mono ?_; rintro e w1 ⟨rfl, hw⟩; rw [hw]; clear hw) | (go_at_call 178; refine (c2 _).mono ?_; rintro e w1 ⟨rfl, hw⟩; rw [hw]; clear hw))
      go_ret
      rw [HR.out]
      exact ⟨rfl, rfl⟩
    | true =>
      have HR : Hid (levelS s = n) := by
        show _ = _
        rw [HL.out]
        by_cases h1 : n < 1
        · rw [if_pos (Or.inl h1)]; omega
        · rw [if_neg (by intro h; rcases h with h | h | h; exact h1 h; exact h3 h; cases h)]
      go_enter Tryz.func148, Tryz.ntmps148
      go_wp2_with (first | (go_at_call 177; refine (c _).mono ?_; rintro e w1 ⟨rfl, hw⟩; rw [hw]; clear hw) | (go_at_call 178; refine (c2 _).mono ?_; rintro e w1 ⟨rfl, hw⟩; rw [hw]; clear hw))
      go_ret
      rw [HR.out]
      exact ⟨by go_num, rfl⟩

/-- What begins, by its kind. -/
def kindOf (sv : Int) : Int := if sv = 2 then 5 else if sv = 3 then 1 else if sv = 4 then 2 else if sv = 5 then 3 else 0

set_option maxHeartbeats 1000000 in
theorem dbegins_any (s : ByteArray) (depth : Int) (w : World) (hs : s.size ≤ 4611686018427387904) :
    Calls Tryz.prog 128 #[.string s, .int .i64 depth] w fun e w' => e = .returned (.int .i64 (kindOf (startsS s depth))) ∧ w' = w := by
  have c1 := fun W => dfence_any s W
  have c2 := fun W => dlevel_any s W hs
  have c3 := fun W => dquoted_any s W
  have c4 := fun W => ditem_any s W
  have HS : Hid (startsS s depth = if beginsS s ⟨#[96, 96, 96]⟩ = true then 2 else if 0 < levelS s then 3 else if beginsS s ⟨#[62]⟩ = true ∧ depth < 3 then 4 else if itemS s = true ∧ depth < 3 then 5 else 0) := by show _ = _; rfl
  generalize beginsS s ⟨#[96, 96, 96]⟩ = b1 at c1 HS
  generalize levelS s = k at c2 HS
  generalize beginsS s ⟨#[62]⟩ = b3 at c3 HS
  generalize itemS s = b4 at c4 HS
  cases b1 with
  | true =>
    have HR : Hid (kindOf (startsS s depth) = 5) := by show _ = _; rw [HS.out]; rfl
    clear HS
    go_enter Tryz.func128, Tryz.ntmps128
    go_wp2_with (go_at_call 147; refine (c1 _).mono ?_; rintro e w1 ⟨rfl, hw⟩; rw [hw]; clear hw)
    go_ret
    rw [HR.out]
    exact ⟨rfl, rfl⟩
  | false =>
    by_cases hk : 0 < k
    · have HR : Hid (kindOf (startsS s depth) = 1) := by show _ = _; rw [HS.out, if_neg (by decide), if_pos hk]; rfl
      clear HS
      go_enter Tryz.func128, Tryz.ntmps128
      go_wp2_with (first | (go_at_call 147; refine (c1 _).mono ?_; rintro e w1 ⟨rfl, hw⟩; rw [hw]; clear hw) | (go_at_call 148; refine (c2 _).mono ?_; rintro e w1 ⟨rfl, hw⟩; rw [hw]; clear hw))
      go_ret
      rw [HR.out]
      exact ⟨rfl, rfl⟩
    · rw [if_neg (by decide), if_neg hk] at HS
      by_cases hd : depth < 3
      · cases b3 with
        | true =>
          have HR : Hid (kindOf (startsS s depth) = 2) := by show _ = _; rw [HS.out, if_pos ⟨rfl, hd⟩]; rfl
          clear HS
          go_enter Tryz.func128, Tryz.ntmps128
          go_wp2_with (first | (go_at_call 147; refine (c1 _).mono ?_; rintro e w1 ⟨rfl, hw⟩; rw [hw]; clear hw) | (go_at_call 148; refine (c2 _).mono ?_; rintro e w1 ⟨rfl, hw⟩; rw [hw]; clear hw) | (go_at_call 149; refine (c3 _).mono ?_; rintro e w1 ⟨rfl, hw⟩; rw [hw]; clear hw))
          go_ret
          rw [HR.out]
          exact ⟨rfl, rfl⟩
        | false =>
          rw [if_neg (by simp)] at HS
          cases b4 with
          | true =>
            have HR : Hid (kindOf (startsS s depth) = 3) := by show _ = _; rw [HS.out, if_pos ⟨rfl, hd⟩]; rfl
            clear HS
            go_enter Tryz.func128, Tryz.ntmps128
            go_wp2_with (first | (go_at_call 147; refine (c1 _).mono ?_; rintro e w1 ⟨rfl, hw⟩; rw [hw]; clear hw) | (go_at_call 148; refine (c2 _).mono ?_; rintro e w1 ⟨rfl, hw⟩; rw [hw]; clear hw) | (go_at_call 149; refine (c3 _).mono ?_; rintro e w1 ⟨rfl, hw⟩; rw [hw]; clear hw) | (go_at_call 150; refine (c4 _).mono ?_; rintro e w1 ⟨rfl, hw⟩; rw [hw]; clear hw))
            go_ret
            rw [HR.out]
            exact ⟨rfl, rfl⟩
          | false =>
            have HR : Hid (kindOf (startsS s depth) = 0) := by show _ = _; rw [HS.out, if_neg (by simp)]; rfl
            clear HS
            go_enter Tryz.func128, Tryz.ntmps128
            go_wp2_with (first | (go_at_call 147; refine (c1 _).mono ?_; rintro e w1 ⟨rfl, hw⟩; rw [hw]; clear hw) | (go_at_call 148; refine (c2 _).mono ?_; rintro e w1 ⟨rfl, hw⟩; rw [hw]; clear hw) | (go_at_call 149; refine (c3 _).mono ?_; rintro e w1 ⟨rfl, hw⟩; rw [hw]; clear hw) | (go_at_call 150; refine (c4 _).mono ?_; rintro e w1 ⟨rfl, hw⟩; rw [hw]; clear hw))
            go_ret
            rw [HR.out]
            exact ⟨rfl, rfl⟩
      · have HR : Hid (kindOf (startsS s depth) = 0) := by show _ = _; rw [HS.out, if_neg (fun h => hd h.2), if_neg (fun h => hd h.2)]; rfl
        clear HS
        go_enter Tryz.func128, Tryz.ntmps128
        go_wp2_with (first | (go_at_call 147; refine (c1 _).mono ?_; rintro e w1 ⟨rfl, hw⟩; rw [hw]; clear hw) | (go_at_call 148; refine (c2 _).mono ?_; rintro e w1 ⟨rfl, hw⟩; rw [hw]; clear hw))
        go_ret
        rw [HR.out]
        exact ⟨rfl, rfl⟩

end Go.Proofs.YtljcljipppjnoaaGreatDoor
