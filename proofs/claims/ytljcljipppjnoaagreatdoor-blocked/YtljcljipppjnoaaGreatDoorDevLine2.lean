import Derived.Test.YtljcljipppjnoaaGreatDoorDevLine
namespace Go.Proofs.YtljcljipppjnoaaGreatDoor
open Go.RowKit Go.Shelf

theorem begins_le (s p : ByteArray) (h : beginsS s p = true) : p.size ≤ s.size := by
  by_cases h2 : p.size ≤ s.size
  · exact h2
  · rw [begins_short s p h2] at h
    exact absurd h (by decide)
theorem ba_drop (s : ByteArray) (k : Nat) : s.extract k s.size = ⟨(s.data.toList.drop k).toArray⟩ := by
  apply ByteArray.ext
  apply Array.ext'
  rw [Lib.extract_data, List.take_of_length_le]
  rw [List.length_drop, Array.length_toList]
  exact Nat.le_refl _

set_option maxHeartbeats 1000000 in
theorem dcutin_any (s p : ByteArray) (w : World) :
    Calls Tryz.prog 210 #[.string s, .string p] w fun e w' => e = .returned (.tuple #[.string (if beginsS s p = true then ⟨(s.data.toList.drop p.size).toArray⟩ else s), .bool (beginsS s p)]) ∧ w' = w := by
  have c := fun W => Any.stringslite_HasPrefix { Tryz.lays99 with } s p W
  replace c : ∀ W, Calls Tryz.prog 209 #[.string s, .string p] W fun e w' => e = .returned (.bool (beginsS s p)) ∧ w' = W := c
  have hle := begins_le s p
  have HD : Hid (s.extract p.size s.size = ⟨(s.data.toList.drop p.size).toArray⟩) := ba_drop s p.size
  cases hb : beginsS s p with
  | true =>
    rw [hb] at c
    have h1 := hle hb
    clear hb hle
    go_enter Tryz.func210, Tryz.ntmps210
    go_wp2_with (go_at_call 209; refine (c _).mono ?_; rintro e w1 ⟨rfl, hw⟩; rw [hw]; clear hw)
    go_ret2
    refine ⟨?_, rfl⟩
    rw [← HD.out]
    rfl
  | false =>
    rw [hb] at c
    clear hb hle
    go_enter Tryz.func210, Tryz.ntmps210
    go_wp2_with (go_at_call 209; refine (c _).mono ?_; rintro e w1 ⟨rfl, hw⟩; rw [hw]; clear hw)
    go_ret2
    exact ⟨rfl, rfl⟩
theorem dcut_any (s p : ByteArray) (w : World) :
    Calls Tryz.prog 179 #[.string s, .string p] w fun e w' => e = .returned (.tuple #[.string (if beginsS s p = true then ⟨(s.data.toList.drop p.size).toArray⟩ else s), .bool (beginsS s p)]) ∧ w' = w := by
  have c := fun W => dcutin_any s p W
  generalize (if beginsS s p = true then (⟨(s.data.toList.drop p.size).toArray⟩ : ByteArray) else s) = t at c
  generalize beginsS s p = b at c
  go_enter Tryz.func179, Tryz.ntmps179
  go_wp2_with (go_at_call 210; refine (c _).mono ?_; rintro e w1 ⟨rfl, hw⟩; rw [hw]; clear hw)
  go_ret2
  exact ⟨rfl, rfl⟩

theorem item_eq (s : ByteArray) : itemS s = (beginsS s ⟨#[45]⟩ && endsB (s.data.toList.drop 1)) := by
  unfold itemS beginsS
  rw [list_of]
  cases hl : s.data.toList with
  | nil => rfl
  | cons c r =>
    by_cases h : c = 45
    · subst h
      cases r with
      | nil => rfl
      | cons d t =>
        simp only [List.isPrefixOf, List.drop_succ_cons, List.drop_zero, endsB, isBl]
        have e1 : ((45 : UInt8) :: d :: t == [45]) = false := by rw [beq_eq_false_iff_ne]; simp
        rw [e1]
        by_cases h32 : d = 32
        · subst h32; rfl
        · by_cases h9 : d = 9
          · subst h9; rfl
          · have a1 : ((32 : UInt8) == d) = false := by rw [beq_eq_false_iff_ne]; exact fun h' => h32 h'.symm
            have a2 : ((9 : UInt8) == d) = false := by rw [beq_eq_false_iff_ne]; exact fun h' => h9 h'.symm
            have a3 : (d == 32) = false := by rw [beq_eq_false_iff_ne]; exact h32
            have a4 : (d == 9) = false := by rw [beq_eq_false_iff_ne]; exact h9
            rw [a1, a2, a3, a4]
            rfl
    · have a1 : ((45 : UInt8) == c) = false := by rw [beq_eq_false_iff_ne]; exact fun h' => h h'.symm
      have e1 : (c :: r == [(45 : UInt8)]) = false := by rw [beq_eq_false_iff_ne]; intro h'; injection h' with h1 h2; exact h h1
      simp only [List.isPrefixOf, e1, a1, Bool.false_and, Bool.or_self]

theorem ditem_any (s : ByteArray) (w : World) :
    Calls Tryz.prog 150 #[.string s] w fun e w' => e = .returned (.bool (itemS s)) ∧ w' = w := by
  have c := fun W => dcut_any s ⟨#[45]⟩ W
  have HI : Hid (itemS s = (beginsS s ⟨#[45]⟩ && endsB (s.data.toList.drop 1))) := item_eq s
  have e1 : (⟨#[45]⟩ : ByteArray).size = 1 := rfl
  rw [e1] at c
  cases hb : beginsS s ⟨#[45]⟩ with
  | true =>
    rw [hb] at c HI
    simp only [if_true] at c
    have c2 := fun W => dends_any ⟨(s.data.toList.drop 1).toArray⟩ W
    have e2 : endsB (⟨(s.data.toList.drop 1).toArray⟩ : ByteArray).data.toList = endsB (s.data.toList.drop 1) := rfl
    rw [e2] at c2
    generalize endsB (s.data.toList.drop 1) = b2 at c2 HI
    generalize s.data.toList.drop 1 = t at c c2
    clear hb e1 e2
    go_enter Tryz.func150, Tryz.ntmps150
    go_wp2_with (first | (go_at_call 179; refine (c _).mono ?_; rintro e w1 ⟨rfl, hw⟩; rw [hw]; clear hw) | (go_at_call 178; refine (c2 _).mono ?_; rintro e w1 ⟨rfl, hw⟩; rw [hw]; clear hw))
    go_ret
    exact ⟨by rw [HI.out]; rfl, rfl⟩
  | false =>
    rw [hb] at c HI
    simp only [Bool.false_eq_true, if_false] at c
    clear hb e1
    go_enter Tryz.func150, Tryz.ntmps150
    go_wp2_with (go_at_call 179; refine (c _).mono ?_; rintro e w1 ⟨rfl, hw⟩; rw [hw]; clear hw)
    go_ret
    exact ⟨by rw [HI.out]; rfl, rfl⟩

theorem dfenceEnd_any (s : ByteArray) (w : World) (hs : s.size ≤ 4611686018427387904) :
    Calls Tryz.prog 151 #[.string s] w fun e w' => e = .returned (.bool (shuts s.data.toList)) ∧ Below w.heap.size w w' := by
  have c := fun W => dcut_any s ⟨#[96, 96, 96]⟩ W
  have HI : Hid (shuts s.data.toList = (beginsS s ⟨#[96, 96, 96]⟩ && blankL (s.data.toList.drop 3))) := by show _ = _; rfl
  have e1 : (⟨#[96, 96, 96]⟩ : ByteArray).size = 3 := rfl
  rw [e1] at c
  cases hb : beginsS s ⟨#[96, 96, 96]⟩ with
  | true =>
    rw [hb] at c HI
    simp only [if_true] at c
    have c2 := fun W => dblank_any ⟨(s.data.toList.drop 3).toArray⟩ W (by rw [size_of, List.length_drop, Array.length_toList]; have : s.data.size = s.size := rfl; omega)
    have e2 : blankS ⟨(s.data.toList.drop 3).toArray⟩ = blankL (s.data.toList.drop 3) := rfl
    rw [e2] at c2
    generalize blankL (s.data.toList.drop 3) = b2 at c2 HI
    generalize s.data.toList.drop 3 = t at c c2
    clear hb e1 e2
    go_enter Tryz.func151, Tryz.ntmps151
    go_wp2_with (first | (go_at_call 179; refine (c _).mono ?_; rintro e w1 ⟨rfl, hw⟩; rw [hw]; clear hw) | (go_at_call 127; refine (c2 _).mono ?_; rintro e w1 ⟨rfl, b1⟩))
    go_ret
    exact ⟨by rw [HI.out]; rfl, b1⟩
  | false =>
    rw [hb] at c HI
    simp only [Bool.false_eq_true, if_false] at c
    clear hb e1
    go_enter Tryz.func151, Tryz.ntmps151
    go_wp2_with (go_at_call 179; refine (c _).mono ?_; rintro e w1 ⟨rfl, hw⟩; rw [hw]; clear hw)
    go_ret
    exact ⟨by rw [HI.out]; rfl, Below.refl _ _⟩

theorem dunm_any (s : ByteArray) (w : World) (h : beginsS s ⟨#[45]⟩ = true) (hs : s.size ≤ 4611686018427387904) :
    Calls Tryz.prog 183 #[.string s] w fun e w' => e = .returned (.string ⟨(s.data.toList.drop 2).toArray⟩) ∧ w' = w := by
  have c := fun W => sh_trimPrefix s ⟨#[45]⟩ W
  rw [trimPrefix_at s _ h] at c
  have e1 : (⟨#[45]⟩ : ByteArray).size = 1 := rfl
  rw [e1] at c
  obtain ⟨t, ht⟩ : ∃ t : ByteArray, ⟨(s.data.toList.drop 1).toArray⟩ = t := ⟨_, rfl⟩
  rw [ht] at c
  have hts : t.size ≤ 4611686018427387904 := by
    rw [← ht, size_of, List.length_drop, Array.length_toList]
    have : s.data.size = s.size := rfl
    omega
  have ht2 : s.data.toList.drop 2 = t.data.toList.drop 1 := by
    rw [← ht]
    simp
  rw [ht2]
  have HD : Hid (t.extract 1 t.size = ⟨(t.data.toList.drop 1).toArray⟩) := ba_drop t 1
  clear h e1 ht ht2
  by_cases h0 : 0 < t.size
  · have hm : min (1 : Int) (t.size : Int) = 1 := by omega
    go_enter Tryz.func183, Tryz.ntmps183
    go_wp2_with (go_at_call 181; refine (c _).mono ?_; rintro e w1 ⟨rfl, hw⟩; rw [hw]; clear hw)
    go_ret
    rw [← HD.out]
    exact ⟨rfl, rfl⟩
  · have hm : t.size = 0 := by omega
    have HN : Hid ((⟨(t.data.toList.drop 1).toArray⟩ : ByteArray) = t) := by
      show _ = _
      have : t.data.toList = [] := by
        rw [← List.length_eq_zero_iff, Array.length_toList]
        exact hm
      apply ByteArray.ext
      apply Array.ext'
      rw [this]
      rfl
    have HE : Hid (t.extract (min (1 : Int) 0).toNat 0 = t) := by
      show _ = _
      have : t.data.toList = [] := by
        rw [← List.length_eq_zero_iff, Array.length_toList]
        exact hm
      apply ByteArray.ext
      apply Array.ext'
      rw [Lib.extract_data, this]
      rfl
    go_enter Tryz.func183, Tryz.ntmps183
    go_wp2_with (go_at_call 181; refine (c _).mono ?_; rintro e w1 ⟨rfl, hw⟩; rw [hw]; clear hw)
    go_ret
    rw [HN.out]
    exact ⟨congrArg (fun x => Ending.returned (.string x)) HE.out, rfl⟩

end Go.Proofs.YtljcljipppjnoaaGreatDoor
