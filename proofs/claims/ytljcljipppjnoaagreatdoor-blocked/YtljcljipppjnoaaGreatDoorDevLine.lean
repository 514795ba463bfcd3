import Derived.Test.YtljcljipppjnoaaGreatDoorDevShelf
namespace Go.Proofs.YtljcljipppjnoaaGreatDoor
open Go.RowKit Go.Shelf

theorem dtrim_any (s : ByteArray) (w : World) (hs : s.size ≤ 4611686018427387904) :
    Calls Tryz.prog 146 #[.string s] w fun e w' => e = .returned (.string (trimS s)) ∧ Below w.heap.size w w' := by
  have c := sh_trim s w (by omega)
  have HT : Hid (trimS s = ⟨(Lib.trimS s.data.toList [32, 9]).toArray⟩) := by show _ = _; rw [trim_eq]; rfl
  generalize Lib.trimS s.data.toList [32, 9] = t at c HT
  go_enter Tryz.func146, Tryz.ntmps146
  go_wp2_with (go_at_call 175; refine c.mono ?_; rintro e w1 ⟨rfl, b1⟩)
  go_ret
  rw [HT.out]
  exact ⟨rfl, b1⟩

theorem blankS_trim (s : ByteArray) : (trimS s).toList.isEmpty = blankS s := by
  rw [list_of]
  have := trim_blank s.data.toList
  have e : blankS s = blankL s.data.toList := rfl
  rw [e]
  show (trimL s.data.toList).isEmpty = _
  rw [Bool.eq_iff_iff, List.isEmpty_iff, this]

theorem dblank_any (s : ByteArray) (w : World) (hs : s.size ≤ 4611686018427387904) :
    Calls Tryz.prog 127 #[.string s] w fun e w' => e = .returned (.bool (blankS s)) ∧ Below w.heap.size w w' := by
  have c := dtrim_any s w hs
  have HT : Hid ((trimS s).toList.isEmpty = blankS s) := blankS_trim s
  generalize trimS s = t at c HT
  go_enter Tryz.func127, Tryz.ntmps127
  go_wp2_with (go_at_call 146; refine c.mono ?_; rintro e w1 ⟨rfl, b1⟩)
  go_ret
  exact ⟨by rw [← HT.out]; rfl, b1⟩

theorem dfence_any (s : ByteArray) (w : World) :
    Calls Tryz.prog 147 #[.string s] w fun e w' => e = .returned (.bool (beginsS s ⟨#[96, 96, 96]⟩)) ∧ w' = w := by
  have c := sh_prefix s ⟨#[96, 96, 96]⟩ w
  generalize beginsS s ⟨#[96, 96, 96]⟩ = b at c
  go_enter Tryz.func147, Tryz.ntmps147
  go_wp2_with (go_at_call 176; refine c.mono ?_; rintro e w1 ⟨rfl, hw⟩; rw [hw]; clear hw)
  go_ret
  exact ⟨rfl, rfl⟩
theorem dquoted_any (s : ByteArray) (w : World) :
    Calls Tryz.prog 149 #[.string s] w fun e w' => e = .returned (.bool (beginsS s ⟨#[62]⟩)) ∧ w' = w := by
  have c := sh_prefix s ⟨#[62]⟩ w
  generalize beginsS s ⟨#[62]⟩ = b at c
  go_enter Tryz.func149, Tryz.ntmps149
  go_wp2_with (go_at_call 176; refine c.mono ?_; rintro e w1 ⟨rfl, hw⟩; rw [hw]; clear hw)
  go_ret
  exact ⟨rfl, rfl⟩
theorem dind_any (s : ByteArray) (w : World) :
    Calls Tryz.prog 184 #[.string s] w fun e w' => e = .returned (.bool (beginsS s ⟨#[32, 32]⟩)) ∧ w' = w := by
  have c := sh_prefix s ⟨#[32, 32]⟩ w
  generalize beginsS s ⟨#[32, 32]⟩ = b at c
  go_enter Tryz.func184, Tryz.ntmps184
  go_wp2_with (go_at_call 176; refine c.mono ?_; rintro e w1 ⟨rfl, hw⟩; rw [hw]; clear hw)
  go_ret
  exact ⟨rfl, rfl⟩

theorem trimPrefix_at (s p : ByteArray) (h : beginsS s p = true) : Lib.trimPrefix s.data.toList p.data.toList = s.data.toList.drop p.size := by
  unfold Lib.trimPrefix
  rw [if_pos (show Lib.hasPrefix s.data.toList p.data.toList = true from h), Lib.size_eq]
theorem trimPrefix_no (s p : ByteArray) (h : beginsS s p = false) : Lib.trimPrefix s.data.toList p.data.toList = s.data.toList := by
  unfold Lib.trimPrefix
  have h' : Lib.hasPrefix s.data.toList p.data.toList = false := h
  rw [if_neg (by rw [h']; simp)]

theorem dunind_any (s : ByteArray) (w : World) (h : beginsS s ⟨#[32, 32]⟩ = true) :
    Calls Tryz.prog 185 #[.string s] w fun e w' => e = .returned (.string ⟨(s.data.toList.drop 2).toArray⟩) ∧ w' = w := by
  have c := sh_trimPrefix s ⟨#[32, 32]⟩ w
  rw [trimPrefix_at s _ h] at c
  have e2 : (⟨#[32, 32]⟩ : ByteArray).size = 2 := rfl
  rw [e2] at c
  generalize s.data.toList.drop 2 = t at c
  clear h e2
  go_enter Tryz.func185, Tryz.ntmps185
  go_wp2_with (go_at_call 181; refine c.mono ?_; rintro e w1 ⟨rfl, hw⟩; rw [hw]; clear hw)
  go_ret
  exact ⟨rfl, rfl⟩

theorem unq1_eq (l : List UInt8) : Lib.trimPrefix l [32] = unq1 l := by
  cases l with
  | nil => rfl
  | cons c r =>
    unfold Lib.trimPrefix Lib.hasPrefix unq1
    simp only [List.isPrefixOf, Bool.and_true]
    by_cases h : c = 32
    · subst h; rfl
    · have h1 : ((32 : UInt8) == c) = false := by rw [beq_eq_false_iff_ne]; exact fun h' => h h'.symm
      have h2 : (c == 32) = false := by rw [beq_eq_false_iff_ne]; exact h
      rw [h1, h2]
      rfl
theorem dunq_any (s : ByteArray) (w : World) (h : beginsS s ⟨#[62]⟩ = true) :
    Calls Tryz.prog 156 #[.string s] w fun e w' => e = .returned (.string ⟨(unq s.data.toList).toArray⟩) ∧ w' = w := by
  have c := sh_trimPrefix s ⟨#[62]⟩ w
  rw [trimPrefix_at s _ h] at c
  have e2 : (⟨#[62]⟩ : ByteArray).size = 1 := rfl
  rw [e2] at c
  have c2 := sh_trimPrefix ⟨(s.data.toList.drop 1).toArray⟩ ⟨#[32]⟩ w
  have e3 : Lib.trimPrefix (⟨(s.data.toList.drop 1).toArray⟩ : ByteArray).data.toList (⟨#[32]⟩ : ByteArray).data.toList = unq s.data.toList := unq1_eq _
  rw [e3] at c2
  generalize s.data.toList.drop 1 = t at c c2
  generalize unq s.data.toList = t2 at c2
  clear h e2 e3
  go_enter Tryz.func156, Tryz.ntmps156
  go_wp2_with (first | (go_at_call_of 181 (Value.string { data := #[62] }); refine c.mono ?_; rintro e w1 ⟨rfl, hw⟩; rw [hw]; clear hw) | (go_at_call_of 181 (Value.string { data := #[32] }); refine c2.mono ?_; rintro e w1 ⟨rfl, hw⟩; rw [hw]; clear hw))
  go_ret
  exact ⟨rfl, rfl⟩

def endsB : List UInt8 → Bool
  | [] => true
  | c :: _ => isBl c
theorem dends_any (s : ByteArray) (w : World) :
    Calls Tryz.prog 178 #[.string s] w fun e w' => e = .returned (.bool (endsB s.data.toList)) ∧ w' = w := by
  by_cases h0 : 0 < s.size
  · have HB : Hid (endsB s.data.toList = (((s[0].toNat : Int) == 32) || ((s[0].toNat : Int) == 9))) := by
      show _ = _
      rw [ext_tail s h0, ← u8_bl]
      rfl
    have hne : (s.toList == []) = false := by
      rw [list_of, ext_tail s h0]
      rfl
    cases k1 : ((s[0].toNat : Int) == 32) with
    | true =>
      rw [k1] at HB
      go_enter Tryz.func178, Tryz.ntmps178
      go_wp2
      go_ret
      exact ⟨by rw [HB.out]; rfl, rfl⟩
    | false =>
      rw [k1] at HB
      generalize hb : ((s[0].toNat : Int) == 9) = b at HB
      go_enter Tryz.func178, Tryz.ntmps178
      go_wp2
      go_ret
      exact ⟨by rw [HB.out]; rfl, rfl⟩
  · have hnil : s.data.toList = [] := by
      rw [← List.length_eq_zero_iff, Array.length_toList]
      show s.size = 0
      omega
    have hne : (s.toList == []) = true := by rw [list_of, hnil]; rfl
    have HB : Hid (endsB s.data.toList = true) := by show _ = _; rw [hnil]; rfl
    clear hnil
    go_enter Tryz.func178, Tryz.ntmps178
    go_wp2
    go_ret
    exact ⟨by rw [HB.out]; rfl, rfl⟩

end Go.Proofs.YtljcljipppjnoaaGreatDoor
