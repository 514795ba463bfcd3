import Derived.Test.YtljcljipppjnoaaGreatDoorDevEach
namespace Go.Proofs.YtljcljipppjnoaaGreatDoor
open Go.RowKit Go.Shelf

theorem la_none (l : List UInt8) (cur : List UInt8) (h : ∀ x ∈ l, x ≠ 10) : linesAll cur l = [cur ++ l] := by
  induction l generalizing cur with
  | nil => simp [linesAll]
  | cons c r ih =>
    rw [linesAll, if_neg (h c (by simp)), ih _ (fun x hx => h x (by simp [hx]))]
    simp
theorem la_some (a b : List UInt8) (cur : List UInt8) (h : ∀ x ∈ a, x ≠ 10) : linesAll cur (a ++ 10 :: b) = (cur ++ a) :: linesAll [] b := by
  induction a generalizing cur with
  | nil => simp [linesAll]
  | cons c r ih =>
    rw [List.cons_append, linesAll, if_neg (h c (by simp)), ih _ (fun x hx => h x (by simp [hx]))]
    simp
theorem index_ten (l : List UInt8) : (Lib.index l [10] = -1 ∧ ∀ x ∈ l, x ≠ 10) ∨ ∃ a b, l = a ++ 10 :: b ∧ Lib.index l [10] = (a.length : Int) ∧ ∀ x ∈ a, x ≠ 10 := by
  induction l with
  | nil => exact Or.inl ⟨rfl, fun x hx => by cases hx⟩
  | cons c r ih =>
    by_cases hc : c = 10
    · subst hc
      exact Or.inr ⟨[], r, rfl, rfl, fun x hx => by cases hx⟩
    · have hp : ([10] : List UInt8).isPrefixOf (c :: r) = false := by
        have : ((10 : UInt8) == c) = false := by rw [beq_eq_false_iff_ne]; exact fun h => hc h.symm
        simp [List.isPrefixOf, this]
      rcases ih with ⟨h1, h2⟩ | ⟨a, b, h1, h2, h3⟩
      · refine Or.inl ⟨?_, fun x hx => ?_⟩
        · rw [Lib.index, hp, h1]; rfl
        · rcases List.mem_cons.1 hx with rfl | hx
          · exact hc
          · exact h2 x hx
      · refine Or.inr ⟨c :: a, b, by rw [h1]; rfl, ?_, fun x hx => ?_⟩
        · rw [Lib.index, hp, h2]
          have : ((a.length : Int) == -1) = false := by rw [beq_eq_false_iff_ne]; omega
          rw [this]
          simp
        · rcases List.mem_cons.1 hx with rfl | hx
          · exact hc
          · exact h3 x hx
theorem split_all (l : List UInt8) : Lib.splitK [10] 0 (Lib.count l [10]) l = linesAll [] l := by
  induction hm : l.length using Nat.strongRecOn generalizing l with
  | _ m ih =>
    rcases index_ten l with ⟨h1, h2⟩ | ⟨a, b, h1, h2, h3⟩
    · rw [Lib.count_miss h1, la_none l [] h2]
      rfl
    · have hd : l.drop (a.length + 1) = b := by rw [h1]; simp
      rw [Lib.count_hit (by decide) h2, List.length_singleton, hd, Nat.add_comm, Lib.splitK, h2]
      have : ((a.length : Int) == -1) = false := by rw [beq_eq_false_iff_ne]; omega
      rw [this]
      simp only [Bool.false_eq_true, if_false, Int.toNat_natCast, Nat.add_zero, List.length_singleton]
      rw [hd, ih b.length (by rw [← hm, h1]; simp; omega) b rfl]
      conv => rhs; rw [h1]
      rw [la_some a b [] h3]
      congr 1
      rw [h1]
      simp
end Go.Proofs.YtljcljipppjnoaaGreatDoor
