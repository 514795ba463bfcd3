import Derived.Test.YtljcljipppjnoaaGreatDoorDevItem
namespace Go.Proofs.YtljcljipppjnoaaGreatDoor
open Go.RowKit

theorem behind_shift (ls : List (List UInt8)) (k n : Nat) : behindS ls (k + n) = k + behindS (ls.drop k) n := by
  unfold behindS
  rw [List.drop_drop]
  omega
theorem more_shift (ls : List (List UInt8)) (k n : Nat) (hk : k ≤ ls.length) (hn : n ≤ (ls.drop k).length) : (moreAt ls (k + n)).1 = (moreAt (ls.drop k) n).1 ∧ (moreAt ls (k + n)).2 = k + (moreAt (ls.drop k) n).2 := by
  induction hm : (ls.drop k).length - n using Nat.strongRecOn generalizing n with
  | _ m ih =>
    have hl : (ls.drop k).length = ls.length - k := List.length_drop
    have hb := behind_shift ls k n
    have hge := behind_ge (ls.drop k) n
    by_cases h : behindS (ls.drop k) n < (ls.drop k).length
    · have hg : (ls.drop k)[behindS (ls.drop k) n] = ls[k + behindS (ls.drop k) n]'(by omega) := List.getElem_drop
      cases h2 : two (ls.drop k)[behindS (ls.drop k) n] with
      | true =>
        obtain ⟨i1, i2⟩ := ih ((ls.drop k).length - (behindS (ls.drop k) n + 1)) (by omega) (behindS (ls.drop k) n + 1) (by omega) rfl
        rw [more_go (ls.drop k) n _ rfl h h2, more_go ls (k + n) _ hb (by omega) (by rw [← hg]; exact h2)]
        rw [← Nat.add_assoc] at i1 i2
        simp only [i1, i2, hg]
        rw [show k + behindS (ls.drop k) n - (k + n) = behindS (ls.drop k) n - n by omega]
        exact ⟨rfl, trivial⟩
      | false =>
        rw [more_no (ls.drop k) n _ rfl h h2, more_no ls (k + n) _ hb (by omega) (by rw [← hg]; exact h2)]
        exact ⟨rfl, rfl⟩
    · rw [more_end (ls.drop k) n _ rfl h, more_end ls (k + n) _ hb (by omega)]
      exact ⟨rfl, rfl⟩
theorem item_shift (ls : List (List UInt8)) (k : Nat) (hk : k < ls.length) : itemIn (ls.drop k) 0 = itemIn ls k ∧ (ls.drop k).drop (moreAt (ls.drop k) 1).2 = ls.drop (moreAt ls (k + 1)).2 := by
  obtain ⟨h1, h2⟩ := more_shift ls k 1 (by omega) (by rw [List.length_drop]; omega)
  refine ⟨?_, ?_⟩
  · rw [itemIn, itemIn, h1, List.getElem?_drop, Nat.add_zero]
  · rw [List.drop_drop, h2]

/-- Where the program stands in a list: at an item's line, or behind the list. -/
def St (f : List (List UInt8) → List Ev) (ls : List (List UInt8)) (k : Nat) (done : List Ev) : Prop :=
  (∃ hk : k < ls.length, itemL ls[k] = true ∧ done ++ (itemsAt f ls k).1 = (itemsAt f ls 0).1 ∧ (itemsAt f ls k).2 = (itemsAt f ls 0).2) ∨ (done = (itemsAt f ls 0).1 ∧ k = behindS ls (itemsAt f ls 0).2 ∧ ∀ hk : k < ls.length, itemL ls[k] = false)
theorem st_step (f : List (List UInt8) → List Ev) (ls : List (List UInt8)) (k : Nat) (done : List Ev) (hk : k < ls.length) (hi : itemL ls[k] = true) (h : St f ls k done) : St f ls (behindS ls (moreAt ls (k + 1)).2) (done ++ itemEv f ls k) := by
  rcases h with ⟨_, _, h1, h2⟩ | ⟨_, _, h3⟩
  · by_cases hb : behindS ls (moreAt ls (k + 1)).2 < ls.length
    · cases h4 : itemL ls[behindS ls (moreAt ls (k + 1)).2] with
      | true =>
        have e := items_go f ls k _ rfl hb h4
        rw [e] at h1 h2
        exact Or.inl ⟨hb, h4, by rw [List.append_assoc]; exact h1, h2⟩
      | false =>
        have e := items_no f ls k _ rfl hb h4
        rw [e] at h1 h2
        exact Or.inr ⟨h1, by rw [← h2], fun _ => h4⟩
    · have e := items_end f ls k _ rfl hb
      rw [e] at h1 h2
      exact Or.inr ⟨h1, by rw [← h2], fun hk => absurd hk hb⟩
  · rw [h3 hk] at hi
    cases hi
theorem st_end (f : List (List UInt8) → List Ev) (ls : List (List UInt8)) (k : Nat) (done : List Ev) (hn : ∀ hk : k < ls.length, itemL ls[k] = false) (h : St f ls k done) : done = (itemsAt f ls 0).1 ∧ k = behindS ls (itemsAt f ls 0).2 := by
  rcases h with ⟨hk, h1, _⟩ | ⟨h1, h2, _⟩
  · rw [hn hk] at h1
    cases h1
  · exact ⟨h1, h2⟩

/-- The items, with what is there already. -/
theorem items_len (f : List (List UInt8) → List Ev) (hfl : ∀ ls, (f ls).length ≤ 12 * ls.length) (ls : List (List UInt8)) (h0 : 0 < ls.length) : (itemsAt f ls 0).1.length ≤ 14 * ls.length ∧ (itemsAt f ls 0).2 ≤ ls.length := by
  obtain ⟨a1, a2, a3⟩ := items_facts f 12 hfl ls 0 h0
  refine ⟨Nat.le_trans a3 (Nat.mul_le_mul_left _ (by omega)), a2⟩
theorem st_len (f : List (List UInt8) → List Ev) (ls : List (List UInt8)) (k : Nat) (done : List Ev) (h : St f ls k done) : done.length ≤ (itemsAt f ls 0).1.length := by
  rcases h with ⟨_, _, h1, _⟩ | ⟨h1, _⟩
  · rw [← h1, List.length_append]; omega
  · rw [h1]; exact Nat.le_refl _

/-- The blank lines ahead make no block. -/
theorem blocks_blank (inner : List (List UInt8) → List Ev) (depth : Int) (rs : List (List UInt8)) : blocksF inner depth (rs.drop (nb rs)) = blocksF inner depth rs := by
  induction rs with
  | nil => rfl
  | cons l r ih =>
    cases h : blankL l with
    | true =>
      have : nb (l :: r) = nb r + 1 := by unfold nb; rw [List.takeWhile_cons, if_pos h]; rfl
      rw [this, List.drop_succ_cons, ih, blocksF, if_pos h]
    | false =>
      have : nb (l :: r) = 0 := by unfold nb; rw [List.takeWhile_cons, h]; rfl
      rw [this, List.drop_zero]
theorem blocks_behind (inner : List (List UInt8) → List Ev) (depth : Int) (ls : List (List UInt8)) (n : Nat) : blocksF inner depth (ls.drop (behindS ls n)) = blocksF inner depth (ls.drop n) := by
  rw [nb_behind, ← List.drop_drop]
  exact blocks_blank inner depth (ls.drop n)

end Go.Proofs.YtljcljipppjnoaaGreatDoor
