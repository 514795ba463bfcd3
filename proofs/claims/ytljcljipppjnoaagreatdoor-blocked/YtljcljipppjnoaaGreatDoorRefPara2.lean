import Derived.Test.YtljcljipppjnoaaGreatDoorRefPara
namespace Go.Proofs.YtljcljipppjnoaaGreatDoor
open Go.RowKit

def joinT : List (List UInt8) → List UInt8
  | [] => []
  | l :: r => trimL l ++ r.flatMap fun x => 10 :: trimL x
theorem joinT_snoc (ls : List (List UInt8)) (x : List UInt8) (h : ls ≠ []) : joinT (ls ++ [x]) = joinT ls ++ 10 :: trimL x := by
  cases ls with
  | nil => exact absurd rfl h
  | cons l r => simp [joinT]

def stays (depth : Int) (l : List UInt8) : Bool := !blankL l && decide (startsS ⟨l.toArray⟩ depth = 0)
def paraFrom (ls : List (List UInt8)) (depth : Int) (k : Nat) : Nat := k + ((ls.drop k).takeWhile (stays depth)).length

theorem para_lt (ls : List (List UInt8)) (d : Int) (n : Nat) (h : n < ls.length) (hb : stays d ls[n] = true) : paraFrom ls d n = paraFrom ls d (n + 1) := by
  unfold paraFrom
  rw [List.drop_eq_getElem_cons h, List.takeWhile_cons, if_pos hb]
  simp
  omega
theorem para_at (ls : List (List UInt8)) (d : Int) (n : Nat) (h : n < ls.length) (hb : stays d ls[n] = false) : paraFrom ls d n = n := by
  unfold paraFrom
  rw [List.drop_eq_getElem_cons h, List.takeWhile_cons, if_neg (by simp [hb])]
  rfl
theorem para_end (ls : List (List UInt8)) (d : Int) (n : Nat) (h : n = ls.length) : paraFrom ls d n = n := by
  unfold paraFrom
  rw [List.drop_eq_nil_iff.2 (by omega)]
  rfl

theorem trimL_le (l : List UInt8) : (trimL l).length ≤ l.length := by
  unfold trimL
  rw [List.length_reverse]
  have h1 := (List.dropWhile_sublist (l := (l.dropWhile isBl).reverse) isBl).length_le
  have h2 := (List.dropWhile_sublist (l := l) isBl).length_le
  rw [List.length_reverse] at h1
  omega

theorem starts_nat (s : ByteArray) (d : Int) : 0 ≤ startsS s d ∧ startsS s d ≤ 5 := by
  unfold startsS
  split
  · omega
  split
  · omega
  split
  · omega
  split <;> omega

theorem ba_app (a b : List UInt8) : (⟨a.toArray⟩ : ByteArray) ++ ⟨b.toArray⟩ = ⟨(a ++ b).toArray⟩ := by
  apply ByteArray.ext
  rw [ByteArray.data_append]
  simp
theorem ba3 (a b c : List UInt8) : (⟨a.toArray⟩ : ByteArray) ++ ⟨b.toArray⟩ ++ ⟨c.toArray⟩ = ⟨(a ++ (b ++ c)).toArray⟩ := by
  rw [ba_app, ba_app, List.append_assoc]

theorem snoc_take (ls : List (List UInt8)) (k : Nat) (h : k < ls.length) : ls.take (k + 1) = ls.take k ++ [ls[k]] := List.take_succ_eq_append_getElem h

set_option maxHeartbeats 2000000 in
theorem rpara_any (g o cap : Nat) (ls : List (List UInt8)) (depth : Int) (w : World) (hS : Strs g o cap ls w) (hM : Small 1073741824 ls) (hn : 0 < ls.length) :
    Calls Tryz.prog 44 #[.slice (some ⟨g, o, none⟩) ls.length cap, .int .i64 depth] w fun e w' =>
      ∃ v, e = .returned (.tuple #[v, .int .i64 (paraFrom ls depth 1)]) ∧ w'.ownsRow w.heap.size 83 4 v (leafS 0 0 (joinT (ls.take (paraFrom ls depth 1)))).length (evCs (leafS 0 0 (joinT (ls.take (paraFrom ls depth 1))))) ∧ Below w.heap.size w w' := by
  have hlen := hM.1
  have HM : Hid (Small 1073741824 ls) := hM
  have HS : Hid (Strs g o cap ls w) := hS
  obtain ⟨l0, hl0⟩ : ∃ l, ls[0] = l := ⟨_, rfl⟩
  have c0 := hS.cell 0 l0 (by rw [List.getElem?_eq_getElem hn, hl0])
  rw [Nat.add_zero] at c0
  have hz0 : l0.length ≤ 1073741824 := hM.2 l0 (by rw [← hl0]; exact List.getElem_mem hn)
  have ht0 := fun W => rtrim_any ⟨l0.toArray⟩ W (by rw [size_of]; omega)
  have hts : trimS ⟨l0.toArray⟩ = ⟨(trimL l0).toArray⟩ := rfl
  rw [hts] at ht0
  have hJ0 : Hid (trimL l0 = joinT (ls.take 1) ∧ (trimL l0).length ≤ 1 * 1073741825) := by
    have := trimL_le l0
    refine ⟨?_, by omega⟩
    rw [snoc_take ls 0 hn, hl0]
    simp [joinT]
  clear hM hS hts
  go_enter Tryz.func44, Tryz.ntmps44
  go_wp2_with (go_at_call 40; refine (ht0 _).mono ?_; rintro e w' ⟨rfl, hw⟩; rw [hw]; clear hw)
  clear ht0 c0 hz0 hl0
  go_loop [6, 7] (fun t i => ∃ (k : Nat) (acc : List UInt8), 1 ≤ k ∧ k ≤ ls.length ∧ i = .int .i64 k ∧ t = .string ⟨acc.toArray⟩ ∧ Hid (acc = joinT (ls.take k) ∧ acc.length ≤ k * 1073741825) ∧ Hid (paraFrom ls depth k = paraFrom ls depth 1)) (fun _ i => ls.length - (intOf i).toNat)
  case atStart => exact ⟨1, trimL l0, Nat.le_refl _, by omega, rfl, rfl, hJ0, (by show _ = _; rfl)⟩
  case round =>
    clear hJ0
    obtain ⟨k, acc, hk1, hk, rfl, rfl, hJ, hP⟩ := hrel
    have hacc : acc.length ≤ 2305843009213693952 := by
      have h1 := hJ.out.2
      have h2 : k * 1073741825 ≤ 1073741824 * 1073741825 := Nat.mul_le_mul_right _ (by omega)
      have h3 : (1073741824 * 1073741825 : Nat) ≤ 2305843009213693952 := by decide
      exact Nat.le_trans h1 (Nat.le_trans h2 h3)
    have hfin : ∀ n, paraFrom ls depth 1 = n → Hid (acc = joinT (ls.take n)) → Calls Tryz.prog 41 #[.int .i64 0, .int .i64 0, .string ⟨acc.toArray⟩] w fun e w' => ∃ v, e = .returned v ∧ w'.ownsRow w.heap.size 83 4 v (leafS 0 0 (joinT (ls.take (paraFrom ls depth 1)))).length (evCs (leafS 0 0 (joinT (ls.take (paraFrom ls depth 1))))) ∧ Below w.heap.size w w' := by
      intro n h1 h2
      rw [h1, ← h2.out]
      exact rleaf_any 0 0 ⟨acc.toArray⟩ w
    by_cases hlt : k < ls.length
    · obtain ⟨l, hl⟩ : ∃ l, ls[k] = l := ⟨_, rfl⟩
      have hcell := HS.out.cell k l (by rw [List.getElem?_eq_getElem hlt, hl])
      have hsz : l.length ≤ 1073741824 := HM.out.2 l (by rw [← hl]; exact List.getElem_mem hlt)
      have hcB := fun W => rBlank_any ⟨l.toArray⟩ W (by rw [size_of]; omega)
      have hcS := fun W => rstarts_any ⟨l.toArray⟩ depth W (by rw [size_of]; omega)
      have hcT := fun W => rtrim_any ⟨l.toArray⟩ W (by rw [size_of]; omega)
      have hbl : blankS ⟨l.toArray⟩ = blankL l := rfl
      have htr : trimS ⟨l.toArray⟩ = ⟨(trimL l).toArray⟩ := rfl
      have hsn := starts_nat ⟨l.toArray⟩ depth
      have htl := trimL_le l
      have hst : stays depth l = (!blankL l && decide (startsS ⟨l.toArray⟩ depth = 0)) := rfl
      rw [hbl] at hcB
      rw [htr] at hcT
      have HT : Hid (joinT (ls.take (k + 1)) = joinT (ls.take k) ++ 10 :: trimL l) := by
        show _ = _
        rw [snoc_take ls k hlt, joinT_snoc _ _ (by intro h; have := congrArg List.length h; rw [List.length_take, List.length_nil] at this; omega), hl]
      generalize hbv : blankL l = bv at hcB hst
      generalize hsv : startsS ⟨l.toArray⟩ depth = sv at hcS hst hsn
      by_cases hgo : bv = false ∧ sv = 0
      · obtain ⟨rfl, rfl⟩ := hgo
        have HP2 : Hid (paraFrom ls depth (k + 1) = paraFrom ls depth 1) := by
          show _ = _
          rw [← para_lt ls depth k hlt (by rw [hl, hst]; rfl), hP.out]
        clear hbv hsv hst hsn hbl htr hl
        generalize trimL l = tl at hcT HT htl
        have hs1 := size_of acc
        have hs2 := size_of tl
        go_wp2_with (first | (go_at_call 36; refine (hcB _).mono ?_; rintro e w' ⟨rfl, hw⟩; rw [hw]; clear hw) | (go_at_call 37; refine (hcS _).mono ?_; rintro e w' ⟨rfl, hw⟩; rw [hw]; clear hw) | (go_at_call 40; refine (hcT _).mono ?_; rintro e w' ⟨rfl, hw⟩; rw [hw]; clear hw))
        go_round
        case rel =>
          refine ⟨k + 1, acc ++ 10 :: tl, by omega, by omega, by go_num, ?_, ⟨?_, ?_⟩, HP2⟩
          · exact congrArg Value.string (ba3 acc [10] tl)
          · rw [HT.out, ← hJ.out.1]
          · have := hJ.out.2
            simp only [List.length_append, List.length_cons]
            omega
        case measure => simp [intOf]; omega
      · have HF : Hid (paraFrom ls depth 1 = k) := by
          show _ = _
          rw [← hP.out]
          refine para_at ls depth k hlt ?_
          rw [hl, hst]
          cases bv with
          | true => rfl
          | false => simp only [Bool.not_false, Bool.true_and, decide_eq_false_iff_not]; exact fun h => hgo ⟨rfl, h⟩
        have hF2 := hfin k HF.out hJ.out.1
        have hF3 := HF.out
        clear hbv hsv hst hbl htr hl hcT HT htl
        have hgo2 : bv = true ∨ (bv = false ∧ 0 < sv) := by
          cases bv with
          | true => exact Or.inl rfl
          | false => exact Or.inr ⟨rfl, by have : sv ≠ 0 := fun h => hgo ⟨rfl, h⟩; omega⟩
        clear hgo
        rcases hgo2 with rfl | ⟨rfl, hpos⟩
        · go_wp2_with (first | (go_at_call 36; refine (hcB _).mono ?_; rintro e w' ⟨rfl, hw⟩; rw [hw]; clear hw) | (go_at_call 37; refine (hcS _).mono ?_; rintro e w' ⟨rfl, hw⟩; rw [hw]; clear hw) | (go_at_call 41; refine hF2.mono ?_; rintro e w' ⟨v, rfl, hown, hb⟩))
          go_ret2
          rw [hF3]
          rw [hF3] at hown
          exact ⟨v, rfl, hown, hb⟩
        · go_wp2_with (first | (go_at_call 36; refine (hcB _).mono ?_; rintro e w' ⟨rfl, hw⟩; rw [hw]; clear hw) | (go_at_call 37; refine (hcS _).mono ?_; rintro e w' ⟨rfl, hw⟩; rw [hw]; clear hw) | (go_at_call 41; refine hF2.mono ?_; rintro e w' ⟨v, rfl, hown, hb⟩))
          go_ret2
          rw [hF3]
          rw [hF3] at hown
          exact ⟨v, rfl, hown, hb⟩
    · have HF : Hid (paraFrom ls depth 1 = k) := by
        show _ = _
        rw [← hP.out]
        exact para_end ls depth k (by omega)
      have hF2 := hfin k HF.out hJ.out.1
      have hF3 := HF.out
      go_wp2_with (go_at_call 41; refine hF2.mono ?_; rintro e w' ⟨v, rfl, hown, hb⟩)
      go_ret2
      rw [hF3]
      rw [hF3] at hown
      exact ⟨v, rfl, hown, hb⟩

end Go.Proofs.YtljcljipppjnoaaGreatDoor
