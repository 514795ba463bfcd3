import Derived.Test.YtljcljipppjnoaaDoorSrc
namespace Go.Proofs.YtljcljipppjnoaaDoor
open Go.RowKit

set_option maxHeartbeats 8000000 in
theorem read_cut1 (b g o k cap : Nat) (n : Nat) (tx : ByteArray) (fa : Int) (wt : Bool) (rd : Int) (ov : Bool) (w : World) (h : SrcAt b tx (.slice (some ⟨g, o, none⟩) (k + 1) cap) fa wt rd ov w) (h0 : 0 ≤ rd) (h1 : rd < 4611686018427387904) (hf : rd + 1 ≠ fa)
    (hkc : k + 1 ≤ cap) (hcap : cap ≤ 9223372036854775807) (hgb : g ≠ b) (hc : w.cell? ⟨g, o, none⟩ = some (.int .i64 n)) (hn : n ≤ tx.size) :
    Calls Tryd.prog 121 #[.pointer (some ⟨b, 0, none⟩)] w fun e w' => e = .returned (.tuple #[.string (tx.extract 0 n), .bool (wt && decide (n = tx.size) && decide (k = 0)), .nilIface]) ∧
      (∃ o' cap', SrcAt b (tx.extract n tx.size) (.slice (some ⟨g, o', none⟩) k cap') fa wt (rd + 1) ov w' ∧ k ≤ cap' ∧ cap' ≤ cap ∧ (k ≠ 0 → o' = o + 1)) ∧ Kept b w w' := by
  obtain ⟨c0, c1, c2, c3, c4, c5⟩ := h.cells
  have hz := h.frozen
  have hlt := h.lt
  have z4 := hz 4
  have z0 := hz 0
  have z1 := hz 1
  have heq : (rd + 1 == fa) = false := by simp [hf]
  clear hz hf
  have H : Hid (SrcAt b tx (.slice (some ⟨g, o, none⟩) (k + 1) cap) fa wt rd ov w) := h
  clear h
  have hE := empty_iff (tx.extract n tx.size)
  have hD : Hid ((tx.extract n tx.size).toList.isEmpty = decide (n = tx.size)) := by
    rw [hE]
    have : (tx.extract n tx.size).size = tx.size - n := by simp
    rw [this]
    congr 1
    apply propext
    omega
  clear hE
  by_cases hc1 : cap = 1
  · subst hc1
    obtain rfl : k = 0 := by omega
    go_enter Tryd.func121, Tryd.ntmps121
    go_wp2
    go_quiet (fail)
    all_goals
      go_wp2
      cases wt with
      | false =>
        go_quiet (fail)
        go_wp2
        go_ret3
        exact ⟨rfl, ⟨o, 0, ((((H.out.put4 _).drewN _).put1 _).put0 _).drewN _, Nat.le_refl _, by omega, fun hh => absurd rfl hh⟩, (((((Kept.refl b w).setCell 4 _).drewN _).setCell 1 _).setCell 0 _).drewN _⟩
      | true =>
        by_cases hem : (tx.extract n tx.size).toList.isEmpty = true
        all_goals
          go_quiet (fail)
          go_wp2
          go_ret3
          refine ⟨?_, ⟨o, 0, ((((H.out.put4 _).drewN _).put1 _).put0 _).drewN _, Nat.le_refl _, by omega, fun hh => absurd rfl hh⟩, (((((Kept.refl b w).setCell 4 _).drewN _).setCell 1 _).setCell 0 _).drewN _⟩
          rw [← hD.out]
          first
            | (rw [hem]; rfl)
            | (rw [Bool.eq_false_iff.2 hem]; rfl)
  · go_enter Tryd.func121, Tryd.ntmps121
    go_wp2
    go_quiet (fail)
    all_goals
      go_wp2
      cases wt with
      | false =>
        go_quiet (fail)
        go_wp2
        go_ret3
        exact ⟨rfl, ⟨o + 1, cap - 1, ((((H.out.put4 _).drewN _).put1 _).put0 _).drewN _, by omega, by omega, fun _ => rfl⟩, (((((Kept.refl b w).setCell 4 _).drewN _).setCell 1 _).setCell 0 _).drewN _⟩
      | true =>
        by_cases hem : (tx.extract n tx.size).toList.isEmpty = true
        · by_cases hk : k = 0
          · have hk' : ((k : Int) == 0) = true := by simp [hk]
            have HK : Hid (k = 0) := hk
            clear hk
            go_quiet (fail)
            go_wp2
            go_ret3
            refine ⟨?_, ⟨o + 1, cap - 1, ((((H.out.put4 _).drewN _).put1 _).put0 _).drewN _, by omega, by omega, fun _ => rfl⟩, (((((Kept.refl b w).setCell 4 _).drewN _).setCell 1 _).setCell 0 _).drewN _⟩
            rw [← hD.out, hem, decide_eq_true HK.out]
            rfl
          · have hk' : ((k : Int) == 0) = false := by simp [hk]
            have HK : Hid (¬ k = 0) := hk
            clear hk
            go_quiet (fail)
            go_wp2
            go_ret3
            refine ⟨?_, ⟨o + 1, cap - 1, ((((H.out.put4 _).drewN _).put1 _).put0 _).drewN _, by omega, by omega, fun _ => rfl⟩, (((((Kept.refl b w).setCell 4 _).drewN _).setCell 1 _).setCell 0 _).drewN _⟩
            rw [← hD.out, hem, decide_eq_false HK.out]
            rfl
        · go_quiet (fail)
          go_wp2
          go_ret3
          refine ⟨?_, ⟨o + 1, cap - 1, ((((H.out.put4 _).drewN _).put1 _).put0 _).drewN _, by omega, by omega, fun _ => rfl⟩, (((((Kept.refl b w).setCell 4 _).drewN _).setCell 1 _).setCell 0 _).drewN _⟩
          rw [← hD.out, Bool.eq_false_iff.2 hem]
          rfl

end Go.Proofs.YtljcljipppjnoaaDoor
