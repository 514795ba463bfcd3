import Derived.Test.YtljcljipppjnoaaDoorRefFind
namespace Go.Proofs.YtljcljipppjnoaaDoor
open Go.RowKit

def bl3 (c : UInt8) : Bool := c == 32 || c == 9 || c == 10
/-- On the way to a star's partner: the next place to look at. -/
def pnext (l : List UInt8) (j : Nat) : Nat :=
  if l[j]? = some 96 ∧ nextAt l 96 (j + 1) < l.length then nextAt l 96 (j + 1) + 1
  else if l[j]? = some 92 ∧ (l[j + 1]?.map fun c => signS c || c == 10) = some true then j + 2 else j + 1
theorem pnext_gt (l : List UInt8) (j : Nat) : j < pnext l j := by
  unfold pnext
  have := next_ge l 96 (j + 1)
  split
  · omega
  · split <;> omega
def pfrom (l : List UInt8) (j : Nat) : Nat := if _h : j < l.length ∧ l[j]? ≠ some 42 then pfrom l (pnext l j) else j
termination_by l.length - j
decreasing_by (have := pnext_gt l j; omega)
theorem pfrom_go (l : List UInt8) (j : Nat) (h : j < l.length) (h2 : l[j]? ≠ some 42) : pfrom l j = pfrom l (pnext l j) := by rw [pfrom, dif_pos ⟨h, h2⟩]
theorem pfrom_at (l : List UInt8) (j : Nat) (h : ¬ (j < l.length ∧ l[j]? ≠ some 42)) : pfrom l j = j := by rw [pfrom, dif_neg h]
/-- The partner of the star at place i. -/
def partnerS (l : List UInt8) (i : Nat) : Option Nat :=
  if pfrom l (i + 1) < l.length ∧ pfrom l (i + 1) ≠ i + 1 ∧ l[i + 1]?.map bl3 = some false ∧ l[pfrom l (i + 1) - 1]?.map bl3 = some false then some (pfrom l (i + 1)) else none
def partnerZ : Option Nat → Int
  | some j => j
  | none => -1

set_option maxRecDepth 100000 in
set_option maxHeartbeats 4000000 in
theorem rpartner_any (s : ByteArray) (i : Nat) (w : World) (hs : s.size ≤ 1099511627776) (hi : i < s.size) :
    Calls Tryd.prog 32 #[.string s, .int .i64 i] w fun e w' => e = .returned (.int .i64 (partnerZ (partnerS s.data.toList i))) ∧ w' = w := by
  have hl := ba_len s
  obtain ⟨P, hP⟩ : ∃ P, pfrom s.data.toList (i + 1) = P := ⟨_, rfl⟩
  have HZ : Hid (partnerZ (partnerS s.data.toList i) = if P < s.size ∧ P ≠ i + 1 ∧ s.data.toList[i + 1]?.map bl3 = some false ∧ s.data.toList[P - 1]?.map bl3 = some false then (P : Int) else -1) := by
    show _ = _
    rw [partnerS, hP, hl]
    split <;> rfl
  have HP : Hid (pfrom s.data.toList (i + 1) = P) := hP
  clear hP
  generalize partnerZ (partnerS s.data.toList i) = Z at HZ ⊢
  go_enter Tryd.func32, Tryd.ntmps32
  go_wp2
  go_loop [5] (fun v => ∃ j : Nat, i + 1 ≤ j ∧ j ≤ s.size ∧ v = .int .i64 j ∧ Hid (pfrom s.data.toList j = P)) (fun v => s.size - (intOf v).toNat)
  case atStart => exact ⟨i + 1, Nat.le_refl _, by omega, by go_num, HP⟩
  case round =>
    clear HP
    obtain ⟨j, hj1, hj2, rfl, HJ⟩ := hrel
    by_cases hlt : j < s.size
    · have hat : s.data.toList[j]? = some s[j] := at_some s j hlt
      have t42 := u8_eq s[j] 42
      have t92 := u8_eq s[j] 92
      have t96 := u8_eq s[j] 96
      by_cases h42 : s[j] = 42
      · have hPj : P = j := by rw [← HJ.out]; exact pfrom_at _ _ (fun h => h.2 (by rw [hat, h42]))
        have g42 : ((s[j].toNat : Int) != 42) = false := by rw [h42]; rfl
        subst hPj
        clear t42 t92 t96 hat h42 HJ
        by_cases he : P = i + 1
        · have HN : Hid (Z = -1) := by show _ = _; rw [HZ.out, if_neg (fun h => h.2.1 he)]
          subst he
          clear HZ
          go_wp2
          go_ret
          rw [HN.out]
          exact ⟨rfl, rfl⟩
        · have hne : ((P : Int) == (i : Int) + 1) = false := by rw [beq_eq_false_iff_ne]; omega
          have hia : i + 1 < s.size := by omega
          have hPm : P - 1 < s.size := by omega
          have hcast : ((P : Int) - 1).toNat = P - 1 := by omega
          have ha : s.data.toList[i + 1]? = some s[i + 1] := at_some s (i + 1) hia
          have hb : s.data.toList[P - 1]? = some s[P - 1] := at_some s (P - 1) hPm
          rw [ha, hb] at HZ
          have HZ2 : Hid (Z = if bl3 s[i + 1] = false ∧ bl3 s[P - 1] = false then (P : Int) else -1) := by
            show _ = _
            rw [HZ.out]
            simp [hlt, he]
          have ta : bl3 s[i + 1] = (((s[i + 1].toNat : Int) == 32) || ((s[i + 1].toNat : Int) == 9) || ((s[i + 1].toNat : Int) == 10)) := by
            have k1 := u8_eq s[i + 1] 32
            have k2 := u8_eq s[i + 1] 9
            have k3 := u8_eq s[i + 1] 10
            unfold bl3
            rw [← k1, ← k2, ← k3]
            rfl
          have tb : bl3 s[P - 1] = (((s[P - 1].toNat : Int) == 32) || ((s[P - 1].toNat : Int) == 9) || ((s[P - 1].toNat : Int) == 10)) := by
            have k1 := u8_eq s[P - 1] 32
            have k2 := u8_eq s[P - 1] 9
            have k3 := u8_eq s[P - 1] 10
            unfold bl3
            rw [← k1, ← k2, ← k3]
            rfl
          rw [ta, tb] at HZ2
          clear HZ ha hb ta tb
          cases a32 : ((s[i + 1].toNat : Int) == 32) with
          | true =>
            have HN : Hid (Z = -1) := by show _ = _; rw [HZ2.out, a32]; simp
            clear HZ2
            go_wp2
            go_ret
            rw [HN.out]
            exact ⟨rfl, rfl⟩
          | false =>
            cases a9 : ((s[i + 1].toNat : Int) == 9) with
            | true =>
              have HN : Hid (Z = -1) := by show _ = _; rw [HZ2.out, a9]; simp
              clear HZ2
              go_wp2
              go_ret
              rw [HN.out]
              exact ⟨rfl, rfl⟩
            | false =>
              cases a10 : ((s[i + 1].toNat : Int) == 10) with
              | true =>
                have HN : Hid (Z = -1) := by show _ = _; rw [HZ2.out, a10]; simp
                clear HZ2
                go_wp2
                go_ret
                rw [HN.out]
                exact ⟨rfl, rfl⟩
              | false =>
                cases b32 : ((s[P - 1].toNat : Int) == 32) with
                | true =>
                  have HN : Hid (Z = -1) := by show _ = _; rw [HZ2.out, b32]; simp
                  clear HZ2
                  go_wp2
                  go_ret
                  rw [HN.out]
                  exact ⟨rfl, rfl⟩
                | false =>
                  cases b9 : ((s[P - 1].toNat : Int) == 9) with
                  | true =>
                    have HN : Hid (Z = -1) := by show _ = _; rw [HZ2.out, b9]; simp
                    clear HZ2
                    go_wp2
                    go_ret
                    rw [HN.out]
                    exact ⟨rfl, rfl⟩
                  | false =>
                    cases b10 : ((s[P - 1].toNat : Int) == 10) with
                    | true =>
                      have HN : Hid (Z = -1) := by show _ = _; rw [HZ2.out, b10]; simp
                      clear HZ2
                      go_wp2
                      go_ret
                      rw [HN.out]
                      exact ⟨rfl, rfl⟩
                    | false =>
                      have HN : Hid (Z = P) := by show _ = _; rw [HZ2.out, a32, a9, a10, b32, b9, b10]; rfl
                      clear HZ2
                      go_wp2
                      go_ret
                      rw [HN.out]
                      exact ⟨rfl, rfl⟩
      · have g42 : ((s[j].toNat : Int) != 42) = true := by
          rw [bne, show ((s[j].toNat : Int) == 42) = (s[j] == 42) from t42, beq_eq_false_iff_ne.2 h42]
          rfl
        have HG : Hid (pfrom s.data.toList (pnext s.data.toList j) = P) := by
          show _ = _
          rw [← HJ.out]
          exact (pfrom_go _ _ (by omega) (by rw [hat]; intro h; exact h42 (Option.some.inj h))).symm
        have c1 := fun W => rfind_any s 96 (j + 1) W (by omega) (by omega)
        have e96 : ((96 : UInt8).toNat : Int) = 96 := rfl
        have en : ((j + 1 : Nat) : Int) = (j : Int) + 1 := by omega
        rw [e96, en] at c1
        by_cases h96 : s[j] = 96
        · have g96 : ((s[j].toNat : Int) == 96) = true := by rw [h96]; rfl
          have g92 : ((s[j].toNat : Int) == 92) = false := by rw [h96]; rfl
          by_cases hk : nextAt s.data.toList 96 (j + 1) < s.size
          · have hF : foundZ s.data.toList 96 (j + 1) = (nextAt s.data.toList 96 (j + 1) : Int) := by rw [foundZ, hl, if_pos hk]
            have hp : pnext s.data.toList j = nextAt s.data.toList 96 (j + 1) + 1 := by rw [pnext, hl, if_pos ⟨by rw [hat, h96], hk⟩]
            have hge := next_ge s.data.toList 96 (j + 1)
            rw [hF] at c1
            rw [hp] at HG
            generalize nextAt s.data.toList 96 (j + 1) = k at c1 HG hk hge
            clear hF hp t42 t92 t96 hat h42 h96 HJ HZ
            go_wp2_with (go_at_call 29; refine (c1 _).mono ?_; rintro e w' ⟨rfl, hw⟩; rw [hw]; clear hw)
            go_round
            case rel => exact ⟨k + 1, by omega, by omega, by go_num, HG⟩
            case measure => simp [intOf]; omega
          · have hF : foundZ s.data.toList 96 (j + 1) = -1 := by rw [foundZ, hl, if_neg hk]
            have hp : pnext s.data.toList j = j + 1 := by rw [pnext, hl, if_neg (fun h => hk h.2), if_neg (fun h => by have := h.1; rw [hat, h96] at this; simp at this)]
            rw [hF] at c1
            rw [hp] at HG
            clear hF hp t42 t92 t96 hat h42 h96 HJ HZ hk
            go_wp2_with (go_at_call 29; refine (c1 _).mono ?_; rintro e w' ⟨rfl, hw⟩; rw [hw]; clear hw)
            go_round
            case rel => exact ⟨j + 1, by omega, by omega, by go_num, HG⟩
            case measure => simp [intOf]; omega
        · have g96 : ((s[j].toNat : Int) == 96) = false := by rw [show ((s[j].toNat : Int) == 96) = (s[j] == 96) from t96, beq_eq_false_iff_ne.2 h96]
          have hp0 : pnext s.data.toList j = if s.data.toList[j]? = some 92 ∧ (s.data.toList[j + 1]?.map fun c => signS c || c == 10) = some true then j + 2 else j + 1 := by
            rw [pnext, if_neg (fun h => h96 (by have := h.1; rw [hat] at this; exact Option.some.inj this))]
          generalize foundZ s.data.toList 96 (j + 1) = zk at c1
          by_cases h92 : s[j] = 92
          · have g92 : ((s[j].toNat : Int) == 92) = true := by rw [h92]; rfl
            by_cases hn : j + 1 < s.size
            · have hat1 : s.data.toList[j + 1]? = some s[j + 1] := at_some s (j + 1) hn
              have c2 := fun W => rsign_any s[j + 1] W
              have t10 := u8_eq s[j + 1] 10
              have hp1 : pnext s.data.toList j = if (signS s[j + 1] || s[j + 1] == 10) = true then j + 2 else j + 1 := by
                rw [hp0, hat, h92, hat1]
                simp
              cases y1 : signS s[j + 1] with
              | true =>
                have hp : pnext s.data.toList j = j + 2 := by rw [hp1, y1]; rfl
                rw [y1] at c2
                rw [hp] at HG
                clear hp hp0 hp1 t42 t92 t96 hat h42 h96 HJ HZ t10 hat1 h92
                go_wp2_with (first | (go_at_call 29; refine (c1 _).mono ?_; rintro e w' ⟨rfl, hw⟩; rw [hw]; clear hw) | (go_at_call 28; refine (c2 _).mono ?_; rintro e w' ⟨rfl, hw⟩; rw [hw]; clear hw))
                go_round
                case rel => exact ⟨j + 2, by omega, by omega, by go_num, HG⟩
                case measure => simp [intOf]; omega
              | false =>
                rw [y1] at c2
                cases y2 : (s[j + 1] == 10) with
                | true =>
                  have hp : pnext s.data.toList j = j + 2 := by rw [hp1, y1, y2]; rfl
                  rw [y2] at t10
                  replace t10 : ((s[j + 1].toNat : Int) == 10) = true := t10
                  rw [hp] at HG
                  clear hp hp0 hp1 t42 t92 t96 hat h42 h96 HJ HZ hat1 h92 y2
                  go_wp2_with (first | (go_at_call 29; refine (c1 _).mono ?_; rintro e w' ⟨rfl, hw⟩; rw [hw]; clear hw) | (go_at_call 28; refine (c2 _).mono ?_; rintro e w' ⟨rfl, hw⟩; rw [hw]; clear hw))
                  go_round
                  case rel => exact ⟨j + 2, by omega, by omega, by go_num, HG⟩
                  case measure => simp [intOf]; omega
                | false =>
                  have hp : pnext s.data.toList j = j + 1 := by rw [hp1, y1, y2]; rfl
                  rw [y2] at t10
                  replace t10 : ((s[j + 1].toNat : Int) == 10) = false := t10
                  rw [hp] at HG
                  clear hp hp0 hp1 t42 t92 t96 hat h42 h96 HJ HZ hat1 h92 y2
                  go_wp2_with (first | (go_at_call 29; refine (c1 _).mono ?_; rintro e w' ⟨rfl, hw⟩; rw [hw]; clear hw) | (go_at_call 28; refine (c2 _).mono ?_; rintro e w' ⟨rfl, hw⟩; rw [hw]; clear hw))
                  go_round
                  case rel => exact ⟨j + 1, by omega, by omega, by go_num, HG⟩
                  case measure => simp [intOf]; omega
            · have hp : pnext s.data.toList j = j + 1 := by rw [hp0, at_none s (j + 1) hn]; simp
              rw [hp] at HG
              clear hp hp0 t42 t92 t96 hat h42 h96 HJ HZ h92
              go_wp2_with (go_at_call 29; refine (c1 _).mono ?_; rintro e w' ⟨rfl, hw⟩; rw [hw]; clear hw)
              go_round
              case rel => exact ⟨j + 1, by omega, by omega, by go_num, HG⟩
              case measure => simp [intOf]; omega
          · have g92 : ((s[j].toNat : Int) == 92) = false := by rw [show ((s[j].toNat : Int) == 92) = (s[j] == 92) from t92, beq_eq_false_iff_ne.2 h92]
            have hp : pnext s.data.toList j = j + 1 := by rw [hp0, if_neg (fun h => h92 (by have := h.1; rw [hat] at this; exact Option.some.inj this))]
            rw [hp] at HG
            clear hp hp0 t42 t92 t96 hat h42 h96 HJ HZ h92
            go_wp2_with (go_at_call 29; refine (c1 _).mono ?_; rintro e w' ⟨rfl, hw⟩; rw [hw]; clear hw)
            go_round
            case rel => exact ⟨j + 1, by omega, by omega, by go_num, HG⟩
            case measure => simp [intOf]; omega
    · have hPj : P = j := by rw [← HJ.out]; exact pfrom_at _ _ (fun h => by omega)
      have HN : Hid (Z = -1) := by show _ = _; rw [HZ.out, if_neg (fun h => by omega)]
      clear HZ HJ
      go_wp2
      go_ret
      rw [HN.out]
      exact ⟨rfl, rfl⟩

end Go.Proofs.YtljcljipppjnoaaDoor
