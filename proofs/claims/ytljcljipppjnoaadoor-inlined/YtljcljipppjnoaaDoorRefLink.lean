import Derived.Test.YtljcljipppjnoaaDoorRefFind
namespace Go.Proofs.YtljcljipppjnoaaDoor
open Go.RowKit

/-- What ends the place that a link leads to. -/
def endsL (c : UInt8) : Bool := c == 41 || c == 32 || c == 9 || c == 10 || c == 40
def stopAt (l : List UInt8) (k : Nat) : Nat := k + ((l.drop k).takeWhile fun x => !endsL x).length
theorem stop_lt (l : List UInt8) (n : Nat) (h : n < l.length) (hb : endsL l[n] = false) : stopAt l n = stopAt l (n + 1) := by
  unfold stopAt
  rw [List.drop_eq_getElem_cons h, List.takeWhile_cons, if_pos (by simp [hb])]
  simp
  omega
theorem stop_at (l : List UInt8) (n : Nat) (h : n < l.length) (hb : endsL l[n] = true) : stopAt l n = n := by
  unfold stopAt
  rw [List.drop_eq_getElem_cons h, List.takeWhile_cons, if_neg (by simp [hb])]
  rfl
theorem stop_end (l : List UInt8) (n : Nat) (h : l.length ≤ n) : stopAt l n = n := by
  unfold stopAt
  rw [List.drop_eq_nil_iff.2 h]
  rfl
theorem stop_ge (l : List UInt8) (n : Nat) : n ≤ stopAt l n := by unfold stopAt; omega
/-- A link at place i: where its text ends, where what it leads to ends. -/
def linkS (l : List UInt8) (i : Nat) : Option (Nat × Nat) :=
  if nextAt l 93 i < l.length ∧ ¬ nextAt l 91 (i + 1) < nextAt l 93 i ∧ l[nextAt l 93 i + 1]? = some 40 ∧ l[stopAt l (nextAt l 93 i + 2)]? = some 41 then some (nextAt l 93 i, stopAt l (nextAt l 93 i + 2)) else none
def linkV : Option (Nat × Nat) → Value
  | some x => .tuple #[.int .i64 x.1, .int .i64 (x.1 + 2 : Nat), .int .i64 x.2, .bool true]
  | none => .tuple #[.int .i64 0, .int .i64 0, .int .i64 0, .bool false]

set_option maxRecDepth 100000 in
set_option maxHeartbeats 2000000 in
theorem rlink_any (s : ByteArray) (i : Nat) (w : World) (hs : s.size ≤ 1099511627776) (hi : i < s.size) :
    Calls Tryd.prog 31 #[.string s, .int .i64 i] w fun e w' => e = .returned (linkV (linkS s.data.toList i)) ∧ w' = w := by
  have hl := ba_len s
  have c1 := fun W => rfind_any s 93 i W (by omega) (by omega)
  have c2 := fun W => rfind_any s 91 (i + 1) W (by omega) (by omega)
  have e93 : ((93 : UInt8).toNat : Int) = 93 := rfl
  have e91 : ((91 : UInt8).toNat : Int) = 91 := rfl
  have en : ((i + 1 : Nat) : Int) = (i : Int) + 1 := by omega
  rw [e93] at c1
  rw [e91, en] at c2
  have HL : Hid (linkS s.data.toList i = if nextAt s.data.toList 93 i < s.data.toList.length ∧ ¬ nextAt s.data.toList 91 (i + 1) < nextAt s.data.toList 93 i ∧ s.data.toList[nextAt s.data.toList 93 i + 1]? = some 40 ∧ s.data.toList[stopAt s.data.toList (nextAt s.data.toList 93 i + 2)]? = some 41 then some (nextAt s.data.toList 93 i, stopAt s.data.toList (nextAt s.data.toList 93 i + 2)) else none) := by show _ = _; rfl
  have F1 : foundZ s.data.toList 93 i = if nextAt s.data.toList 93 i < s.data.toList.length then (nextAt s.data.toList 93 i : Int) else -1 := rfl
  have F2 : foundZ s.data.toList 91 (i + 1) = if nextAt s.data.toList 91 (i + 1) < s.data.toList.length then (nextAt s.data.toList 91 (i + 1) : Int) else -1 := rfl
  have hg1 := next_ge s.data.toList 93 i
  generalize nextAt s.data.toList 93 i = j at HL F1 hg1
  generalize nextAt s.data.toList 91 (i + 1) = k at HL F2
  generalize foundZ s.data.toList 93 i = zj at c1 F1
  generalize foundZ s.data.toList 91 (i + 1) = zk at c2 F2
  rw [hl] at F1 F2
  have hno : (¬ (j < s.size ∧ ¬ k < j ∧ s.data.toList[j + 1]? = some 40 ∧ s.data.toList[stopAt s.data.toList (j + 2)]? = some 41)) → Hid (linkV (linkS s.data.toList i) = .tuple #[.int .i64 0, .int .i64 0, .int .i64 0, .bool false]) := by
    intro h
    show _ = _
    rw [HL.out, hl, if_neg h]
    rfl
  by_cases hj : j < s.size
  · rw [if_pos hj] at F1
    subst F1
    by_cases hk : k < j
    · rw [if_pos (by omega)] at F2
      subst F2
      have HN := hno (fun h => h.2.1 hk)
      clear hno HL
      go_enter Tryd.func31, Tryd.ntmps31
      go_wp2_with (first | (go_at_call_of 29 (Value.int IntKind.u8 93); refine (c1 _).mono ?_; rintro e w' ⟨rfl, hw⟩; rw [hw]; clear hw) | (go_at_call_of 29 (Value.int IntKind.u8 91); refine (c2 _).mono ?_; rintro e w' ⟨rfl, hw⟩; rw [hw]; clear hw))
      exact bodyPost_ret (v := .tuple #[.int .i64 0, .int .i64 0, .int .i64 0, .bool false]) (by simp [results, Tryd.results31, go_sem]) rfl ⟨by rw [HN.out], rfl⟩
    · have hz : zk = -1 ∨ ∃ k' : Nat, zk = (k' : Int) ∧ j ≤ k' ∧ k' < s.size := by
        by_cases h : k < s.size
        · rw [if_pos h] at F2
          exact Or.inr ⟨k, F2, by omega, h⟩
        · rw [if_neg h] at F2
          exact Or.inl F2
      by_cases h1 : j + 1 < s.size
      · have hat : s.data.toList[j + 1]? = some s[j + 1] := at_some s (j + 1) h1
        by_cases h40 : s[j + 1] = 40
        · have g40 : ((s[j + 1].toNat : Int) == 40) = true := by rw [h40]; rfl
          have g40' : ((s[j + 1].toNat : Int) != 40) = false := by rw [h40]; rfl
          have hyes : ∀ e : Nat, stopAt s.data.toList (j + 2) = e → s.data.toList[e]? = some 41 → Hid (linkV (linkS s.data.toList i) = .tuple #[.int .i64 j, .int .i64 (j + 2 : Nat), .int .i64 e, .bool true]) := by
            intro e h1 h2
            show _ = _
            rw [HL.out, hl, if_pos ⟨hj, hk, by rw [hat, h40], by rw [h1]; exact h2⟩, h1]
            rfl
          have hnone : ∀ e : Nat, stopAt s.data.toList (j + 2) = e → s.data.toList[e]? ≠ some 41 → Hid (linkV (linkS s.data.toList i) = .tuple #[.int .i64 0, .int .i64 0, .int .i64 0, .bool false]) := fun e h1 h2 => hno (fun h => h2 (by rw [← h1]; exact h.2.2.2))
          have HY : Hid _ := hyes
          have HO : Hid _ := hnone
          clear hno HL hyes hnone hat h40 F2
          rcases hz with rfl | ⟨k', rfl, hk1, hk2⟩
          all_goals
            go_enter Tryd.func31, Tryd.ntmps31
            go_wp2_with (first | (go_at_call_of 29 (Value.int IntKind.u8 93); refine (c1 _).mono ?_; rintro e w' ⟨rfl, hw⟩; rw [hw]; clear hw) | (go_at_call_of 29 (Value.int IntKind.u8 91); refine (c2 _).mono ?_; rintro e w' ⟨rfl, hw⟩; rw [hw]; clear hw))
            go_loop [10] (fun v => ∃ e : Nat, j + 2 ≤ e ∧ e ≤ s.size ∧ v = .int .i64 e ∧ Hid (stopAt s.data.toList e = stopAt s.data.toList (j + 2))) (fun v => s.size - (intOf v).toNat)
            case atStart => exact ⟨j + 2, Nat.le_refl _, by omega, by go_num, (by show _ = _; rfl)⟩
            case round =>
              obtain ⟨e, he1, he2, rfl, HS⟩ := hrel
              clear c1 c2
              by_cases hlt : e < s.size
              · have hate : s.data.toList[e]? = some s[e] := at_some s e hlt
                have hstop : endsL s[e] = true → stopAt s.data.toList (j + 2) = e := fun h => by rw [← HS.out]; exact stop_at s.data.toList e (by omega) h
                have t41 := u8_eq s[e] 41
                have t32 := u8_eq s[e] 32
                have t9 := u8_eq s[e] 9
                have t10 := u8_eq s[e] 10
                have t40 := u8_eq s[e] 40
                have HE : Hid (endsL s[e] = (s[e] == 41 || s[e] == 32 || s[e] == 9 || s[e] == 10 || s[e] == 40)) := by show _ = _; rfl
                cases b41 : (s[e] == 41) with
                | true =>
                  have HN := HY.out e (hstop (by rw [HE.out, b41]; rfl)) (by rw [hate]; simpa using b41)
                  rw [b41] at t41
                  replace t41 : ((s[e].toNat : Int) == 41) = true := t41
                  clear HY HO hstop HE t32 t9 t10 t40 hate b41
                  go_wp2
                  exact bodyPost_ret (v := .tuple #[.int .i64 j, .int .i64 (j + 2 : Nat), .int .i64 e, .bool true]) (by simp [results, Tryd.results31, go_sem]) rfl ⟨by rw [HN.out], rfl⟩
                | false =>
                  have hne41 : s.data.toList[e]? ≠ some 41 := by rw [hate]; simpa using b41
                  rw [b41] at t41
                  replace t41 : ((s[e].toNat : Int) == 41) = false := t41
                  by_cases hall : (s[e] == 32 || s[e] == 9 || s[e] == 10 || s[e] == 40) = true
                  · have HN := HO.out e (hstop (by rw [HE.out, b41]; simpa using hall)) hne41
                    have hall2 : (((s[e].toNat : Int) == 32) || ((s[e].toNat : Int) == 9) || ((s[e].toNat : Int) == 10) || ((s[e].toNat : Int) == 40)) = true := by
                      rw [show ((s[e].toNat : Int) == 32) = (s[e] == 32) from t32, show ((s[e].toNat : Int) == 9) = (s[e] == 9) from t9, show ((s[e].toNat : Int) == 10) = (s[e] == 10) from t10, show ((s[e].toNat : Int) == 40) = (s[e] == 40) from t40]
                      exact hall
                    clear HY HO hstop HE t32 t9 t10 t40 hate b41 hall hne41
                    cases y32 : ((s[e].toNat : Int) == 32)
                    all_goals
                      cases y9 : ((s[e].toNat : Int) == 9)
                      all_goals
                        cases y10 : ((s[e].toNat : Int) == 10)
                        all_goals
                          cases y40 : ((s[e].toNat : Int) == 40)
                          all_goals
                            first
                            | (exfalso; rw [y32, y9, y10, y40] at hall2; cases hall2; done)
                            | (clear hall2; go_wp2; exact bodyPost_ret (v := .tuple #[.int .i64 0, .int .i64 0, .int .i64 0, .bool false]) (by simp [results, Tryd.results31, go_sem]) rfl ⟨by rw [HN.out], rfl⟩)
                  · have HS2 : Hid (stopAt s.data.toList (e + 1) = stopAt s.data.toList (j + 2)) := by
                      show _ = _
                      rw [← HS.out]
                      refine (stop_lt s.data.toList e (by omega) ?_).symm
                      show endsL s[e] = false
                      rw [HE.out, b41]
                      simpa using hall
                    have hf : (s[e] == 32) = false ∧ (s[e] == 9) = false ∧ (s[e] == 10) = false ∧ (s[e] == 40) = false := by
                      simp only [Bool.not_eq_true, Bool.or_eq_false_iff] at hall
                      exact ⟨hall.1.1.1, hall.1.1.2, hall.1.2, hall.2⟩
                    rw [hf.1] at t32
                    rw [hf.2.1] at t9
                    rw [hf.2.2.1] at t10
                    rw [hf.2.2.2] at t40
                    replace t32 : ((s[e].toNat : Int) == 32) = false := t32
                    replace t9 : ((s[e].toNat : Int) == 9) = false := t9
                    replace t10 : ((s[e].toNat : Int) == 10) = false := t10
                    replace t40 : ((s[e].toNat : Int) == 40) = false := t40
                    clear HY HO hstop HE hate b41 hall hne41 hf
                    go_wp2
                    go_round
                    case rel => exact ⟨e + 1, by omega, by omega, by go_num, HS2⟩
                    case measure => simp [intOf]; omega
              · have HN := HO.out e (by rw [← HS.out]; exact stop_end s.data.toList e (by omega)) (by rw [at_none s e (by omega)]; simp)
                clear HY HO
                go_wp2
                exact bodyPost_ret (v := .tuple #[.int .i64 0, .int .i64 0, .int .i64 0, .bool false]) (by simp [results, Tryd.results31, go_sem]) rfl ⟨by rw [HN.out], rfl⟩
        · have HN := hno (fun h => h40 (by have := h.2.2.1; rw [hat] at this; exact Option.some.inj this))
          have g40 : ((s[j + 1].toNat : Int) == 40) = false := (u8_eq s[j + 1] 40).trans (beq_eq_false_iff_ne.2 h40)
          have g40' : ((s[j + 1].toNat : Int) != 40) = true := by rw [bne, g40]; rfl
          clear hno HL hat h40 F2
          rcases hz with rfl | ⟨k', rfl, hk1, hk2⟩
          all_goals
            go_enter Tryd.func31, Tryd.ntmps31
            go_wp2_with (first | (go_at_call_of 29 (Value.int IntKind.u8 93); refine (c1 _).mono ?_; rintro e w' ⟨rfl, hw⟩; rw [hw]; clear hw) | (go_at_call_of 29 (Value.int IntKind.u8 91); refine (c2 _).mono ?_; rintro e w' ⟨rfl, hw⟩; rw [hw]; clear hw))
            exact bodyPost_ret (v := .tuple #[.int .i64 0, .int .i64 0, .int .i64 0, .bool false]) (by simp [results, Tryd.results31, go_sem]) rfl ⟨by rw [HN.out], rfl⟩
      · have HN := hno (fun h => by have := h.2.2.1; rw [at_none s (j + 1) h1] at this; cases this)
        clear hno HL F2
        rcases hz with rfl | ⟨k', rfl, hk1, hk2⟩
        all_goals
          go_enter Tryd.func31, Tryd.ntmps31
          go_wp2_with (first | (go_at_call_of 29 (Value.int IntKind.u8 93); refine (c1 _).mono ?_; rintro e w' ⟨rfl, hw⟩; rw [hw]; clear hw) | (go_at_call_of 29 (Value.int IntKind.u8 91); refine (c2 _).mono ?_; rintro e w' ⟨rfl, hw⟩; rw [hw]; clear hw))
          exact bodyPost_ret (v := .tuple #[.int .i64 0, .int .i64 0, .int .i64 0, .bool false]) (by simp [results, Tryd.results31, go_sem]) rfl ⟨by rw [HN.out], rfl⟩
  · rw [if_neg hj] at F1
    subst F1
    have HN := hno (fun h => hj h.1)
    clear hno HL F2
    go_enter Tryd.func31, Tryd.ntmps31
    go_wp2_with (first | (go_at_call_of 29 (Value.int IntKind.u8 93); refine (c1 _).mono ?_; rintro e w' ⟨rfl, hw⟩; rw [hw]; clear hw) | (go_at_call_of 29 (Value.int IntKind.u8 91); refine (c2 _).mono ?_; rintro e w' ⟨rfl, hw⟩; rw [hw]; clear hw))
    exact bodyPost_ret (v := .tuple #[.int .i64 0, .int .i64 0, .int .i64 0, .bool false]) (by simp [results, Tryd.results31, go_sem]) rfl ⟨by rw [HN.out], rfl⟩

end Go.Proofs.YtljcljipppjnoaaDoor
