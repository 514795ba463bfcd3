import Derived.Test.YtljcljipppjnoaaDoorLvLen
import Derived.Deep.QuietTactic
import Derived.BigQuiet
namespace Go.Proofs.YtljcljipppjnoaaDoor
open Go.RowKit Go.Shelf

theorem lv_prefix (s p : ByteArray) (w : World) :
    Calls Tryd.prog 68 #[.string s, .string p] w fun e w' => e = .returned (.bool (p.data.toList.isPrefixOf s.data.toList)) ∧ w' = w := Any.strings_HasPrefix Tryd.lays99 s p w
theorem pre_two (m : List UInt8) (a b : UInt8) : [a, b].isPrefixOf m = true ↔ m[0]? = some a ∧ m[1]? = some b := by
  cases m with
  | nil => simp
  | cons x m =>
    cases m with
    | nil => simp
    | cons y m =>
      simp [List.isPrefixOf]
      constructor
      · rintro ⟨h1, h2⟩; exact ⟨h1.symm, h2.symm⟩
      · rintro ⟨h1, h2⟩; exact ⟨h1.symm, h2.symm⟩

/-- One step on the way to a partner. -/
theorem pass_step (l : List UInt8) (j : Nat) (h : j < l.length) (h42 : l[j]? ≠ some 42) : pfrom l (j + passN (l.drop j)) = pfrom l j ∧ j + passN (l.drop j) ≤ l.length ∧ 1 ≤ passN (l.drop j) := by
  have e0 : (l.drop j)[0]? = l[j]? := (at_drop l j 0).symm
  have e1 : (l.drop j)[1]? = l[j + 1]? := (at_drop l j 1).symm
  have en : nextAt l 96 (j + 1) = j + nextAt (l.drop j) 96 1 := next_add l 96 j 1
  have el : (l.drop j).length = l.length - j := List.length_drop
  have hgo := pfrom_go l j h h42
  rw [hgo]
  unfold passN escN codN
  rw [e0, e1, el]
  by_cases c92 : l[j]? = some 92
  · rw [if_pos c92]
    have n96 : ¬ (l[j]? = some 96 ∧ nextAt l 96 (j + 1) < l.length) := fun h => by rw [c92] at h; simp at h
    by_cases hs : l[j + 1]?.map signS = some true
    · rw [if_pos hs]
      obtain ⟨c, hc⟩ : ∃ c, l[j + 1]? = some c := by
        cases hh : l[j + 1]? with
        | none => rw [hh] at hs; cases hs
        | some c => exact ⟨c, rfl⟩
      have hc1 := (List.getElem?_eq_some_iff.1 hc).1
      rw [hc] at hs
      have hp : pnext l j = j + 2 := by
        unfold pnext
        rw [if_neg n96, if_pos ⟨c92, by rw [hc]; simp at hs ⊢; exact Or.inl hs⟩]
      rw [hp]
      exact ⟨rfl, by omega, by omega⟩
    · rw [if_neg hs]
      show pfrom l (j + 1) = _ ∧ j + 1 ≤ _ ∧ _
      refine ⟨?_, by omega, by omega⟩
      by_cases h10 : l[j + 1]? = some 10
      · have hp : pnext l j = j + 2 := by
          unfold pnext
          rw [if_neg n96, if_pos ⟨c92, by rw [h10]; rfl⟩]
        have hc1 := (List.getElem?_eq_some_iff.1 h10).1
        have hp2 : pnext l (j + 1) = j + 2 := by
          unfold pnext
          rw [if_neg (fun h => by rw [h10] at h; simp at h), if_neg (fun h => by rw [h10] at h; simp at h)]
        rw [hp, pfrom_go l (j + 1) hc1 (by rw [h10]; simp), hp2]
      · have hp : pnext l j = j + 1 := by
          unfold pnext
          rw [if_neg n96, if_neg]
          rintro ⟨_, h2⟩
          cases hh : l[j + 1]? with
          | none => rw [hh] at h2; cases h2
          | some c =>
            rw [hh] at h2 hs h10
            simp at h2 hs h10
            rcases h2 with h2 | h2
            · rw [h2] at hs; cases hs
            · exact h10 h2
        rw [hp]
  · rw [if_neg c92]
    by_cases c96 : l[j]? = some 96
    · rw [if_pos c96]
      by_cases hn : nextAt (l.drop j) 96 1 < l.length - j
      · rw [if_pos hn]
        have hg := next_ge (l.drop j) 96 1
        have hp : pnext l j = nextAt l 96 (j + 1) + 1 := by
          unfold pnext
          rw [if_pos ⟨c96, by omega⟩]
        have hm : max 1 (nextAt (l.drop j) 96 1 + 1) = nextAt (l.drop j) 96 1 + 1 := by omega
        rw [hp, hm, en]
        exact ⟨by congr 1, by omega, by omega⟩
      · rw [if_neg hn]
        have hp : pnext l j = j + 1 := by
          unfold pnext
          rw [if_neg (fun h => hn (by have := h.2; omega)), if_neg (fun h => c92 h.1)]
        rw [hp]
        exact ⟨rfl, by show j + 1 ≤ _; omega, by show 1 ≤ 1; omega⟩
    · rw [if_neg c96]
      have hp : pnext l j = j + 1 := by
        unfold pnext
        rw [if_neg (fun h => c96 h.1), if_neg (fun h => c92 h.1)]
      rw [hp]
      exact ⟨rfl, by omega, by omega⟩

/-- Where the partner is, or 0. -/
def partZ (l : List UInt8) : Int := match partnerS l 0 with
  | some j => j
  | none => 0

set_option maxRecDepth 100000 in
set_option maxHeartbeats 4000000 in
theorem dpartner_any (s : ByteArray) (w : World) (h1 : 1 ≤ s.size) (hs : s.size ≤ 1073741824) :
    Calls Tryd.prog 75 #[.string s] w fun e w' => e = .returned (.int .i64 (partZ s.data.toList)) ∧ w' = w := by
  have hl := ba_len s
  obtain ⟨P, hP⟩ : ∃ P, pfrom s.data.toList (0 + 1) = P := ⟨_, rfl⟩
  have HZ : Hid (partZ s.data.toList = if P < s.size ∧ P ≠ 1 ∧ s.data.toList[1]?.map bl3 = some false ∧ s.data.toList[P - 1]?.map bl3 = some false then (P : Int) else 0) := by
    show _ = _
    rw [partZ, partnerS, hP, hl]
    by_cases h : P < s.size ∧ P ≠ 1 ∧ s.data.toList[1]?.map bl3 = some false ∧ s.data.toList[P - 1]?.map bl3 = some false
    · rw [if_pos h, if_pos h]
    · rw [if_neg h, if_neg h]
  have HP : Hid (pfrom s.data.toList (0 + 1) = P) := hP
  clear hP
  generalize partZ s.data.toList = Z at HZ ⊢
  have HPS : Hid _ := pass_step s.data.toList
  go_enter Tryd.func75, Tryd.ntmps75
  go_wp2
  go_loop [3] (fun v => ∃ j : Nat, 1 ≤ j ∧ j ≤ s.size ∧ v = .int .i64 j ∧ Hid (pfrom s.data.toList j = P)) (fun v => s.size - (intOf v).toNat)
  case atStart => exact ⟨1, Nat.le_refl _, h1, rfl, HP⟩
  case round =>
    clear HP
    obtain ⟨j, hj1, hj2, rfl, HJ⟩ := hrel
    by_cases hgo : j < s.size ∧ s.data.toList[j]? ≠ some 42
    · obtain ⟨hlt, h42⟩ := hgo
      have hat : s.data.toList[j]? = some s[j] := at_some s j hlt
      have g42 : ((s[j].toNat : Int) != 42) = true := by
        have hne : s[j] ≠ 42 := fun h => h42 (by rw [hat, h])
        rw [bne, show ((s[j].toNat : Int) == 42) = (s[j] == 42) from u8_eq s[j] 42, beq_eq_false_iff_ne.2 hne]
        rfl
      obtain ⟨p1, p2, p3⟩ := HPS.out j (by omega) h42
      have cP := fun W => pass_any (s.extract j s.size) W (by rw [ByteArray.size_extract]; omega) (by rw [ByteArray.size_extract]; omega)
      rw [drop_data] at cP
      rw [hl] at p2
      generalize passN (s.data.toList.drop j) = d at p1 p2 p3 cP
      have HJ2 : Hid (pfrom s.data.toList (j + d) = P) := by show _ = _; rw [p1]; exact HJ.out
      clear hat h42 p1 HJ
      go_wp2_with (go_at_call 81; refine (cP _).mono ?_; rintro e w' ⟨rfl, hw⟩; rw [hw]; clear hw)
      go_round
      case rel => exact ⟨j + d, by omega, by omega, by go_num, HJ2⟩
      case measure => simp [intOf]; omega
    · have hPj : P = j := by rw [← HJ.out]; exact pfrom_at _ _ (by rw [hl]; exact hgo)
      subst hPj
      clear HJ HPS
      have hout : P < s.size → ((s[P]!.toNat : Int) != 42) = false := fun hlt => by
        have hat : s.data.toList[P]? = some s[P] := at_some s P hlt
        have h42 : s[P] = 42 := by
          apply Classical.byContradiction
          intro h
          exact hgo ⟨hlt, by rw [hat]; intro h2; exact h (Option.some.inj h2)⟩
        rw [getElem!_pos s P hlt, h42]
        rfl
      by_cases hone : P = 1
      · have HN : Hid (Z = 0) := by show _ = _; rw [HZ.out, if_neg (fun h => h.2.1 hone)]
        subst hone
        clear HZ hgo
        by_cases hlt : 1 < s.size
        · have g := hout hlt
          rw [getElem!_pos s 1 hlt] at g
          clear hout
          go_wp2
          go_ret
          rw [HN.out]
          exact ⟨rfl, rfl⟩
        · clear hout
          go_wp2
          go_ret
          rw [HN.out]
          exact ⟨rfl, rfl⟩
      · have g1 : ((P : Int) == 1) = false := by rw [beq_eq_false_iff_ne]; omega
        by_cases hlt : P < s.size
        · have g := hout hlt
          rw [getElem!_pos s P hlt] at g
          have gs : ((P : Int) == (s.size : Int)) = false := by rw [beq_eq_false_iff_ne]; omega
          have ha : s.data.toList[1]? = some s[1] := at_some s 1 (by omega)
          have hb : s.data.toList[P - 1]? = some s[P - 1] := at_some s (P - 1) (by omega)
          have cA := fun W => gap_any s[1] W
          have cB := fun W => gap_any s[P - 1] W
          rw [ha, hb] at HZ
          have HZ2 : Hid (Z = if bl3 s[1] = false ∧ bl3 s[P - 1] = false then (P : Int) else 0) := by
            show _ = _
            rw [HZ.out]
            by_cases h : bl3 s[1] = false ∧ bl3 s[P - 1] = false
            · rw [if_pos h, if_pos ⟨hlt, hone, by simp [h.1], by simp [h.2]⟩]
            · rw [if_neg h, if_neg (fun h2 => h ⟨by simpa using h2.2.2.1, by simpa using h2.2.2.2⟩)]
          have z1 : ((P : Int) - 1).toNat = P - 1 := by omega
          clear hout hgo ha hb HZ hone
          cases hA : bl3 s[1] with
          | true =>
            rw [hA] at cA HZ2
            have HN : Hid (Z = 0) := by show _ = _; rw [HZ2.out, if_neg (fun h => by cases h.1)]
            clear hA HZ2 cB
            go_wp2_with (go_at_call 82; refine (cA _).mono ?_; rintro e w' ⟨rfl, hw⟩; rw [hw]; clear hw)
            go_ret
            rw [HN.out]
            exact ⟨rfl, rfl⟩
          | false =>
            rw [hA] at cA HZ2
            cases hB : bl3 s[P - 1] with
            | true =>
              rw [hB] at cB HZ2
              have HN : Hid (Z = 0) := by show _ = _; rw [HZ2.out, if_neg (fun h => by cases h.2)]
              clear hA hB HZ2
              go_wp2_with (first | (go_at_call 82; refine (cA _).mono ?_; rintro e w' ⟨rfl, hw⟩; rw [hw]; clear hw) | (go_at_call 82; refine (cB _).mono ?_; rintro e w' ⟨rfl, hw⟩; rw [hw]; clear hw))
              go_ret
              rw [HN.out]
              exact ⟨rfl, rfl⟩
            | false =>
              rw [hB] at cB HZ2
              have HN : Hid (Z = P) := by show _ = _; rw [HZ2.out, if_pos ⟨rfl, rfl⟩]
              clear hA hB HZ2
              go_wp2_with (first | (go_at_call 82; refine (cA _).mono ?_; rintro e w' ⟨rfl, hw⟩; rw [hw]; clear hw) | (go_at_call 82; refine (cB _).mono ?_; rintro e w' ⟨rfl, hw⟩; rw [hw]; clear hw))
              go_ret
              rw [HN.out]
              exact ⟨rfl, rfl⟩
        · have gs : ((P : Int) == (s.size : Int)) = true := by rw [beq_iff_eq]; omega
          have HN : Hid (Z = 0) := by show _ = _; rw [HZ.out, if_neg (fun h => hlt h.1)]
          clear hout hgo HZ hone
          go_wp2
          go_ret
          rw [HN.out]
          exact ⟨rfl, rfl⟩

theorem first_min (m : List UInt8) : firstN (fun x => x == 91 || x == 93) m = min (firstN (fun x => x == 91) m) (firstN (fun x => x == 93) m) := by
  induction m with
  | nil => rfl
  | cons c m ih =>
    rw [firstN_cons, firstN_cons, firstN_cons, ih]
    cases h1 : (c == 91) <;> cases h2 : (c == 93) <;> simp <;> omega
/-- A link at the beginning, as it is looked for from the left. -/
theorem link_plain (l : List UInt8) (h0 : l[0]? = some 91) (m : List UInt8) (hm : m = l.drop 1) (n e : Nat) (hn : n = firstN (fun x => x == 91 || x == 93) m) (he : e = firstN endsL (m.drop (n + 2))) :
    linkS l 0 = if m[n]? = some 93 ∧ m[n + 1]? = some 40 ∧ (m.drop (n + 2))[e]? = some 41 then some (1 + n, 1 + n + 2 + e) else none := by
  have hlen : 0 < l.length := (List.getElem?_eq_some_iff.1 h0).1
  have hv : l[0] = 91 := (List.getElem?_eq_some_iff.1 h0).2
  have hj : nextAt l 93 0 = 1 + firstN (fun x => x == 93) m := by
    rw [next_lt l 93 0 hlen (by rw [hv]; rfl), next_first, hm]
  have hk : nextAt l 91 (0 + 1) = 1 + firstN (fun x => x == 91) m := by rw [next_first, hm]
  have hml : m.length = l.length - 1 := by rw [hm, List.length_drop]
  have hat : ∀ k, l[1 + k]? = m[k]? := fun k => by rw [hm]; exact at_drop l 1 k
  rw [first_min] at hn
  have ha := firstN_le (fun x => x == 91) m
  have hb := firstN_le (fun x => x == 93) m
  have fa := fun h => first_some (p := fun x => x == 91) (l := m) h
  have fb := fun h => first_some (p := fun x => x == 93) (l := m) h
  unfold linkS
  rw [hj, hk]
  generalize firstN (fun x => x == 91) m = a at hn ha fa
  generalize firstN (fun x => x == 93) m = b at hn hb fb
  by_cases hba : b ≤ a
  · have hnb : n = b := by omega
    subst hnb
    have hst : stopAt l (1 + n + 2) = 1 + n + 2 + e := by
      rw [stop_first, he, hm, List.drop_drop]
      rw [show 1 + (n + 2) = 1 + n + 2 by omega]
    have hae : l[1 + n + 2 + e]? = (m.drop (n + 2))[e]? := by
      rw [show 1 + n + 2 + e = 1 + (n + 2 + e) by omega, hat, at_drop]
    rw [hst, hae, show 1 + n + 1 = 1 + (n + 1) by omega, hat]
    by_cases hlt : n < m.length
    · obtain ⟨c, hc, hc2⟩ := fb hlt
      have hcc : c = 93 := by simpa using hc2
      subst hcc
      by_cases hR : m[n + 1]? = some 40 ∧ (m.drop (n + 2))[e]? = some 41
      · rw [if_pos ⟨by omega, by omega, hR⟩, if_pos ⟨hc, hR⟩]
      · rw [if_neg (fun h => hR h.2.2), if_neg (fun h => hR h.2)]
    · rw [if_neg (fun h => by have := h.1; omega), if_neg (fun h => by have := (List.getElem?_eq_some_iff.1 h.1).1; omega)]
  · have hna : n = a := by omega
    subst hna
    obtain ⟨c, hc, hc2⟩ := fa (by omega)
    have hcc : c = 91 := by simpa using hc2
    subst hcc
    rw [if_neg (fun h => h.2.1 (by omega)), if_neg (fun h => by rw [hc] at h; have := h.1; simp at this)]

def linkPV (l : List UInt8) : Option (Nat × Nat) → Value
  | some x => .tuple #[.string ⟨(cut l 1 x.1).toArray⟩, .string ⟨(cut l (x.1 + 2) x.2).toArray⟩, .bool true]
  | none => .tuple #[.string ⟨#[]⟩, .string ⟨#[]⟩, .bool false]

end Go.Proofs.YtljcljipppjnoaaDoor
