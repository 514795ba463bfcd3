import Derived.Test.YtkabhbbhliffcaaGreatDoorDevLeaf
import Derived.Test.YtkabhbbhliffcaaGreatDoorTot
namespace Go.Proofs.YtkabhbbhliffcaaGreatDoor
open Go.RowKit Go.Shelf

theorem Tryz.Builder_Extra_156 : Builder.Extra Tryz.prog Tryz.lays156_ren := {
  sizeBuilder := by kernel_rfl
  liesBuilder := by kernel_rfl
  t5 := Tryz.underlying5
  a5 := Tryz.isAgg5
  z5 := Tryz.sizeOf5
  v5 := Tryz.zeroValue5
  infoByte := by kernel_rfl
  cellsByte := by kernel_rfl
  sizeByte := by kernel_rfl
  neB5 := by decide }
theorem sh_join (bk o c : Nat) (xs : List ByteArray) (w : World)
    (hcells : ∀ (j : Nat) x, xs[j]? = some x → w.cell? ⟨bk, o + j, none⟩ = some (.string x))
    (hbk : bk < w.heap.size) (hN : xs.length ≤ 140737488355328) (hcap : xs.length ≤ c)
    (hlen : (Lib.join (xs.map (·.data.toList)) [10]).length ≤ 140737488355328) :
    Calls Tryz.prog 63 #[.slice (some ⟨bk, o, none⟩) xs.length c, .string ⟨#[10]⟩] w fun e w' => e = .returned (.string ⟨(Lib.join (xs.map (·.data.toList)) [10]).toArray⟩) ∧ Below w.heap.size w w' :=
  Any.strings_Join Tryz.lays156 Tryz.Builder_Extra_156 bk o c xs ⟨#[10]⟩ w hcells hbk hN hcap hlen

/-- The lines that a paragraph's leaf is made of, joined. -/
theorem join_own (bk c : Nat) (ls : List (List UInt8)) (B : Nat) (w : World) (h : w.ownsRow B 9 1 (.slice (some ⟨bk, 0, none⟩) ls.length c) ls.length (strCs (ls.map trimL))) (hM : tot ls ≤ 1073741824) :
    Calls Tryz.prog 63 #[.slice (some ⟨bk, 0, none⟩) ls.length c, .string ⟨#[10]⟩] w fun e w' => e = .returned (.string ⟨(joinT ls).toArray⟩) ∧ Below w.heap.size w w' := by
  have hx : (ls.map fun l => (⟨(trimL l).toArray⟩ : ByteArray)).length = ls.length := by simp
  have hj : Lib.join ((ls.map fun l => (⟨(trimL l).toArray⟩ : ByteArray)).map (·.data.toList)) [10] = joinT ls := by
    rw [joinT_join, List.map_map]
    rfl
  have hl := joinT_len ls
  have ht := tot_len ls
  have hnc : ls.length ≤ c := by
    rcases h.2 with ⟨hh, _⟩ | ⟨g', cap', cur, hv, _, _, hnc, _⟩
    · cases hh
    · cases hv; exact hnc
  have hc := sh_join bk 0 c (ls.map fun l => (⟨(trimL l).toArray⟩ : ByteArray)) w (fun j x hj => by
      have := h.cells (g := bk) rfl j (.string x) (by
        rw [strCs, List.map_map, List.getElem?_map]
        rw [List.getElem?_map] at hj
        cases hl : ls[j]? with
        | none => rw [hl] at hj; cases hj
        | some a => rw [hl] at hj; simp at hj; subst hj; rfl)
      rw [Addr.add_lit] at this
      exact this) ((h.lt bk rfl).2) (by rw [hx]; omega) (by rw [hx]; exact hnc) (by rw [hj]; omega)
  rw [hx, hj] at hc
  exact hc

theorem kind_zero (s : ByteArray) (d : Int) : kindOf (startsS s d) = 0 ↔ startsS s d = 0 := by
  have h1 : startsS s d = 0 ∨ startsS s d = 2 ∨ startsS s d = 3 ∨ startsS s d = 4 ∨ startsS s d = 5 := by
    unfold startsS
    split
    · simp
    split
    · simp
    split
    · simp
    split <;> simp
  rcases h1 with h | h | h | h | h <;> rw [h] <;> decide

theorem drop_facts {ls rs : List (List UInt8)} {l : List UInt8} {k : Nat} (h : l :: rs = ls.drop k) : ∃ hk : k < ls.length, ls[k] = l ∧ ls.drop (k + 1) = rs := by
  have hk : k < ls.length := by
    rcases Nat.lt_or_ge k ls.length with hk | hk
    · exact hk
    · rw [List.drop_eq_nil_iff.2 hk] at h; cases h
  rw [List.drop_eq_getElem_cons hk] at h
  injection h with h1 h2
  exact ⟨hk, h1.symm, h2.symm⟩

set_option maxRecDepth 100000 in
set_option maxHeartbeats 4000000 in
theorem dpara_any (b0 : Nat) (acc : List Ev) (depth : Int) (g o cap : Nat) (ls : List (List UInt8)) (W : World) (hT : Told b0 acc W) (hlen : acc.length + 2 ≤ 1099511627776) (hS : Strs g o cap ls W) (hO : ¬ Own b0 W g) (hM : tot ls ≤ 1073741824) (h1 : 1 ≤ paraFrom ls depth 0) :
    Calls Tryz.prog 44 #[.slice (some ⟨g, o, none⟩) ls.length cap, .int .i64 depth, .func (.func 28) #[] #[.pointer (some ⟨b0, 0, none⟩)]] W fun e w' =>
      (∃ v, e = .returned v ∧ RestV g (ls.drop (paraFrom ls depth 0)) w' v) ∧ Told b0 (acc ++ leafS 0 0 (joinT (ls.take (paraFrom ls depth 0)))) w' ∧ Kp b0 none W.heap.size W w' := by
  obtain ⟨i0, hi, hz0, hz1, hz2⟩ := info_parts Tryz.infoStr
  have hb0 := hT.lt
  have hglt := hS.lt
  have hll := tot_len ls
  have HT : Hid (Told b0 acc W) := hT
  have HM : Hid (tot ls ≤ 1073741824) := hM
  have HO : Hid (¬ Own b0 W g) := hO
  have HF : Hid (∀ (t : List UInt8) w', Told b0 acc w' → _) := fun t w' h => leaf_any b0 acc 0 0 t w' h hlen
  have HS0 := hS
  obtain ⟨jt, hjt⟩ : ∃ jt, joinT (ls.take (paraFrom ls depth 0)) = jt := ⟨_, rfl⟩
  obtain ⟨dr, hdr0⟩ : ∃ dr, ls.drop (paraFrom ls depth 0) = dr := ⟨_, rfl⟩
  rw [hjt, hdr0]
  have HJT : Hid (joinT (ls.take (paraFrom ls depth 0)) = jt ∧ ls.drop (paraFrom ls depth 0) = dr) := ⟨hjt, hdr0⟩
  clear hT hO hS hjt hdr0
  go_enter Tryz.func44, Tryz.ntmps44
  go_wp2
  go_loopg [0, 7] ls.length (fun gk v0 v7 wr => ∃ (k o1 cap1 : Nat) (rs : List (List UInt8)), v0 = .slice (some ⟨g, o1, none⟩) rs.length cap1 ∧ rs.length ≤ gk ∧ Hid (rs = ls.drop k ∧ k ≤ ls.length) ∧ Hid (Strs g o1 cap1 rs W) ∧ wr.ownsRow W.heap.size 9 1 v7 k (strCs ((ls.take k).map trimL)) ∧ Below W.heap.size W wr ∧ Hid (paraFrom ls depth k = paraFrom ls depth 0) ∧ rs.length ≤ cap1 ∧ cap1 ≤ 9223372036854775807 ∧ k + rs.length = ls.length)
  case atStart => exact ⟨0, o, cap, ls, rfl, Nat.le_refl _, ⟨rfl, Nat.zero_le _⟩, HS0, (by simpa [strCs] using World.ownsRow_nil _ _ _ _), Below.refl _ _, (by show _ = _; rfl), HS0.fits, HS0.max, by omega⟩
  case round =>
    clear HS0
    obtain ⟨k, o1, cap1, rs, rfl, hgk, HR, HS, hown, hbel, HP, hc1, hc2, hkl⟩ := hrel
    have hbs := hbel.size
    have hgwr : g < wr.heap.size := by omega
    have hfin : paraFrom ls depth 0 = k → ∃ gl cl, u7 = .slice (some ⟨gl, 0, none⟩) k cl ∧ Hid (∀ w', Below wr.heap.size wr w' → Calls Tryz.prog 63 #[.slice (some ⟨gl, 0, none⟩) k cl, .string ⟨#[10]⟩] w' fun e w'' => e = .returned (.string ⟨jt.toArray⟩) ∧ Below w'.heap.size w' w'') ∧ Hid (∀ w', Kp b0 none W.heap.size W w' → RestV g dr w' (.slice (some ⟨g, o1, none⟩) rs.length cap1)) := by
      intro hk
      have hlt : (ls.take k).length = k := by rw [List.length_take]; omega
      rcases Joins.ownsRow_forms hown with ⟨rfl, h0⟩ | ⟨gl, cl, rfl⟩
      · omega
      · refine ⟨gl, cl, rfl, ?_, ?_⟩
        · intro w' hb
          have := join_own gl cl (ls.take k) W.heap.size w' (by rw [hlt]; exact own_below hown hb (Nat.le_refl _)) (Nat.le_trans (tot_take ls k) HM.out)
          rw [hlt] at this
          rw [← HJT.out.1, hk]
          exact this
        · intro w' hK
          rw [← HJT.out.2, hk, ← HR.out.1]
          exact ⟨o1, cap1, rfl, HS.out.kept hK hglt (by simp) HO.out⟩
    have hbw : ∀ w' w4, Below wr.heap.size wr w' → Below w'.heap.size w' w4 → Below W.heap.size W w4 := by
      intro w' w4 a b
      exact (hbel.trans (a.mono hbs)).trans (b.mono (by have := a.size; omega))
    cases rs with
    | nil =>
      have hkk : paraFrom ls depth 0 = k := by
        rw [← HP.out]
        exact para_end ls depth k (by simp at hkl; omega)
      obtain ⟨gl, cl, rfl, HJ, HE⟩ := hfin hkk
      clear hkk h1 hown
      go_wp2_with (first | (go_at_call 63; refine (HJ.out _ (Below.refl _ _)).mono ?_; rintro e w4 ⟨rfl, b4⟩; have hB4 := hbw _ _ (Below.refl _ _) b4) | (go_at_call 55; refine (HF.out jt w4 (HT.out.below hB4)).mono ?_; rintro e w5 ⟨rfl, T5, K5⟩))
      go_ret
      have hK : Kp b0 none W.heap.size W w5 := (Kp.below hB4 hb0).trans (K5.mono hB4.size)
      exact ⟨⟨_, rfl, HE.out w5 hK⟩, T5, hK⟩
    | cons l r =>
      obtain ⟨hlt, hlk, hdr⟩ := drop_facts HR.out.1
      have hcell := (HS.out.below hbel hglt).cell 0 l rfl
      rw [Nat.add_zero] at hcell
      have hsz : l.length ≤ 1073741824 := Nat.le_trans (tot_mem (by rw [← hlk]; exact List.getElem_mem hlt)) HM.out
      have hcB := fun W => dblank_any ⟨l.toArray⟩ W (by rw [size_of]; omega)
      have hcS := fun W => dbegins_any ⟨l.toArray⟩ depth W (by rw [size_of]; omega)
      have hcT := fun W => dtrim_any ⟨l.toArray⟩ W (by rw [size_of]; omega)
      have hbl : blankS ⟨l.toArray⟩ = blankL l := rfl
      have htr : trimS ⟨l.toArray⟩ = ⟨(trimL l).toArray⟩ := rfl
      have hkz := kind_zero ⟨l.toArray⟩ depth
      have hst : stays depth l = (!blankL l && decide (startsS ⟨l.toArray⟩ depth = 0)) := rfl
      rw [hbl] at hcB
      rw [htr] at hcT
      have HTK : Hid (strCs ((ls.take (k + 1)).map trimL) = strCs ((ls.take k).map trimL) ++ [.string ⟨(trimL l).toArray⟩]) := by
        show _ = _
        rw [snoc_take ls k hlt, hlk]
        simp [strCs]
      rw [List.length_cons] at hgk hc1 hkl ⊢
      rw [List.length_cons] at hfin
      generalize hbv : blankL l = bv at hcB hst
      generalize hsv : startsS ⟨l.toArray⟩ depth = sv at hcS hst hkz
      generalize hkv : kindOf sv = kv at hcS hkz
      generalize trimL l = tl at hcT HTK htr
      clear hbl htr hkv hsv hbv
      cases bv with
      | true =>
        have hkk : paraFrom ls depth 0 = k := by
          rw [← HP.out]
          exact para_at ls depth k hlt (by rw [hlk, hst]; rfl)
        obtain ⟨gl, cl, rfl, HJ, HE⟩ := hfin hkk
        clear hkk h1 hown hst hkz hcS hcT HTK hfin hlk hdr
        go_wp2_with (first | (go_at_call 38; refine (hcB _).mono ?_; rintro e w1 ⟨rfl, b1⟩) | (go_at_call 63; refine (HJ.out _ b1).mono ?_; rintro e w4 ⟨rfl, b4⟩; have hB4 := hbw _ _ b1 b4) | (go_at_call 55; refine (HF.out jt w4 (HT.out.below hB4)).mono ?_; rintro e w5 ⟨rfl, T5, K5⟩))
        go_ret
        have hK : Kp b0 none W.heap.size W w5 := (Kp.below hB4 hb0).trans (K5.mono hB4.size)
        exact ⟨⟨_, rfl, HE.out w5 hK⟩, T5, hK⟩
      | false =>
        by_cases hs0 : sv = 0
        · have hkv : kv = 0 := hkz.2 hs0
          subst hkv
          have HP2 : Hid (paraFrom ls depth (k + 1) = paraFrom ls depth 0) := by
            show _ = _
            rw [← para_lt ls depth k hlt (by rw [hlk, hst, hs0]; rfl), HP.out]
          clear hst hkz hfin hbw hs0
          go_wp2_with (first | (go_at_call 38; refine (hcB _).mono ?_; rintro e w1 ⟨rfl, b1⟩; have c1 := (b1.cell (p := ⟨g, o1, none⟩) hgwr).trans hcell) | (go_at_call 39; refine (hcS _).mono ?_; rintro e w' ⟨rfl, hw⟩; rw [hw]; clear hw) | (go_at_call 48; refine (hcT _).mono ?_; rintro e w2 ⟨rfl, b2⟩; have hown2 := own_below (own_below hown b1 (Nat.le_refl _)) b2 (Nat.le_refl _)) | (at_builtin; refine wpList_append_own _ rfl _ _ 25 rfl W.heap.size 9 i0 (.string ⟨#[]⟩) 1 16 Tryz.underlying25 hi hz0 hz1 hz2 rfl (by decide) _ _ _ rfl (hown2.alloc _) ⟨w2.heap.size, 0, none⟩ 1 1 [.string ⟨tl.toArray⟩] rfl rfl ?d1 ?d2 ?d3 ?d4 ?d5 ?_))
          case d1 =>
            intro j u hj
            match j, hj with
            | 0, hj => simp at hj; subst hj; simp [Addr.add]
          case d2 => intro u hu; simp at hu; subst hu; rfl
          case d3 => unfold maxLen; omega
          case d4 => omega
          case d5 => have := b1.size; have := b2.size; simp; omega
          intro v' w3 own3 grow3 _
          have s1 := b1.size
          have s2 := b2.size
          have hb2 : Below W.heap.size W w2 := (hbel.trans (b1.mono hbs)).trans (b2.mono (by omega))
          have hb3 : Below W.heap.size W w3 := (hb2.alloc (by omega) _).grown grow3 (by simp; omega) (fun b hb => (hown2.lt b hb).1)
          have hown3 : w3.ownsRow W.heap.size 9 1 v' (k + 1) (strCs ((ls.take (k + 1)).map trimL)) := by
            rw [HTK.out]
            simpa [strCs] using own3
          have HR2 : Hid (r = ls.drop (k + 1) ∧ k + 1 ≤ ls.length) := ⟨hdr.symm, by omega⟩
          clear own3 grow3 hown2 hown
          go_wp2
          all_goals
            go_roundg r.length
            case measure => omega
            case rel => first | exact ⟨k + 1, o1 + 1, cap1 - 1, r, rfl, Nat.le_refl _, HR2, HS.out.drop 1 (by simp), hown3, hb3, HP2, by omega, by omega, by omega⟩ | exact ⟨k + 1, o1, 0, r, rfl, Nat.le_refl _, HR2, HS.out.none o1 r (by omega), hown3, hb3, HP2, by omega, by omega, by omega⟩
        · have hkk : paraFrom ls depth 0 = k := by
            rw [← HP.out]
            exact para_at ls depth k hlt (by rw [hlk, hst]; simpa using hs0)
          obtain ⟨gl, cl, rfl, HJ, HE⟩ := hfin hkk
          have hk0 : (kv == 0) = false := by
            rw [beq_eq_false_iff_ne]
            exact fun h => hs0 (hkz.1 h)
          clear hkk h1 hown hst hkz hcT HTK hfin hlk hdr hs0
          go_wp2_with (first | (go_at_call 38; refine (hcB _).mono ?_; rintro e w1 ⟨rfl, b1⟩; have c1 := (b1.cell (p := ⟨g, o1, none⟩) hgwr).trans hcell) | (go_at_call 39; refine (hcS _).mono ?_; rintro e w' ⟨rfl, hw⟩; rw [hw]; clear hw) | (go_at_call 63; refine (HJ.out _ b1).mono ?_; rintro e w4 ⟨rfl, b4⟩; have hB4 := hbw _ _ b1 b4) | (go_at_call 55; refine (HF.out jt w4 (HT.out.below hB4)).mono ?_; rintro e w5 ⟨rfl, T5, K5⟩))
          go_ret
          have hK : Kp b0 none W.heap.size W w5 := (Kp.below hB4 hb0).trans (K5.mono hB4.size)
          exact ⟨⟨_, rfl, HE.out w5 hK⟩, T5, hK⟩

end Go.Proofs.YtkabhbbhliffcaaGreatDoor
