import Derived.Test.YtljcljipppjnoaaGreatDoorDevLeaf
import Derived.Test.YtljcljipppjnoaaGreatDoorTot
namespace Go.Proofs.YtljcljipppjnoaaGreatDoor
open Go.RowKit Go.Shelf

theorem Tryz.Builder_Extra_156 : Builder.Extra Tryz.prog Tryz.lays156_ren := {
  sizeBuilder := by kernel_rfl
  liesBuilder := by kernel_rfl
  t5 := Tryz.underlying5
  a5 := Tryz.isAgg5
  z5 := Tryz.sizeOf5
  v5 := Tryz.zeroValue5
  infoByte := by kernel_rfl
  cellsByte := by kernel_rfl
  sizeByte := by kernel_rfl
  neB5 := by decide }
theorem sh_join (bk o c : Nat) (xs : List ByteArray) (w : World)
    (hcells : ∀ (j : Nat) x, xs[j]? = some x → w.cell? ⟨bk, o + j, none⟩ = some (.string x))
    (hbk : bk < w.heap.size) (hN : xs.length ≤ 140737488355328) (hcap : xs.length ≤ c)
    (hlen : (Lib.join (xs.map (·.data.toList)) [10]).length ≤ 140737488355328) :
    Calls Tryz.prog 162 #[.slice (some ⟨bk, o, none⟩) xs.length c, .string ⟨#[10]⟩] w fun e w' => e = .returned (.string ⟨(Lib.join (xs.map (·.data.toList)) [10]).toArray⟩) ∧ Below w.heap.size w w' :=
  Any.strings_Join Tryz.lays156 Tryz.Builder_Extra_156 bk o c xs ⟨#[10]⟩ w hcells hbk hN hcap hlen

/-- The lines that a paragraph's leaf is made of, joined. -/
theorem join_own (bk c : Nat) (ls : List (List UInt8)) (B : Nat) (w : World) (h : w.ownsRow B 9 1 (.slice (some ⟨bk, 0, none⟩) ls.length c) ls.length (strCs (ls.map trimL))) (hM : tot ls ≤ 1073741824) :
    Calls Tryz.prog 162 #[.slice (some ⟨bk, 0, none⟩) ls.length c, .string ⟨#[10]⟩] w fun e w' => e = .returned (.string ⟨(joinT ls).toArray⟩) ∧ Below w.heap.size w w' := by
  have hx : (ls.map fun l => (⟨(trimL l).toArray⟩ : ByteArray)).length = ls.length := by simp
  have hj : Lib.join ((ls.map fun l => (⟨(trimL l).toArray⟩ : ByteArray)).map (·.data.toList)) [10] = joinT ls := by
    rw [joinT_join, List.map_map]
    rfl
  have hl := joinT_len ls
  have ht := tot_len ls
  have hnc : ls.length ≤ c := by
    rcases h.2 with ⟨hh, _⟩ | ⟨g', cap', cur, hv, _, _, hnc, _⟩
    · cases hh
    · cases hv; exact hnc
  have hc := sh_join bk 0 c (ls.map fun l => (⟨(trimL l).toArray⟩ : ByteArray)) w (fun j x hj => by
      have := h.cells (g := bk) rfl j (.string x) (by
        rw [strCs, List.map_map, List.getElem?_map]
        rw [List.getElem?_map] at hj
        cases hl : ls[j]? with
        | none => rw [hl] at hj; cases hj
        | some a => rw [hl] at hj; simp at hj; subst hj; rfl)
      rw [Addr.add_lit] at this
      exact this) ((h.lt bk rfl).2) (by rw [hx]; omega) (by rw [hx]; exact hnc) (by rw [hj]; omega)
  rw [hx, hj] at hc
  exact hc

theorem kind_zero (s : ByteArray) (d : Int) : kindOf (startsS s d) = 0 ↔ startsS s d = 0 := by
  have h1 : startsS s d = 0 ∨ startsS s d = 2 ∨ startsS s d = 3 ∨ startsS s d = 4 ∨ startsS s d = 5 := by
    unfold startsS
    split
    · simp
    split
    · simp
    split
    · simp
    split <;> simp
  rcases h1 with h | h | h | h | h <;> rw [h] <;> decide

theorem drop_facts {ls rs : List (List UInt8)} {l : List UInt8} {k : Nat} (h : l :: rs = ls.drop k) : ∃ hk : k < ls.length, ls[k] = l ∧ ls.drop (k + 1) = rs := by
  have hk : k < ls.length := by
    rcases Nat.lt_or_ge k ls.length with hk | hk
    · exact hk
    · rw [List.drop_eq_nil_iff.2 hk] at h; cases h
  rw [List.drop_eq_getElem_cons hk] at h
  injection h with h1 h2
  exact ⟨hk, h1.symm, h2.symm⟩

set_option maxRecDepth 100000 in
set_option maxHeartbeats 4000000 in
theorem dpara_any (q : Tel) (hq : q.Ok) (acc : List Stp) (depth : Int) (g o cap a : Nat) (ls : List (List UInt8)) (W : World) (hT : q.Told acc W) (hlen : acc.length + 2 ≤ 1099511627776) (hS : Strs g o cap ls W) (hM : tot ls ≤ 1073741824) (h1 : 1 ≤ paraFrom ls depth 0) (ha : a + ls.length ≤ 4294967296) :
    Calls Tryz.prog 133 #[.agg #[.func (.func q.kd) #[] #[.pointer (some ⟨q.bd, 0, none⟩)], .func (.func q.kl) #[] #[.pointer (some ⟨q.bl, 0, none⟩)]], .agg #[.slice (some ⟨g, o, none⟩) ls.length cap, .int .i64 a, .int .i64 depth]] W fun e w' =>
      e = .returned (.int .i64 ((paraFrom ls depth 0 : Nat) : Int)) ∧ (∃ S, SpOk a (a + paraFrom ls depth 0) S (leafS 0 0 (joinT (ls.take (paraFrom ls depth 0)))) ∧ q.Told (acc ++ S) w') ∧ Kt q none W.heap.size W w' := by
  obtain ⟨i0, hi, hz0, hz1, hz2⟩ := info_parts Tryz.infoStr
  have hglt := hS.lt
  have hll := tot_len ls
  have hfit := hS.fits
  have hmax := hS.max
  obtain ⟨W2, hW2, z2, hK, hK3⟩ := fp_frame q hq acc W hT (.slice (some ⟨g, o, none⟩) ls.length cap) (.int .i64 a) (.int .i64 depth)
  obtain ⟨⟨⟨k1, k2⟩, ⟨k3, k4, k5⟩⟩, hb02, _⟩ := hK W2 (Below.refl _ W2)
  have HM : Hid (tot ls ≤ 1073741824) := hM
  have HK : Hid _ := hK
  have HK3 : Hid _ := hK3
  have HS0 : Hid (Strs g o cap ls W2) := hS.below hb02 hglt
  have HQ : Hid q.Ok := hq
  obtain ⟨pf, hpf⟩ : ∃ pf, paraFrom ls depth 0 = pf := ⟨_, rfl⟩
  have hpl : pf ≤ ls.length := by rw [← hpf]; exact (scan_le (stays depth) ls 0 (Nat.zero_le _)).1
  rw [hpf] at h1 ⊢
  obtain ⟨jt, hjt⟩ : ∃ jt, joinT (ls.take pf) = jt := ⟨_, rfl⟩
  rw [hjt]
  have HJT : Hid (joinT (ls.take pf) = jt) := hjt
  have HSp : Hid (SpOk a (a + pf) ([.ev ⟨0, false, 0, []⟩] ++ (if jt = [] then [] else [.leaf jt a (a + pf)]) ++ [.ev ⟨0, true, 0, []⟩]) (leafS 0 0 jt)) := SpOk.leaf a pf h1 0 0 jt (by decide) (by decide)
  have HF : Hid (∀ w6, Below W2.heap.size W2 w6 → Calls Tryz.prog 154 #[.agg #[.func (.func q.kd) #[] #[.pointer (some ⟨q.bd, 0, none⟩)], .func (.func q.kl) #[] #[.pointer (some ⟨q.bl, 0, none⟩)]], .agg #[.int .i64 0, .bool false, .int .i64 0, .string ⟨#[]⟩], .string ⟨jt.toArray⟩, .agg #[.int .i64 a, .int .i64 ((a : Int) + (pf : Int))]] w6 _) := fun w6 hb => withLeaf_any q hq acc 0 0 jt a (a + pf) w6 (hK w6 hb).2.2.1 hlen
  generalize ([Stp.ev ⟨0, false, 0, []⟩] ++ (if jt = [] then [] else [.leaf jt a (a + pf)]) ++ [.ev ⟨0, true, 0, []⟩]) = S at HF HSp
  have hcP := fun W => span_any (some ⟨g, o, none⟩) ls.length cap a pf depth W (by omega)
  clear hT hS hq hK hK3 hjt
  have hg2 : g < W2.heap.size := by omega
  have z3 : W2.heap.size ≤ W.heap.size + 2 ∧ W.heap.size + 2 ≤ W2.heap.size := by omega
  clear z2
  go_enter Tryz.func133, Tryz.ntmps133
  go_wp2
  go_loopw [5, 11] (fun v5 i wr => ∃ k : Nat, k ≤ ls.length ∧ i = .int .i64 k ∧ wr.ownsRow W2.heap.size 9 1 v5 k (strCs ((ls.take k).map trimL)) ∧ Below W2.heap.size W2 wr ∧ Hid (paraFrom ls depth k = pf)) (fun _ i _ => ls.length - (intOf i).toNat)
  case atStart => exact ⟨0, Nat.zero_le _, rfl, (by simpa [strCs] using World.ownsRow_nil _ _ _ _), Below.refl _ _, hpf⟩
  case round =>
    clear hpf
    obtain ⟨k, hk, rfl, hown, hbel, HP⟩ := hrel
    have hbs := hbel.size
    have hgwr : g < wr.heap.size := by omega
    obtain ⟨⟨⟨r1, r2⟩, ⟨r3, r4, r5⟩⟩, _⟩ := HK.out wr hbel
    have hfin : pf = k → ∃ gl cl, u5 = .slice (some ⟨gl, 0, none⟩) k cl ∧ Hid (∀ w', Below wr.heap.size wr w' → Calls Tryz.prog 162 #[.slice (some ⟨gl, 0, none⟩) k cl, .string ⟨#[10]⟩] w' fun e w'' => e = .returned (.string ⟨jt.toArray⟩) ∧ Below w'.heap.size w' w'') := by
      intro hk
      have hlt : (ls.take k).length = k := by rw [List.length_take]; omega
      rcases Joins.ownsRow_forms hown with ⟨rfl, h0⟩ | ⟨gl, cl, rfl⟩
      · omega
      · refine ⟨gl, cl, rfl, ?_⟩
        intro w' hb
        have := join_own gl cl (ls.take k) W2.heap.size w' (by rw [hlt]; exact own_below hown hb (Nat.le_refl _)) (Nat.le_trans (tot_take ls k) HM.out)
        rw [hlt] at this
        rw [← HJT.out, hk]
        exact this
    by_cases hlt : k < ls.length
    · obtain ⟨l, hlk⟩ : ∃ l, ls[k] = l := ⟨_, rfl⟩
      have hcell := (HS0.out.below hbel hg2).cell k l (by rw [List.getElem?_eq_getElem hlt, hlk])
      have hsz : l.length ≤ 1073741824 := Nat.le_trans (tot_mem (by rw [← hlk]; exact List.getElem_mem hlt)) HM.out
      have hcB := fun W => dblank_any ⟨l.toArray⟩ W (by rw [size_of]; omega)
      have hcS := fun W => dbegins_any ⟨l.toArray⟩ depth W (by rw [size_of]; omega)
      have hcT := fun W => dtrim_any ⟨l.toArray⟩ W (by rw [size_of]; omega)
      have hbl : blankS ⟨l.toArray⟩ = blankL l := rfl
      have htr : trimS ⟨l.toArray⟩ = ⟨(trimL l).toArray⟩ := rfl
      have hkz := kind_zero ⟨l.toArray⟩ depth
      have hst : stays depth l = (!blankL l && decide (startsS ⟨l.toArray⟩ depth = 0)) := rfl
      rw [hbl] at hcB
      rw [htr] at hcT
      have HTK : Hid (strCs ((ls.take (k + 1)).map trimL) = strCs ((ls.take k).map trimL) ++ [.string ⟨(trimL l).toArray⟩]) := by
        show _ = _
        rw [snoc_take ls k hlt, hlk]
        simp [strCs]
      generalize hbv : blankL l = bv at hcB hst
      generalize hsv : startsS ⟨l.toArray⟩ depth = sv at hcS hst hkz
      generalize hkv : kindOf sv = kv at hcS hkz
      generalize trimL l = tl at hcT HTK htr
      clear hbl htr hkv hsv hbv
      cases bv with
      | true =>
        have hkk : pf = k := by
          rw [← HP.out]
          exact para_at ls depth k hlt (by rw [hlk, hst]; rfl)
        obtain ⟨gl, cl, rfl, HJ⟩ := hfin hkk
        subst hkk
        clear h1 hown hst hkz hcS hcT HTK hfin hlk
        go_wp2_with (go_at_call 127; refine (hcB _).mono ?_; rintro e w1 ⟨rfl, b1⟩)
        have hBj : Below wr.heap.size wr w1.drew := b1.drew
        have hBT : Below W2.heap.size W2 w1.drew := hbel.trans (hBj.mono hbs)
        go_region_held3 (fun w' => (w'.cell? ⟨W.heap.size, 0, none⟩ = some (.func (.func q.kd) #[] #[.pointer (some ⟨q.bd, 0, none⟩)]) ∧ w'.cell? ⟨W.heap.size, 1, none⟩ = some (.func (.func q.kl) #[] #[.pointer (some ⟨q.bl, 0, none⟩)])) ∧ (w'.cell? ⟨W.heap.size + 1, 0, none⟩ = some (.slice (some ⟨g, o, none⟩) ls.length cap) ∧ w'.cell? ⟨W.heap.size + 1, 1, none⟩ = some (.int .i64 a) ∧ w'.cell? ⟨W.heap.size + 1, 2, none⟩ = some (.int .i64 depth))) (first | exact (HK3.out _ _ B6 (K7.mono B6.size)).1 | exact (HK.out _ B6).1 | exact (HK.out _ B4).1 | exact (HK.out _ hBT).1) (first | (go_at_call 162; refine (HJ.out _ hBj).mono ?_; rintro e w4 ⟨rfl, b4⟩; have B4 : Below W2.heap.size W2 w4 := hBT.trans (b4.mono hBT.size)) | (go_at_call 155; refine (hcP _).mono ?_; rintro e w6 ⟨rfl, b6⟩; have B6 : Below W2.heap.size W2 w6 := B4.trans (b6.mono B4.size)) | (go_at_call 154; refine (HF.out _ B6).mono ?_; rintro e w7 ⟨rfl, T7, K7⟩))
        go_wp2
        go_ret
        exact ⟨rfl, ⟨S, HSp.out, T7⟩, (HK3.out _ _ B6 (K7.mono B6.size)).2⟩
      | false =>
        by_cases hs0 : sv = 0
        · have hkv : kv = 0 := hkz.2 hs0
          subst hkv
          have HP2 : Hid (paraFrom ls depth (k + 1) = pf) := by
            show _ = _
            rw [← para_lt ls depth k hlt (by rw [hlk, hst, hs0]; rfl), HP.out]
          clear hst hkz hfin hs0
          go_wp2_with (first | (go_at_call 127; refine (hcB _).mono ?_; rintro e w1 ⟨rfl, b1⟩; have c1 := (b1.cell (p := ⟨W.heap.size + 1, 2, none⟩) (by show W.heap.size + 1 < wr.heap.size; omega)).trans r5) | (go_at_call 128; refine (hcS _).mono ?_; rintro e w' ⟨rfl, hw⟩; rw [hw]; clear hw) | (go_at_call 146; refine (hcT _).mono ?_; rintro e w2 ⟨rfl, b2⟩; have hown2 := own_below (own_below hown b1 (Nat.le_refl _)) b2 (Nat.le_refl _)) | (at_builtin; refine wpList_append_own _ rfl _ _ 25 rfl W2.heap.size 9 i0 (.string ⟨#[]⟩) 1 16 Tryz.underlying25 hi hz0 hz1 hz2 rfl (by decide) _ _ _ rfl (hown2.alloc _) ⟨w2.heap.size, 0, none⟩ 1 1 [.string ⟨tl.toArray⟩] rfl rfl ?d1 ?d2 ?d3 ?d4 ?d5 ?_))
          case d1 =>
            intro j u hj
            match j, hj with
            | 0, hj => simp at hj; subst hj; simp [Addr.add]
          case d2 => intro u hu; simp at hu; subst hu; rfl
          case d3 => unfold maxLen; omega
          case d4 => omega
          case d5 => have := b1.size; have := b2.size; simp; omega
          intro v' w3 own3 grow3 _
          have s1 := b1.size
          have s2 := b2.size
          have hb2 : Below W2.heap.size W2 w2 := (hbel.trans (b1.mono hbs)).trans (b2.mono (by omega))
          have hb3 : Below W2.heap.size W2 w3 := (hb2.alloc (by omega) _).grown grow3 (by simp; omega) (fun b hb => (hown2.lt b hb).1)
          have hown3 : w3.ownsRow W2.heap.size 9 1 v' (k + 1) (strCs ((ls.take (k + 1)).map trimL)) := by
            rw [HTK.out]
            simpa [strCs] using own3
          clear own3 grow3 hown2 hown
          go_wp2
          go_roundw
          case rel => exact ⟨k + 1, by omega, by go_num, hown3, hb3, HP2⟩
          case measure => simp [intOf]; omega
        · have hkk : pf = k := by
            rw [← HP.out]
            exact para_at ls depth k hlt (by rw [hlk, hst]; simpa using hs0)
          obtain ⟨gl, cl, rfl, HJ⟩ := hfin hkk
          subst hkk
          have hk0 : (kv == 0) = false := by
            rw [beq_eq_false_iff_ne]
            exact fun h => hs0 (hkz.1 h)
          clear h1 hown hst hkz hcT HTK hfin hlk hs0
          go_wp2_with (first | (go_at_call 127; refine (hcB _).mono ?_; rintro e w1 ⟨rfl, b1⟩; have c1 := (b1.cell (p := ⟨W.heap.size + 1, 2, none⟩) (by show W.heap.size + 1 < wr.heap.size; omega)).trans r5) | (go_at_call 128; refine (hcS _).mono ?_; rintro e w' ⟨rfl, hw⟩; rw [hw]; clear hw))
          have hBj : Below wr.heap.size wr w1.drew := b1.drew
          have hBT : Below W2.heap.size W2 w1.drew := hbel.trans (hBj.mono hbs)
          go_region_held3 (fun w' => (w'.cell? ⟨W.heap.size, 0, none⟩ = some (.func (.func q.kd) #[] #[.pointer (some ⟨q.bd, 0, none⟩)]) ∧ w'.cell? ⟨W.heap.size, 1, none⟩ = some (.func (.func q.kl) #[] #[.pointer (some ⟨q.bl, 0, none⟩)])) ∧ (w'.cell? ⟨W.heap.size + 1, 0, none⟩ = some (.slice (some ⟨g, o, none⟩) ls.length cap) ∧ w'.cell? ⟨W.heap.size + 1, 1, none⟩ = some (.int .i64 a) ∧ w'.cell? ⟨W.heap.size + 1, 2, none⟩ = some (.int .i64 depth))) (first | exact (HK3.out _ _ B6 (K7.mono B6.size)).1 | exact (HK.out _ B6).1 | exact (HK.out _ B4).1 | exact (HK.out _ hBT).1) (first | (go_at_call 162; refine (HJ.out _ hBj).mono ?_; rintro e w4 ⟨rfl, b4⟩; have B4 : Below W2.heap.size W2 w4 := hBT.trans (b4.mono hBT.size)) | (go_at_call 155; refine (hcP _).mono ?_; rintro e w6 ⟨rfl, b6⟩; have B6 : Below W2.heap.size W2 w6 := B4.trans (b6.mono B4.size)) | (go_at_call 154; refine (HF.out _ B6).mono ?_; rintro e w7 ⟨rfl, T7, K7⟩))
          go_wp2
          go_ret
          exact ⟨rfl, ⟨S, HSp.out, T7⟩, (HK3.out _ _ B6 (K7.mono B6.size)).2⟩
    · have hke : k = ls.length := by omega
      have hkk : pf = k := by
        rw [← HP.out]
        exact para_end ls depth k (by omega)
      obtain ⟨gl, cl, rfl, HJ⟩ := hfin hkk
      subst hkk
      have hnl : ¬ (pf : Int) < (ls.length : Int) := by omega
      clear h1 hown hfin hke hk hlt
      go_wp2
      have hBj : Below wr.heap.size wr wr.drew := (Below.refl _ wr).drew
      have hBT : Below W2.heap.size W2 wr.drew := hbel.trans (hBj.mono hbs)
      go_region_held3 (fun w' => (w'.cell? ⟨W.heap.size, 0, none⟩ = some (.func (.func q.kd) #[] #[.pointer (some ⟨q.bd, 0, none⟩)]) ∧ w'.cell? ⟨W.heap.size, 1, none⟩ = some (.func (.func q.kl) #[] #[.pointer (some ⟨q.bl, 0, none⟩)])) ∧ (w'.cell? ⟨W.heap.size + 1, 0, none⟩ = some (.slice (some ⟨g, o, none⟩) ls.length cap) ∧ w'.cell? ⟨W.heap.size + 1, 1, none⟩ = some (.int .i64 a) ∧ w'.cell? ⟨W.heap.size + 1, 2, none⟩ = some (.int .i64 depth))) (first | exact (HK3.out _ _ B6 (K7.mono B6.size)).1 | exact (HK.out _ B6).1 | exact (HK.out _ B4).1 | exact (HK.out _ hBT).1) (first | (go_at_call 162; refine (HJ.out _ hBj).mono ?_; rintro e w4 ⟨rfl, b4⟩; have B4 : Below W2.heap.size W2 w4 := hBT.trans (b4.mono hBT.size)) | (go_at_call 155; refine (hcP _).mono ?_; rintro e w6 ⟨rfl, b6⟩; have B6 : Below W2.heap.size W2 w6 := B4.trans (b6.mono B4.size)) | (go_at_call 154; refine (HF.out _ B6).mono ?_; rintro e w7 ⟨rfl, T7, K7⟩))
      go_wp2
      go_ret
      exact ⟨rfl, ⟨S, HSp.out, T7⟩, (HK3.out _ _ B6 (K7.mono B6.size)).2⟩

end Go.Proofs.YtljcljipppjnoaaGreatDoor
