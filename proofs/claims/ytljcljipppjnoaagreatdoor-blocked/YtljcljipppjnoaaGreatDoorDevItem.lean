import Derived.Test.YtljcljipppjnoaaGreatDoorDevQuote
namespace Go.Proofs.YtljcljipppjnoaaGreatDoor
open Go.RowKit Go.Shelf

/-- How many blank lines come first. -/
def nb (rs : List (List UInt8)) : Nat := (rs.takeWhile blankL).length
theorem nb_le (rs : List (List UInt8)) : nb rs ≤ rs.length := (List.takeWhile_sublist (l := rs) blankL).length_le
theorem nb_behind (ls : List (List UInt8)) (k : Nat) : behindS ls k = k + nb (ls.drop k) := rfl

set_option maxRecDepth 100000 in
set_option maxHeartbeats 1000000 in
theorem dblanks_any (g o cap : Nat) (rs : List (List UInt8)) (W : World) (hS : Strs g o cap rs W) (hM : tot rs ≤ 1073741824) :
    Calls Tryz.prog 161 #[.slice (some ⟨g, o, none⟩) rs.length cap] W fun e w' => e = .returned (.int .i64 (nb rs)) ∧ Below W.heap.size W w' := by
  have hglt := hS.lt
  have hll := tot_len rs
  have HS : Hid (Strs g o cap rs W) := hS
  have HM : Hid (tot rs ≤ 1073741824) := hM
  have hnb : nb rs = behindS rs 0 := by rw [nb_behind]; simp
  rw [hnb]
  clear hS hnb
  go_enter Tryz.func161, Tryz.ntmps161
  go_wp2
  go_loopw [3] (fun i wr => ∃ k : Nat, k ≤ rs.length ∧ i = .int .i64 k ∧ Below W.heap.size W wr ∧ Hid (behindS rs k = behindS rs 0)) (fun i _ => rs.length - (intOf i).toNat)
  case atStart => exact ⟨0, Nat.zero_le _, rfl, Below.refl _ _, (by show _ = _; rfl)⟩
  case round =>
    obtain ⟨k, hk, rfl, hbel, HN⟩ := hrel
    have hbs := hbel.size
    by_cases hlt : k < rs.length
    · obtain ⟨l, hl⟩ : ∃ l, rs[k] = l := ⟨_, rfl⟩
      have hcell := (HS.out.below hbel hglt).cell k l (by rw [List.getElem?_eq_getElem hlt, hl])
      have hsz : l.length ≤ 1073741824 := Nat.le_trans (tot_mem (by rw [← hl]; exact List.getElem_mem hlt)) HM.out
      have hcB := fun W => dblank_any ⟨l.toArray⟩ W (by rw [size_of]; omega)
      have hbl : blankS ⟨l.toArray⟩ = blankL l := rfl
      rw [hbl] at hcB
      cases hb : blankL l with
      | true =>
        have HN2 : Hid (behindS rs (k + 1) = behindS rs 0) := by
          show _ = _
          rw [← HN.out]
          exact (behind_lt rs k hlt (by rw [hl]; exact hb)).symm
        rw [hb] at hcB
        clear hb hbl hl HN
        go_wp2_with (go_at_call 127; refine (hcB _).mono ?_; rintro e w1 ⟨rfl, b1⟩)
        go_roundw
        case rel => exact ⟨k + 1, by omega, by go_num, hbel.trans (b1.mono hbs), HN2⟩
        case measure => simp [intOf]; omega
      | false =>
        have HF : Hid (behindS rs 0 = k) := by
          show _ = _
          rw [← HN.out]
          exact behind_at rs k hlt (by rw [hl]; exact hb)
        rw [hb] at hcB
        clear hb hbl hl HN
        go_wp2_with (go_at_call 127; refine (hcB _).mono ?_; rintro e w1 ⟨rfl, b1⟩)
        go_ret
        rw [HF.out]
        exact ⟨rfl, hbel.trans (b1.mono hbs)⟩
    · have HF : Hid (behindS rs 0 = k) := by
        show _ = _
        rw [← HN.out]
        exact behind_end rs k (by omega)
      go_wp2
      go_ret
      rw [HF.out]
      exact ⟨rfl, hbel⟩

theorem drop_at {ls : List (List UInt8)} {k n : Nat} (h : k + n < ls.length) : (ls.drop k)[n]'(by rw [List.length_drop]; omega) = ls[k + n] := by
  rw [List.getElem_drop]

theorem own_lit1 (W : World) (t : ByteArray) : (W.alloc (.cells #[.string t] 9)).ownsRow W.heap.size 9 1 (.slice (some ⟨W.heap.size, 0, none⟩) 1 1) 1 [.string t] :=
  ⟨rfl, Or.inr ⟨W.heap.size, 1, #[.string t], rfl, Nat.le_refl _, heap_alloc_new W _, Nat.le_refl _, by decide, rfl, rfl⟩⟩

set_option maxRecDepth 100000 in
set_option maxHeartbeats 1500000 in
theorem ditems_any (g o cap : Nat) (l0 : List UInt8) (r0 : List (List UInt8)) (W : World) (hS : Strs g o cap (l0 :: r0) W) (hM : tot (l0 :: r0) ≤ 1073741824) (hI : itemL l0 = true) :
    Calls Tryz.prog 160 #[.slice (some ⟨g, o, none⟩) (r0.length + 1) cap] W fun e w' => ∃ v1, e = .returned v1 ∧ w'.ownsRow W.heap.size 9 1 v1 (itemIn (l0 :: r0) 0).length (strCs (itemIn (l0 :: r0) 0)) ∧ Below W.heap.size W w' := by
  obtain ⟨i0, hi, hz0, hz1, hz2⟩ := info_parts Tryz.infoStr
  obtain ⟨ls, hls⟩ : ∃ ls, l0 :: r0 = ls := ⟨_, rfl⟩
  have hll := tot_len (l0 :: r0)
  have hlen : ls.length = r0.length + 1 := by rw [← hls]; simp
  rw [List.length_cons] at hll
  have hlsM : ls.length ≤ 1073741824 := by omega
  have hc0 := hS.cell 0 l0 rfl
  rw [Nat.add_zero] at hc0
  have hglt := hS.lt
  have hfit := hS.fits
  rw [List.length_cons] at hfit
  have hmax := hS.max
  have hsz0 : l0.length ≤ 1073741824 := by rw [tot_cons] at hM; omega
  have hb45 : beginsS ⟨l0.toArray⟩ ⟨#[45]⟩ = true := by
    have := item_eq ⟨l0.toArray⟩
    rw [show itemS ⟨l0.toArray⟩ = true from hI] at this
    cases h : beginsS ⟨l0.toArray⟩ ⟨#[45]⟩ with
    | true => rfl
    | false => rw [h] at this; cases this
  have hcM := fun W => dunm_any ⟨l0.toArray⟩ W hb45 (by rw [size_of]; omega)
  have hd2 : (⟨l0.toArray⟩ : ByteArray).data.toList.drop 2 = l0.drop 2 := rfl
  rw [hd2] at hcM
  have HJ0 : Hid ([l0.drop 2] ++ (moreAt ls 1).1 = itemIn ls 0) := by
    show _ = _
    rw [itemIn, ← hls]
    rfl
  have HS : Hid (Strs g o cap ls W) := by show Strs _ _ _ _ _; rw [← hls]; exact hS
  have HM : Hid (tot ls ≤ 1073741824) := by show _ ≤ _; rw [← hls]; exact hM
  rw [hls]
  obtain ⟨it, hit⟩ : ∃ it, itemIn ls 0 = it := ⟨_, rfl⟩
  have hitl : it.length ≤ ls.length := by
    rw [← hit]
    have := (item_small ls 0 (by omega) _ (tot_small (Nat.le_refl (tot ls)))).2
    have h2 := (more_facts ls 1 (by omega)).2.1
    rw [Nat.zero_add] at this
    omega
  rw [hit]
  rw [hit] at HJ0
  rw [← hlen]
  rw [← hlen] at hfit
  have h0 : 0 < ls.length := by omega
  clear hS hM hI hb45 hd2 hls hit hlen hll
  generalize l0.drop 2 = f0 at hcM HJ0
  have own0 : (W.alloc (.cells #[.string ⟨f0.toArray⟩] 9)).ownsRow W.heap.size 9 1 (.slice (some ⟨W.heap.size, 0, none⟩) 1 1) [f0].length (strCs [f0]) := own_lit1 W ⟨f0.toArray⟩
  go_enter Tryz.func160, Tryz.ntmps160
  go_wp2_with (go_at_call 183; refine (hcM _).mono ?_; rintro e w' ⟨rfl, hw⟩; rw [hw]; clear hw)
  go_loopg [3] ls.length (fun gk v3 wr => ∃ (k : Nat) (xs : List (List UInt8)), 1 ≤ k ∧ ls.length - k ≤ gk ∧ k ≤ ls.length ∧ wr.ownsRow W.heap.size 9 1 v3 k (strCs xs) ∧ Below W.heap.size W wr ∧ Hid (xs.length = k ∧ xs ++ (moreAt ls k).1 = it))
  case atStart => exact ⟨1, [f0], Nat.le_refl _, by omega, h0, own0, (Below.refl _ W).alloc (Nat.le_refl _) _, ⟨rfl, HJ0.out⟩⟩
  case round =>
    clear own0 HJ0 hcM hc0
    obtain ⟨k, xs, hk1, hgk, hk, hown, hbel, HJ⟩ := hrel
    obtain ⟨gl, cl, rfl⟩ : ∃ gl cl, u3 = .slice (some ⟨gl, 0, none⟩) k cl := by
      rcases Joins.ownsRow_forms hown with ⟨_, h⟩ | h
      · omega
      · exact h
    have hbs := hbel.size
    have hgwr : g < wr.heap.size := by omega
    have hNb : Strs g (o + k) (cap - k) (ls.drop k) wr := (HS.out.below hbel hglt).drop k hk
    have hMd : tot (ls.drop k) ≤ 1073741824 := Nat.le_trans (tot_drop ls k) HM.out
    have hcN := fun W' (hb : Below wr.heap.size wr W') => dblanks_any g (o + k) (cap - k) (ls.drop k) W' (hNb.below hb hgwr) hMd
    have hdl : (ls.drop k).length = ls.length - k := List.length_drop
    have hnl := nb_le (ls.drop k)
    have hbk : behindS ls k = k + nb (ls.drop k) := nb_behind ls k
    rw [hdl] at hcN hnl
    by_cases hkl : k < ls.length
    · have hck : ¬ cap = k := by omega
      generalize nb (ls.drop k) = n at hcN hnl hbk
      by_cases hn : n < ls.length - k
      · obtain ⟨l, hl⟩ : ∃ l, ls[k + n]'(by omega) = l := ⟨_, rfl⟩
        have hrn : (ls.drop k)[n]? = some l := by
          rw [List.getElem?_drop, List.getElem?_eq_getElem (by omega), hl]
        have hcell := hNb.cell n l hrn
        have hsz : l.length ≤ 1073741824 := Nat.le_trans (tot_mem (by rw [← hl]; exact List.getElem_mem _)) HM.out
        have hcI := fun W => dind_any ⟨l.toArray⟩ W
        have hne : ((n : Int) == ((ls.length - k : Nat) : Int)) = false := by rw [beq_eq_false_iff_ne]; omega
        cases ht : beginsS ⟨l.toArray⟩ ⟨#[32, 32]⟩ with
        | false =>
          have hm := more_no ls k (k + n) hbk (by omega) (by rw [hl]; exact ht)
          have HX : Hid (xs = it ∧ xs.length = k) := by
            have h1 := HJ.out.2
            rw [hm] at h1
            exact ⟨by simpa using h1, HJ.out.1⟩
          rw [ht] at hcI
          clear ht hm hbk hl hdl hNb hrn
          go_wp2_with (first | (go_at_call 161; refine (hcN _ (Below.refl _ _)).mono ?_; rintro e w1 ⟨rfl, b1⟩; have c1 := (b1.cell (p := ⟨g, o + k + n, none⟩) hgwr).trans hcell) | (go_at_call 184; refine (hcI _).mono ?_; rintro e w' ⟨rfl, hw⟩; rw [hw]; clear hw))
          go_ret
          have hB1 : Below W.heap.size W w1 := hbel.trans (b1.mono hbs)
          rw [← HX.out.1, HX.out.2]
          exact ⟨_, rfl, own_below hown b1 (Nat.le_refl _), hB1⟩
        | true =>
          have hm := more_go ls k (k + n) hbk (by omega) (by rw [hl]; exact ht)
          have HJ2 : Hid ((xs ++ List.replicate n [] ++ [l.drop 2]).length = k + n + 1 ∧ (xs ++ List.replicate n [] ++ [l.drop 2]) ++ (moreAt ls (k + n + 1)).1 = it) := by
            have h1 := HJ.out.2
            rw [hm] at h1
            rw [hl, show k + n - k = n by omega] at h1
            exact ⟨by simp [HJ.out.1]; omega, by simpa using h1⟩
          have hcU := fun W => dunind_any ⟨l.toArray⟩ W ht
          have hd2 : (⟨l.toArray⟩ : ByteArray).data.toList.drop 2 = l.drop 2 := rfl
          rw [hd2] at hcU
          rw [ht] at hcI
          generalize l.drop 2 = fl at hcU HJ2
          clear ht hm hbk hl hd2 hdl
          go_wp2_with (first | (go_at_call 161; refine (hcN _ (Below.refl _ _)).mono ?_; rintro e w1 ⟨rfl, b1⟩; have c1 := (b1.cell (p := ⟨g, o + k + n, none⟩) hgwr).trans hcell) | (go_at_call 184; refine (hcI _).mono ?_; rintro e w' ⟨rfl, hw⟩; rw [hw]; clear hw))
          have hB1 : Below W.heap.size W w1 := hbel.trans (b1.mono hbs)
          have hown1 := own_below hown b1 (Nat.le_refl _)
          have HN : Hid (Strs g (o + k) (cap - k) (ls.drop k) W) := HS.out.drop k hk
          clear hown hNb
          go_loopw [3, 31] (fun v i wr2 => ∃ j : Nat, j ≤ n ∧ i = .int .i64 j ∧ wr2.ownsRow W.heap.size 9 1 v (k + j) (strCs (xs ++ List.replicate j [])) ∧ Below W.heap.size W wr2) (fun _ i _ => n - (intOf i).toNat)
          case atStart => exact ⟨0, Nat.zero_le _, rfl, by simpa using hown1, hB1⟩
          case round =>
            clear hown1 hB1
            obtain ⟨j, hj, rfl, hown, hbel2⟩ := hrel
            have hbs2 := hbel2.size
            by_cases hjn : j < n
            · have HQ : Hid (strCs (xs ++ List.replicate (j + 1) []) = strCs (xs ++ List.replicate j []) ++ [.string ⟨#[]⟩]) := by
                show _ = _
                rw [List.replicate_succ', ← List.append_assoc]
                simp [strCs]
              go_wp2_with (at_builtin; refine wpList_append_own _ rfl _ _ 25 rfl W.heap.size 9 i0 (.string ⟨#[]⟩) 1 16 Tryz.underlying25 hi hz0 hz1 hz2 rfl (by decide) _ _ _ rfl (hown.alloc _) ⟨wr.heap.size, 0, none⟩ 1 1 [.string ⟨#[]⟩] rfl rfl (str_cell _ _ rfl) (str_one _) (by unfold maxLen; omega) (by omega) (by simp; omega) ?_; intro v' w2 own2 grow2 _)
              go_roundw
              case rel =>
                refine ⟨j + 1, by omega, by go_num, ?_, (hbel2.alloc hbs2 _).grown grow2 (by simp; omega) (fun b hb => (hown.lt b hb).1)⟩
                rw [HQ.out]
                exact own2
              case measure => simp [intOf]; omega
            · have hjn2 : j = n := by omega
              subst hjn2
              have hcell2 := (HN.out.below hbel2 hglt).cell j l hrn
              have HQ : Hid (strCs (xs ++ List.replicate j [] ++ [fl]) = strCs (xs ++ List.replicate j []) ++ [.string ⟨fl.toArray⟩]) := by show _ = _; simp [strCs]
              go_wp2_with (first | (go_at_call 185; refine (hcU _).mono ?_; rintro e w' ⟨rfl, hw⟩; rw [hw]; clear hw) | (at_builtin; refine wpList_append_own _ rfl _ _ 25 rfl W.heap.size 9 i0 (.string ⟨#[]⟩) 1 16 Tryz.underlying25 hi hz0 hz1 hz2 rfl (by decide) _ _ _ rfl (hown.alloc _) ⟨wr.heap.size, 0, none⟩ 1 1 [.string ⟨fl.toArray⟩] rfl rfl (str_cell _ _ rfl) (str_one _) (by unfold maxLen; omega) (by omega) (by simp; omega) ?_; intro v' w2 own2 grow2 _))
              have hB2 : Below W.heap.size W w2 := (hbel2.alloc hbs2 _).grown grow2 (by simp; omega) (fun b hb => (hown.lt b hb).1)
              have hown2 : w2.ownsRow W.heap.size 9 1 v' (k + j + 1) (strCs (xs ++ List.replicate j [] ++ [fl])) := by
                rw [HQ.out]
                exact own2
              go_roundg (ls.length - (k + j + 1))
              case measure => omega
              case rel => exact ⟨k + j + 1, _, by omega, Nat.le_refl _, by omega, hown2, hB2, HJ2⟩
      · have hne : ((n : Int) == ((ls.length - k : Nat) : Int)) = true := by rw [beq_iff_eq]; omega
        have hm := more_end ls k (k + n) hbk (by omega)
        have HX : Hid (xs = it ∧ xs.length = k) := by
          have h1 := HJ.out.2
          rw [hm] at h1
          exact ⟨by simpa using h1, HJ.out.1⟩
        clear hm hbk hdl hNb hnl hn
        go_wp2_with (go_at_call 161; refine (hcN _ (Below.refl _ _)).mono ?_; rintro e w1 ⟨rfl, b1⟩)
        go_ret
        have hB1 : Below W.heap.size W w1 := hbel.trans (b1.mono hbs)
        rw [← HX.out.1, HX.out.2]
        exact ⟨_, rfl, own_below hown b1 (Nat.le_refl _), hB1⟩
    · have hk0 : ls.length - k = 0 := by omega
      have hdn : ls.drop k = [] := List.drop_eq_nil_iff.2 (by omega)
      have hm := more_end ls k (k + nb (ls.drop k)) hbk (by omega)
      have HX : Hid (xs = it ∧ xs.length = k) := by
        have h1 := HJ.out.2
        rw [hm] at h1
        exact ⟨by simpa using h1, HJ.out.1⟩
      have hcZ := fun W' (hb : Below wr.heap.size wr W') => dblanks_any g o 0 [] W' (((HS.out.below hbel hglt).below hb hgwr).none o [] rfl) (by simp [tot])
      rw [hdn] at hcN
      rw [hk0] at hcN
      have hn0 : nb [] = 0 := rfl
      rw [hn0] at hcN hcZ
      clear hm hbk hdl hNb hnl hdn hMd
      have hk9 : ((0 : Int) == 0) = true := rfl
      by_cases hck : cap = k
      · clear hcN
        subst hck
        go_wp2_with (go_at_call 161; refine (hcZ _ (Below.refl _ _)).mono ?_; rintro e w1 ⟨rfl, b1⟩)
        go_ret
        have hB1 : Below W.heap.size W w1 := hbel.trans (b1.mono hbs)
        rw [← HX.out.1, HX.out.2]
        exact ⟨_, rfl, own_below hown b1 (Nat.le_refl _), hB1⟩
      · clear hcZ
        go_wp2_with (go_at_call 161; refine (hcN _ (Below.refl _ _)).mono ?_; rintro e w1 ⟨rfl, b1⟩)
        go_ret
        have hB1 : Below W.heap.size W w1 := hbel.trans (b1.mono hbs)
        rw [← HX.out.1, HX.out.2]
        exact ⟨_, rfl, own_below hown b1 (Nat.le_refl _), hB1⟩

end Go.Proofs.YtljcljipppjnoaaGreatDoor
