import Derived.Test.YtkabhbbhliffcaaGreatDoorDevQuote
namespace Go.Proofs.YtkabhbbhliffcaaGreatDoor
open Go.RowKit Go.Shelf

/-- How many blank lines come first. -/
def nb (rs : List (List UInt8)) : Nat := (rs.takeWhile blankL).length
theorem nb_le (rs : List (List UInt8)) : nb rs ≤ rs.length := (List.takeWhile_sublist (l := rs) blankL).length_le
theorem nb_behind (ls : List (List UInt8)) (k : Nat) : behindS ls k = k + nb (ls.drop k) := rfl

set_option maxRecDepth 100000 in
set_option maxHeartbeats 1000000 in
theorem dblanks_any (g o cap : Nat) (rs : List (List UInt8)) (W : World) (hS : Strs g o cap rs W) (hM : tot rs ≤ 1073741824) :
    Calls Tryz.prog 62 #[.slice (some ⟨g, o, none⟩) rs.length cap] W fun e w' => e = .returned (.int .i64 (nb rs)) ∧ Below W.heap.size W w' := by
  have hglt := hS.lt
  have hll := tot_len rs
  have HS : Hid (Strs g o cap rs W) := hS
  have HM : Hid (tot rs ≤ 1073741824) := hM
  have hnb : nb rs = behindS rs 0 := by rw [nb_behind]; simp
  rw [hnb]
  clear hS hnb
  go_enter Tryz.func62, Tryz.ntmps62
  go_wp2
  go_loopw [3] (fun i wr => ∃ k : Nat, k ≤ rs.length ∧ i = .int .i64 k ∧ Below W.heap.size W wr ∧ Hid (behindS rs k = behindS rs 0)) (fun i _ => rs.length - (intOf i).toNat)
  case atStart => exact ⟨0, Nat.zero_le _, rfl, Below.refl _ _, (by show _ = _; rfl)⟩
  case round =>
    obtain ⟨k, hk, rfl, hbel, HN⟩ := hrel
    have hbs := hbel.size
    by_cases hlt : k < rs.length
    · obtain ⟨l, hl⟩ : ∃ l, rs[k] = l := ⟨_, rfl⟩
      have hcell := (HS.out.below hbel hglt).cell k l (by rw [List.getElem?_eq_getElem hlt, hl])
      have hsz : l.length ≤ 1073741824 := Nat.le_trans (tot_mem (by rw [← hl]; exact List.getElem_mem hlt)) HM.out
      have hcB := fun W => dblank_any ⟨l.toArray⟩ W (by rw [size_of]; omega)
      have hbl : blankS ⟨l.toArray⟩ = blankL l := rfl
      rw [hbl] at hcB
      cases hb : blankL l with
      | true =>
        have HN2 : Hid (behindS rs (k + 1) = behindS rs 0) := by
          show _ = _
          rw [← HN.out]
          exact (behind_lt rs k hlt (by rw [hl]; exact hb)).symm
        rw [hb] at hcB
        clear hb hbl hl HN
        go_wp2_with (go_at_call 38; refine (hcB _).mono ?_; rintro e w1 ⟨rfl, b1⟩)
        go_roundw
        case rel => exact ⟨k + 1, by omega, by go_num, hbel.trans (b1.mono hbs), HN2⟩
        case measure => simp [intOf]; omega
      | false =>
        have HF : Hid (behindS rs 0 = k) := by
          show _ = _
          rw [← HN.out]
          exact behind_at rs k hlt (by rw [hl]; exact hb)
        rw [hb] at hcB
        clear hb hbl hl HN
        go_wp2_with (go_at_call 38; refine (hcB _).mono ?_; rintro e w1 ⟨rfl, b1⟩)
        go_ret
        rw [HF.out]
        exact ⟨rfl, hbel.trans (b1.mono hbs)⟩
    · have HF : Hid (behindS rs 0 = k) := by
        show _ = _
        rw [← HN.out]
        exact behind_end rs k (by omega)
      go_wp2
      go_ret
      rw [HF.out]
      exact ⟨rfl, hbel⟩

theorem drop_at {ls : List (List UInt8)} {k n : Nat} (h : k + n < ls.length) : (ls.drop k)[n]'(by rw [List.length_drop]; omega) = ls[k + n] := by
  rw [List.getElem_drop]

set_option maxRecDepth 100000 in
set_option maxHeartbeats 4000000 in
theorem ditems_any (g o cap : Nat) (l0 : List UInt8) (r0 : List (List UInt8)) (W : World) (hS : Strs g o cap (l0 :: r0) W) (hM : tot (l0 :: r0) ≤ 1073741824) (hI : itemL l0 = true) :
    Calls Tryz.prog 60 #[.slice (some ⟨g, o, none⟩) (r0.length + 1) cap] W fun e w' => ∃ v1 v2, e = .returned (.tuple #[v1, v2]) ∧ w'.ownsRow W.heap.size 9 1 v1 (itemIn (l0 :: r0) 0).length (strCs (itemIn (l0 :: r0) 0)) ∧ RestV g ((l0 :: r0).drop (moreAt (l0 :: r0) 1).2) w' v2 ∧ Below W.heap.size W w' := by
  obtain ⟨i0, hi, hz0, hz1, hz2⟩ := info_parts Tryz.infoStr
  obtain ⟨ls, hls⟩ : ∃ ls, l0 :: r0 = ls := ⟨_, rfl⟩
  have hll := tot_len (l0 :: r0)
  have hlen : ls.length = r0.length + 1 := by rw [← hls]; simp
  rw [List.length_cons] at hll
  have hlsM : ls.length ≤ 1073741824 := by omega
  have hc0 := hS.cell 0 l0 rfl
  rw [Nat.add_zero] at hc0
  have hglt := hS.lt
  have hfit := hS.fits
  rw [List.length_cons] at hfit
  have hmax := hS.max
  have hsz0 : l0.length ≤ 1073741824 := by rw [tot_cons] at hM; omega
  have hb45 : beginsS ⟨l0.toArray⟩ ⟨#[45]⟩ = true := by
    have := item_eq ⟨l0.toArray⟩
    rw [show itemS ⟨l0.toArray⟩ = true from hI] at this
    cases h : beginsS ⟨l0.toArray⟩ ⟨#[45]⟩ with
    | true => rfl
    | false => rw [h] at this; cases this
  have hcM := fun W => dunm_any ⟨l0.toArray⟩ W hb45 (by rw [size_of]; omega)
  have hd2 : (⟨l0.toArray⟩ : ByteArray).data.toList.drop 2 = l0.drop 2 := rfl
  rw [hd2] at hcM
  have HJ0 : Hid ([l0.drop 2] ++ (moreAt ls 1).1 = itemIn ls 0) := by
    show _ = _
    rw [itemIn, ← hls]
    rfl
  have HB : Hid (Strs g (o + 1) (cap - 1) r0 W) := hS.drop 1 (by simp)
  have HA : Hid (cap ≤ 1 → Strs g o 0 r0 W) := fun hc => hS.none o r0 (by omega)
  have HR0 : Hid (r0 = ls.drop 1) := by show _ = _; rw [← hls]; rfl
  have HM : Hid (tot ls ≤ 1073741824) := by show _ ≤ _; rw [← hls]; exact hM
  rw [hls]
  obtain ⟨it, hit⟩ : ∃ it, itemIn ls 0 = it := ⟨_, rfl⟩
  obtain ⟨dr, hdr0⟩ : ∃ dr, ls.drop (moreAt ls 1).2 = dr := ⟨_, rfl⟩
  have hitl : it.length ≤ ls.length := by
    rw [← hit]
    have := (item_small ls 0 (by omega) _ (tot_small (Nat.le_refl (tot ls)))).2
    have h2 := (more_facts ls 1 (by omega)).2.1
    rw [Nat.zero_add] at this
    omega
  rw [hit, hdr0]
  rw [hit] at HJ0
  have HD : Hid (ls.drop (moreAt ls 1).2 = dr) := hdr0
  clear hS hM hI hb45 hd2 hls hit hdr0
  generalize l0.drop 2 = f0 at hcM HJ0
  go_enter Tryz.func60, Tryz.ntmps60
  go_upto_region 2 with (first | (go_at_call 75; refine (hcM _).mono ?_; rintro e w' ⟨rfl, hw⟩; rw [hw]; clear hw) | (at_builtin; refine wpList_append_own _ rfl _ _ 25 rfl W.heap.size 9 i0 (.string ⟨#[]⟩) 1 16 Tryz.underlying25 hi hz0 hz1 hz2 rfl (by decide) _ 0 [] rfl (World.ownsRow_nil _ _ _ _) ⟨W.heap.size, 0, none⟩ 1 1 [.string ⟨f0.toArray⟩] rfl rfl (str_cell _ _ rfl) (str_one _) (by decide) (by decide) (by simp) ?_; intro v0 w0 own0 grow0 _))
  have hbw0 : Below W.heap.size W w0 := ((Below.refl _ W).alloc (Nat.le_refl _) _).grown grow0 (by simp) (fun b hb => by cases hb)
  have hown0 : w0.ownsRow W.heap.size 9 1 v0 [f0].length (strCs [f0]) := by simpa [strCs] using own0
  clear own0 grow0
  go_cut [0] (fun v wx => wx = w0 ∧ ∃ o1 cap1, v = .slice (some ⟨g, o1, none⟩) r0.length cap1 ∧ Strs g o1 cap1 r0 W)
  case first =>
    go_wp2
    all_goals
      go_meet
      first | exact ⟨rfl, o + 1, cap - 1, rfl, HB.out⟩ | exact ⟨rfl, o, 0, rfl, HA.out (by omega)⟩
  case rest =>
    obtain ⟨hwc, o1, cap1, rfl, hSr⟩ := hcut
    rw [hwc]
    clear hwc HA HB hcM
    go_wp2
    go_loopg [0, 2] r0.length (fun gk v0 v2 wr => ∃ (k o1 cap1 : Nat) (rs xs : List (List UInt8)), v0 = .slice (some ⟨g, o1, none⟩) rs.length cap1 ∧ rs.length ≤ gk ∧ Hid (rs = ls.drop k) ∧ Hid (Strs g o1 cap1 rs W) ∧ wr.ownsRow W.heap.size 9 1 v2 xs.length (strCs xs) ∧ Below W.heap.size W wr ∧ Hid (xs ++ (moreAt ls k).1 = it ∧ (moreAt ls k).2 = (moreAt ls 1).2) ∧ rs.length ≤ cap1 ∧ cap1 ≤ 9223372036854775807 ∧ k + rs.length = ls.length)
    case atStart => exact ⟨1, o1, cap1, r0, [f0], rfl, Nat.le_refl _, HR0, hSr, hown0, hbw0, ⟨HJ0.out, rfl⟩, hSr.fits, hSr.max, by omega⟩
    case round =>
      clear hown0 hbw0 hSr HJ0 HR0
      obtain ⟨k, o2, cap2, rs, xs, rfl, hgk, HR, HS, hown, hbel, HJ, hc1, hc2, hkl⟩ := hrel
      have hbs := hbel.size
      have hgwr : g < wr.heap.size := by omega
      have hxl : xs.length ≤ ls.length := by
        have := congrArg List.length HJ.out.1
        rw [List.length_append] at this
        omega
      have hcN := dblanks_any g o2 cap2 rs wr (HS.out.below hbel hglt) (by rw [HR.out]; exact Nat.le_trans (tot_drop ls k) HM.out)
      have hnl := nb_le rs
      have hbk : behindS ls k = k + nb rs := by rw [nb_behind, HR.out]
      generalize nb rs = n at hcN hnl hbk
      have HE : moreAt ls k = ([], k) → Hid (xs = it ∧ ∀ w', Below W.heap.size W w' → RestV g dr w' (.slice (some ⟨g, o2, none⟩) rs.length cap2)) := by
        intro h
        have h1 := HJ.out.1
        have h2 := HJ.out.2
        rw [h] at h1 h2
        refine ⟨by simpa using h1, fun w' hb => ?_⟩
        rw [← HD.out, ← h2, ← HR.out]
        exact ⟨o2, cap2, rfl, HS.out.below hb hglt⟩
      by_cases hn : n < rs.length
      · obtain ⟨l, hl⟩ : ∃ l, ls[k + n]'(by omega) = l := ⟨_, rfl⟩
        have hrn : rs[n]? = some l := by
          rw [HR.out, List.getElem?_drop, List.getElem?_eq_getElem (by omega), hl]
        have hcell := (HS.out.below hbel hglt).cell n l hrn
        have hsz : l.length ≤ 1073741824 := Nat.le_trans (tot_mem (by rw [← hl]; exact List.getElem_mem _)) HM.out
        have hcI := fun W => dind_any ⟨l.toArray⟩ W
        have hne : ((n : Int) == (rs.length : Int)) = false := by rw [beq_eq_false_iff_ne]; omega
        cases ht : beginsS ⟨l.toArray⟩ ⟨#[32, 32]⟩ with
        | false =>
          have hm := more_no ls k (k + n) hbk (by omega) (by rw [hl]; exact ht)
          have HX := HE hm
          rw [ht] at hcI
          clear ht HE hm hbk hl
          go_wp2_with (first | (go_at_call 62; refine hcN.mono ?_; rintro e w1 ⟨rfl, b1⟩; have c1 := (b1.cell (p := ⟨g, o2 + n, none⟩) hgwr).trans hcell) | (go_at_call 76; refine (hcI _).mono ?_; rintro e w' ⟨rfl, hw⟩; rw [hw]; clear hw))
          go_ret2
          have hB1 : Below W.heap.size W w1 := hbel.trans (b1.mono hbs)
          rw [← HX.out.1]
          exact ⟨_, _, rfl, own_below hown b1 (Nat.le_refl _), HX.out.2 w1 hB1, hB1⟩
        | true =>
          have hm := more_go ls k (k + n) hbk (by omega) (by rw [hl]; exact ht)
          have HJ2 : Hid ((xs ++ List.replicate n [] ++ [l.drop 2]) ++ (moreAt ls (k + n + 1)).1 = it ∧ (moreAt ls (k + n + 1)).2 = (moreAt ls 1).2) := by
            have h1 := HJ.out.1
            have h2 := HJ.out.2
            rw [hm] at h1 h2
            rw [hl, show k + n - k = n by omega] at h1
            exact ⟨by simpa using h1, h2⟩
          have hxl2 : xs.length + n + 1 ≤ ls.length := by
            have := congrArg List.length HJ2.out.1
            simp only [List.length_append, List.length_replicate, List.length_singleton] at this
            omega
          have hcU := fun W => dunind_any ⟨l.toArray⟩ W ht
          have hd2 : (⟨l.toArray⟩ : ByteArray).data.toList.drop 2 = l.drop 2 := rfl
          rw [hd2] at hcU
          rw [ht] at hcI
          generalize l.drop 2 = fl at hcU HJ2
          clear ht HE hm hbk hl hd2
          go_wp2_with (first | (go_at_call 62; refine hcN.mono ?_; rintro e w1 ⟨rfl, b1⟩; have c1 := (b1.cell (p := ⟨g, o2 + n, none⟩) hgwr).trans hcell) | (go_at_call 76; refine (hcI _).mono ?_; rintro e w' ⟨rfl, hw⟩; rw [hw]; clear hw))
          have hB1 : Below W.heap.size W w1 := hbel.trans (b1.mono hbs)
          have hown1 := own_below hown b1 (Nat.le_refl _)
          clear hown
          go_loopw [2, 31] (fun v i wr2 => ∃ j : Nat, j ≤ n ∧ i = .int .i64 j ∧ wr2.ownsRow W.heap.size 9 1 v (xs.length + j) (strCs (xs ++ List.replicate j [])) ∧ Below W.heap.size W wr2) (fun _ i _ => n - (intOf i).toNat)
          case atStart => exact ⟨0, Nat.zero_le _, rfl, by simpa using hown1, hB1⟩
          case round =>
            clear hown1 hB1
            obtain ⟨j, hj, rfl, hown, hbel2⟩ := hrel
            have hbs2 := hbel2.size
            by_cases hjn : j < n
            · have HQ : Hid (strCs (xs ++ List.replicate (j + 1) []) = strCs (xs ++ List.replicate j []) ++ [.string ⟨#[]⟩]) := by
                show _ = _
                rw [List.replicate_succ', ← List.append_assoc]
                simp [strCs]
              go_wp2_with (at_builtin; refine wpList_append_own _ rfl _ _ 25 rfl W.heap.size 9 i0 (.string ⟨#[]⟩) 1 16 Tryz.underlying25 hi hz0 hz1 hz2 rfl (by decide) _ _ _ rfl (hown.alloc _) ⟨wr.heap.size, 0, none⟩ 1 1 [.string ⟨#[]⟩] rfl rfl (str_cell _ _ rfl) (str_one _) (by unfold maxLen; omega) (by omega) (by simp; omega) ?_; intro v' w2 own2 grow2 _)
              go_roundw
              case rel =>
                refine ⟨j + 1, by omega, by go_num, ?_, (hbel2.alloc hbs2 _).grown grow2 (by simp; omega) (fun b hb => (hown.lt b hb).1)⟩
                rw [HQ.out]
                exact own2
              case measure => simp [intOf]; omega
            · have hjn2 : j = n := by omega
              subst hjn2
              have hcell2 := (HS.out.below hbel2 hglt).cell j l hrn
              have HQ : Hid (strCs (xs ++ List.replicate j [] ++ [fl]) = strCs (xs ++ List.replicate j []) ++ [.string ⟨fl.toArray⟩] ∧ (xs ++ List.replicate j [] ++ [fl]).length = xs.length + j + 1) := ⟨by simp [strCs], by simp; omega⟩
              have HD2 : Hid (rs.drop (j + 1) = ls.drop (k + j + 1)) := by
                show _ = _
                rw [HR.out, List.drop_drop]
                congr 1
              have HS2 : Hid (RestV g (rs.drop (j + 1)) W (.slice (some ⟨g, o2 + (j + 1), none⟩) (rs.length - (j + 1)) (cap2 - (j + 1)))) := rest_at HS.out (j + 1) (by omega)
              have HS3 : Hid (cap2 ≤ j + 1 → RestV g (rs.drop (j + 1)) W (.slice (some ⟨g, o2, none⟩) (rs.length - (j + 1)) 0)) := fun hc => rest_no HS.out (j + 1) (by omega) hc
              have hdl : (rs.drop (j + 1)).length = rs.length - (j + 1) := List.length_drop
              generalize rs.drop (j + 1) = rs2 at HD2 HS2 HS3 hdl
              go_wp2_with (first | (go_at_call 77; refine (hcU _).mono ?_; rintro e w' ⟨rfl, hw⟩; rw [hw]; clear hw) | (at_builtin; refine wpList_append_own _ rfl _ _ 25 rfl W.heap.size 9 i0 (.string ⟨#[]⟩) 1 16 Tryz.underlying25 hi hz0 hz1 hz2 rfl (by decide) _ _ _ rfl (hown.alloc _) ⟨wr.heap.size, 0, none⟩ 1 1 [.string ⟨fl.toArray⟩] rfl rfl (str_cell _ _ rfl) (str_one _) (by unfold maxLen; omega) (by omega) (by simp; omega) ?_; intro v' w2 own2 grow2 _))
              all_goals
                have hB2 : Below W.heap.size W w2 := (hbel2.alloc hbs2 _).grown grow2 (by simp; omega) (fun b hb => (hown.lt b hb).1)
                have hown2 : w2.ownsRow W.heap.size 9 1 v' (xs ++ List.replicate j [] ++ [fl]).length (strCs (xs ++ List.replicate j [] ++ [fl])) := by
                  rw [HQ.out.1, HQ.out.2]
                  exact own2
                go_roundg rs2.length
                case measure => omega
                case rel =>
                  first
                  | (obtain ⟨o3, cap3, he, hs3⟩ := HS2.out; exact ⟨k + j + 1, o3, cap3, rs2, _, he, Nat.le_refl _, HD2, hs3, hown2, hB2, HJ2, hs3.fits, hs3.max, by omega⟩)
                  | (obtain ⟨o3, cap3, he, hs3⟩ := HS3.out (by omega); exact ⟨k + j + 1, o3, cap3, rs2, _, he, Nat.le_refl _, HD2, hs3, hown2, hB2, HJ2, hs3.fits, hs3.max, by omega⟩)
      · have hne : n = rs.length := by omega
        have hm := more_end ls k (k + n) hbk (by omega)
        have HX := HE hm
        subst hne
        clear HE hm hbk
        go_wp2_with (go_at_call 62; refine hcN.mono ?_; rintro e w1 ⟨rfl, b1⟩)
        go_ret2
        have hB1 : Below W.heap.size W w1 := hbel.trans (b1.mono hbs)
        rw [← HX.out.1]
        exact ⟨_, _, rfl, own_below hown b1 (Nat.le_refl _), HX.out.2 w1 hB1, hB1⟩

end Go.Proofs.YtkabhbbhliffcaaGreatDoor
