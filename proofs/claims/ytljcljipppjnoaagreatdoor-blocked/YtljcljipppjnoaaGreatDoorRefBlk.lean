import Derived.Test.YtljcljipppjnoaaGreatDoorRefBlkS
import Derived.Deep.CutBlock
import Derived.Deep.DeepCutAuto
namespace Go.Proofs.YtljcljipppjnoaaGreatDoor
open Go.RowKit

theorem Strs.none {g o cap : Nat} {ls : List (List UInt8)} {w : World} (h : Strs g o cap ls w) (o' : Nat) (r : List (List UInt8)) (hr : r.length = 0) : Strs g o' 0 r w := by
  have : r = [] := List.eq_nil_of_length_eq_zero hr
  subst this
  exact ⟨Nat.le_refl _, by omega, h.lt, fun j l hj => by simp at hj⟩
theorem level_le (l : List UInt8) : levelL l ≤ l.length := by
  have h : hashes l ≤ l.length := (List.takeWhile_sublist (l := l) _).length_le
  unfold levelL levelS
  simp only
  split
  · exact Nat.zero_le _
  · exact h

set_option maxRecDepth 100000 in
set_option maxHeartbeats 4000000 in
theorem rblocks_any (inner : List (List UInt8) → List Ev) (depth : Int) (hd : 0 ≤ depth ∧ depth ≤ 3) (hB : depth < 3 → BlocksC (depth + 1) inner) (hI : ∀ ls, (inner ls).length ≤ 12 * ls.length) : BlocksC depth (blocksF inner depth) := by
  intro v ls0 w hV hM0
  obtain ⟨j0, hj, hy0, hy1, hy2⟩ := info_parts Tryz.infoEv
  rcases hV with ⟨rfl, rfl⟩ | ⟨g, o, cap, rfl, hS⟩
  · have HZ : Hid (blocksF inner depth [] = []) := by show _ = _; simp [blocksF]
    go_enter Tryz.func15, Tryz.ntmps15
    go_wp2
    go_loopg [0, 5] 1 (fun gk v0 v5 wr => v0 = .slice none 0 0 ∧ v5 = .slice none 0 0 ∧ wr = w)
    case atStart => exact ⟨rfl, rfl, rfl⟩
    case round =>
      obtain ⟨rfl, rfl, rfl⟩ := hrel
      go_wp2
      go_ret
      rw [HZ.out]
      exact ⟨_, rfl, World.ownsRow_nil _ _ _ _, Below.refl _ _⟩
  · have hglt := hS.lt
    have hB' : Hid (depth < 3 → BlocksC (depth + 1) inner) := hB
    have hI' : Hid (∀ ls, (inner ls).length ≤ 12 * ls.length) := hI
    have hlen0 := hM0.1
    clear hB hI
    obtain ⟨hd1, hd2⟩ := hd
    go_enter Tryz.func15, Tryz.ntmps15
    go_wp2
    go_loopg [0, 5] ls0.length (fun gk v0 v5 wr => ∃ (o1 cap1 : Nat) (ls : List (List UInt8)) (done : List Ev), v0 = .slice (some ⟨g, o1, none⟩) ls.length cap1 ∧ ls.length ≤ gk ∧ Hid (Strs g o1 cap1 ls w) ∧ Hid (Small 1073741824 ls) ∧ wr.ownsRow w.heap.size 83 4 v5 done.length (evCs done) ∧ Below w.heap.size w wr ∧ Hid (done ++ blocksF inner depth ls = blocksF inner depth ls0) ∧ done.length + 16 * ls.length ≤ 16 * ls0.length ∧ ls.length ≤ cap1 ∧ cap1 ≤ 9223372036854775807)
    case atStart => exact ⟨o, cap, ls0, [], rfl, Nat.le_refl _, hS, hM0, World.ownsRow_nil _ _ _ _, Below.refl _ _, (by show _ = _; rfl), by simp, hS.fits, hS.max⟩
    case round =>
      clear hS hM0
      obtain ⟨o1, cap1, ls, done, rfl, hgk, HS, HM, hown, hbel, hJ, hdl, hc1, hc2⟩ := hrel
      have hbs := hbel.size
      cases ls with
      | nil =>
        have HF : Hid (blocksF inner depth ls0 = done) := by
          show _ = _
          rw [← hJ.out]
          simp [blocksF]
        clear hJ
        simp only [List.length_nil] at hdl hgk hc1
        go_wp2
        go_ret
        rw [HF.out]
        exact ⟨_, rfl, hown, hbel⟩
      | cons l r =>
        have hcell := (HS.out.below hbel hglt).cell 0 l rfl
        rw [Nat.add_zero] at hcell
        have hsz : l.length ≤ 1073741824 := HM.out.2 l (by simp)
        have hcB := fun W => rBlank_any ⟨l.toArray⟩ W (by rw [size_of]; omega)
        have hbl : blankS ⟨l.toArray⟩ = blankL l := rfl
        rw [hbl] at hcB
        simp only [List.length_cons] at hdl hgk hc1
        have hL : (l :: r).length = r.length + 1 := rfl
        rw [hL]
        cases hbb : blankL l with
        | true =>
          rw [hbb] at hcB
          have HN : Hid (done ++ blocksF inner depth r = blocksF inner depth ls0) := by
            show _ = _
            rw [← hJ.out, blocksF, if_pos hbb]
          clear hbb hbl hJ hL
          go_wp2_with (go_at_call 36; refine (hcB _).mono ?_; rintro e w' ⟨rfl, hw⟩; rw [hw]; clear hw)
          all_goals
            go_roundg r.length
            case measure => omega
            case rel => first | exact ⟨o1 + 1, cap1 - 1, r, done, rfl, Nat.le_refl _, HS.out.drop 1 (by simp), HM.out.drop 1, hown, hbel, HN, by omega, by omega, by omega⟩ | exact ⟨o1, 0, r, done, rfl, Nat.le_refl _, HS.out.none o1 r (by omega), HM.out.drop 1, hown, hbel, HN, by omega, by omega, by omega⟩
        | false =>
          rw [hbb] at hcB
          obtain ⟨X, hX⟩ : ∃ X, stepS inner depth l (l :: r) = X := ⟨_, rfl⟩
          have hfa := step_facts inner 12 depth hI'.out l r
          rw [hX, hL] at hfa
          obtain ⟨hx1, hx2, hx3⟩ := hfa
          have HN : Hid (done ++ (X.1 ++ blocksF inner depth (r.drop (X.2 - 1))) = blocksF inner depth ls0) := by
            show _ = _
            rw [← hJ.out, ← hX]
            conv => rhs; rw [blocksF, if_neg (by simp [hbb])]
          have hcS := fun W => rstarts_any ⟨l.toArray⟩ depth W (by rw [size_of]; omega)
          have hsn := starts_nat ⟨l.toArray⟩ depth
          obtain ⟨sv, hsv⟩ : ∃ sv, startsS ⟨l.toArray⟩ depth = sv := ⟨_, rfl⟩
          have h4 := starts4 ⟨l.toArray⟩ depth
          have h5 := starts5 ⟨l.toArray⟩ depth
          have h3 := starts3 ⟨l.toArray⟩ depth
          have HX : Hid (X = stepS inner depth l (l :: r) ∧ startsS ⟨l.toArray⟩ depth = sv) := ⟨hX.symm, hsv⟩
          rw [hsv] at hcS hsn h4 h5 h3
          clear hX hJ hbb hbl
          go_upto_block 2 with (first | (go_at_call 36; refine (hcB _).mono ?_; rintro e w' ⟨rfl, hw⟩; rw [hw]; clear hw) | (go_at_call 37; refine (hcS _).mono ?_; rintro e w' ⟨rfl, hw⟩; rw [hw]; clear hw))
          go_cut [8, 9] (fun v8 v9 wx => wx.ownsRow wr.heap.size 83 4 v8 X.1.length (evCs X.1) ∧ v9 = .int .i64 X.2 ∧ Below wr.heap.size wr wx)
          case first =>
            have hq : sv = 2 ∨ sv = 3 ∨ sv = 4 ∨ sv = 5 ∨ (sv ≠ 2 ∧ sv ≠ 3 ∧ sv ≠ 4 ∧ sv ≠ 5) := by omega
            rcases hq with rfl | rfl | rfl | rfl | ⟨q2, q3, q4, q5⟩
            · have hE : Hid (X = (leafS 5 0 (fencedT (l :: r)), fencedN (l :: r))) := by show _ = _; rw [HX.out.1, stepS, if_pos HX.out.2]
              have hc := rfenced_any g o1 cap1 (l :: r) wr (HS.out.below hbel hglt) HM.out (by simp)
              rw [hL] at hc
              replace hc : Calls Tryz.prog 38 #[.slice (some ⟨g, o1, none⟩) (r.length + 1) cap1] wr (fun e w' => ∃ v, e = .returned (.tuple #[v, .int .i64 X.2]) ∧ w'.ownsRow wr.heap.size 83 4 v X.1.length (evCs X.1) ∧ Below wr.heap.size wr w') := by rw [hE.out]; exact hc
              clear hE HX h3 h4 h5
              go_wp2_with (go_at_call 38; refine hc.mono ?_; rintro e w1 ⟨v, rfl, own1, bel1⟩)
              go_meet
              exact ⟨own1, rfl, bel1⟩
            · have hp := h3 rfl
              have hE : Hid (X = (leafS 1 (levelL l) (trimL (l.drop (levelL l))), 1)) := by show _ = _; rw [HX.out.1, stepS, if_neg (by rw [HX.out.2]; decide), if_pos HX.out.2]
              have hcL := fun W => rlevel_any ⟨l.toArray⟩ W (by rw [size_of]; omega)
              have hlv : levelS ⟨l.toArray⟩ = levelL l := rfl
              have hle := level_le l
              rw [hlv] at hcL hp
              generalize levelL l = k at hcL hp hE hle
              have hx := ba_ext l k l.length rfl
              have hs2 := size_of l
              have hcT := fun W => rtrim_any ⟨(l.drop k).toArray⟩ W (by rw [size_of, List.length_drop]; omega)
              have hts : trimS ⟨(l.drop k).toArray⟩ = ⟨(trimL (l.drop k)).toArray⟩ := rfl
              rw [hts, ← hx] at hcT
              have hcF : ∀ W, Calls Tryz.prog 41 #[.int .i64 1, .int .i64 k, .string ⟨(trimL (l.drop k)).toArray⟩] W (fun e w' => ∃ v, e = .returned v ∧ w'.ownsRow W.heap.size 83 4 v X.1.length (evCs X.1) ∧ Below W.heap.size W w') := by
                intro W
                rw [hE.out]
                exact rleaf_any 1 k ⟨(trimL (l.drop k)).toArray⟩ W
              have hX1 : Hid (X.2 = 1) := by show _ = _; rw [hE.out]
              generalize trimL (l.drop k) = tl at hcF hcT hts hE
              clear hE HX h3 h4 h5 hts hlv hx
              go_wp2_with (first | (go_at_call 39; refine (hcL _).mono ?_; rintro e w' ⟨rfl, hw⟩; rw [hw]; clear hw) | (go_at_call 40; refine (hcT _).mono ?_; rintro e w' ⟨rfl, hw⟩; rw [hw]; clear hw) | (go_at_call 41; refine (hcF _).mono ?_; rintro e w1 ⟨v, rfl, own1, bel1⟩))
              go_meet
              exact ⟨own1, by rw [hX1.out]; rfl, bel1⟩
            · have hE : Hid (X = (quoteS inner (l :: r), quoteN (l :: r))) := by show _ = _; rw [HX.out.1, stepS, if_neg (by rw [HX.out.2]; decide), if_neg (by rw [HX.out.2]; decide), if_pos HX.out.2]
              have hlt := (h4 rfl).2
              have hc := rquoted_any inner depth ⟨hd1, hlt⟩ (hB'.out hlt) (fun ls => by have := hI'.out ls; omega) g o1 cap1 (l :: r) wr (HS.out.below hbel hglt) HM.out
              rw [hL] at hc
              replace hc : Calls Tryz.prog 42 #[.slice (some ⟨g, o1, none⟩) (r.length + 1) cap1, .int .i64 depth] wr (fun e w' => ∃ v, e = .returned (.tuple #[v, .int .i64 X.2]) ∧ w'.ownsRow wr.heap.size 83 4 v X.1.length (evCs X.1) ∧ Below wr.heap.size wr w') := by rw [hE.out]; exact hc
              clear hE HX h3 h4 h5
              go_wp2_with (go_at_call 42; refine hc.mono ?_; rintro e w1 ⟨v, rfl, own1, bel1⟩)
              go_meet
              exact ⟨own1, rfl, bel1⟩
            · have hE : Hid (X = (listS inner (l :: r), listN inner (l :: r))) := by show _ = _; rw [HX.out.1, stepS, if_neg (by rw [HX.out.2]; decide), if_neg (by rw [HX.out.2]; decide), if_neg (by rw [HX.out.2]; decide), if_pos HX.out.2]
              have hlt := (h5 rfl).2
              have hc := rlisted_any inner depth ⟨hd1, hlt⟩ (hB'.out hlt) (fun ls => by have := hI'.out ls; omega) g o1 cap1 (l :: r) wr (HS.out.below hbel hglt) HM.out (by simp)
              rw [hL] at hc
              replace hc : Calls Tryz.prog 43 #[.slice (some ⟨g, o1, none⟩) (r.length + 1) cap1, .int .i64 depth] wr (fun e w' => ∃ v, e = .returned (.tuple #[v, .int .i64 X.2]) ∧ w'.ownsRow wr.heap.size 83 4 v X.1.length (evCs X.1) ∧ Below wr.heap.size wr w') := by rw [hE.out]; exact hc
              clear hE HX h3 h4 h5
              go_wp2_with (go_at_call 43; refine hc.mono ?_; rintro e w1 ⟨v, rfl, own1, bel1⟩)
              go_meet
              exact ⟨own1, rfl, bel1⟩
            · have hE : Hid (X = (leafS 0 0 (joinT ((l :: r).take (paraFrom (l :: r) depth 1))), paraFrom (l :: r) depth 1)) := by show _ = _; rw [HX.out.1, stepS, if_neg (by rw [HX.out.2]; exact q2), if_neg (by rw [HX.out.2]; exact q3), if_neg (by rw [HX.out.2]; exact q4), if_neg (by rw [HX.out.2]; exact q5)]
              have hc := rpara_any g o1 cap1 (l :: r) depth wr (HS.out.below hbel hglt) HM.out (by simp)
              rw [hL] at hc
              replace hc : Calls Tryz.prog 44 #[.slice (some ⟨g, o1, none⟩) (r.length + 1) cap1, .int .i64 depth] wr (fun e w' => ∃ v, e = .returned (.tuple #[v, .int .i64 X.2]) ∧ w'.ownsRow wr.heap.size 83 4 v X.1.length (evCs X.1) ∧ Below wr.heap.size wr w') := by rw [hE.out]; exact hc
              have e2 : (sv == 2) = false := by simpa using q2
              have e3 : (sv == 3) = false := by simpa using q3
              have e4 : (sv == 4) = false := by simpa using q4
              have e5 : (sv == 5) = false := by simpa using q5
              clear hE HX h3 h4 h5 q2 q3 q4 q5
              go_wp2_with (go_at_call 44; refine hc.mono ?_; rintro e w1 ⟨v, rfl, own1, bel1⟩)
              go_meet
              exact ⟨own1, rfl, bel1⟩
          case rest =>
            obtain ⟨own1, rfl, bel1⟩ := hcut
            have z1 := bel1.size
            have own0 := own_below hown bel1 (Nat.le_refl _)
            have B1 : Below w.heap.size w wc := hbel.trans (bel1.mono hbs)
            obtain ⟨n, hn⟩ : ∃ n, X.2 = n := ⟨_, rfl⟩
            obtain ⟨ev, hev⟩ : ∃ ev, X.1 = ev := ⟨_, rfl⟩
            rw [hn] at hx1 hx2 hx3 HN
            rw [hev] at hx3 HN own1
            rw [hn]
            clear HX h3 h4 h5 hcS hcB hn hev hsv hsn
            go_wp2_with (at_builtin; refine wpList_append_row _ rfl _ _ 27 rfl w.heap.size wr.heap.size 83 j0 (.agg #[.int .i64 0, .bool false, .int .i64 0, .string ⟨#[]⟩]) 4 40 Tryz.underlying27 hj hy0 hy1 hy2 rfl (by decide) _ _ _ rfl own0 _ _ _ rfl own1 (evCs_one' _) ?f3 ?f4 ?f5 ?_)
            case f3 => unfold maxLen; omega
            case f4 => omega
            case f5 => omega
            intro v5 w5 own5 grow5
            have B5 : Below w.heap.size w w5 := B1.grown grow5 (by omega) (fun b hb => (own0.lt b hb).1)
            have HD : Hid ((l :: r).drop n = r.drop (n - 1) ∧ (r.drop (n - 1)).length = r.length + 1 - n) := by
              refine ⟨?_, by rw [List.length_drop]; omega⟩
              obtain ⟨m, rfl⟩ : ∃ m, n = m + 1 := ⟨n - 1, by omega⟩
              simp
            have HS2 : Hid (Strs g (o1 + n) (cap1 - n) (r.drop (n - 1)) w) := by
              have := HS.out.drop n (by rw [hL]; exact hx2)
              rw [HD.out.1] at this
              exact this
            have HM2 : Hid (Small 1073741824 (r.drop (n - 1))) := by
              have := HM.out.drop n
              rw [HD.out.1] at this
              exact this
            have HN2 : Hid ((done ++ ev) ++ blocksF inner depth (r.drop (n - 1)) = blocksF inner depth ls0) := by
              show _ = _
              rw [List.append_assoc]
              exact HN.out
            have hlen2 := HD.out.2
            have own6 : w5.ownsRow w.heap.size 83 4 v5 (done ++ ev).length (evCs (done ++ ev)) := by
              rw [List.length_append, evCs_append]
              exact own5
            generalize r.drop (n - 1) = r2 at HD HS2 HM2 HN2 hlen2
            have hv1 : Hid (Value.slice (some ⟨g, o1 + n, none⟩) (r.length + 1 - n) (cap1 - n) = Value.slice (some ⟨g, o1 + n, none⟩) r2.length (cap1 - n)) := by show _ = _; rw [hlen2]
            have hv2 : Hid (Value.slice (some ⟨g, o1, none⟩) (r.length + 1 - n) 0 = Value.slice (some ⟨g, o1, none⟩) r2.length 0) := by show _ = _; rw [hlen2]
            clear own0 own1 bel1 grow5 own5 HN HS HM HD
            go_wp2
            all_goals
              go_roundg r2.length
              case measure => omega
              case rel => first | exact ⟨o1 + n, cap1 - n, r2, done ++ ev, hv1.out, Nat.le_refl _, HS2, HM2, own6, B5, HN2, by rw [List.length_append]; omega, by omega, by omega⟩ | exact ⟨o1, 0, r2, done ++ ev, hv2.out, Nat.le_refl _, HS2.out.none o1 r2 (by omega), HM2, own6, B5, HN2, by rw [List.length_append]; omega, by omega, by omega⟩

end Go.Proofs.YtljcljipppjnoaaGreatDoor
