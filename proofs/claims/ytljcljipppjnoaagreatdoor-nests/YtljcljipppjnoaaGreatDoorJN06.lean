import Derived.Test.YtljcljipppjnoaaGreatDoorJN04
import Derived.Test.YtljcljipppjnoaaGreatDoorJN05
import Derived.Deep.CutBlock
import Derived.Deep.DeepCutAuto
import Derived.Deep.QuietTactic
namespace Go.Proofs.YtljcljipppjnoaaGreatDoor
open Go.RowKit
set_option maxRecDepth 100000 in
set_option maxHeartbeats 2000000 in
theorem ns_walk (tx : ByteArray) (W : World) (EV : List Ev) (oe on : Int) (h1 : tx.size ≤ 1048576) (hlen : EV.length ≤ 4804) (HNE : Hid (nestS [] (-1) EV = some []))
    (cA : Calls Tryz.prog 29 #[] W fun e w' => e = .returned (.bool true) ∧ Below W.heap.size W w')
    (cW : ∀ w, Calls Tryz.prog 31 #[.string tx] w fun e w' => e = .returned (.agg #[.string tx, .slice none 0 0, .int .i64 0, .bool false]) ∧ Below w.heap.size w w')
    (CP : Hid (∀ w, Below W.heap.size W w → Calls Tryz.prog 30 #[.agg #[.string tx, .slice none 0 0, .int .i64 0, .bool false]] w fun e w' => ∃ p ln cp, e = .returned (.tuple #[.slice p ln cp, .agg #[.int .i64 oe, .int .i64 on]]) ∧ w'.ownsRow 0 39 4 (.slice p ln cp) EV.length (evCs EV) ∧ Below w.heap.size w w')) :
    Calls Tryz.prog 9 #[.string tx] W fun e w' => e = .returned (.bool true) ∧ Below W.heap.size W w' := by
  have g1 : decide ((1048576 : Int) < (tx.size : Int)) = false := by simp; omega
  obtain ⟨j0, hj, hy0, hy1, hy2⟩ := info_parts Tryz.infoPlain
  have HJ : Hid _ := hj
  have HY0 : Hid _ := hy0
  have HY1 : Hid _ := hy1
  have HY2 : Hid _ := hy2
  clear h1 hj hy0 hy1 hy2
  go_enter Tryz.func9, Tryz.ntmps9
  go_upto_region 6 with (first
    | (go_at_call 29; refine cA.mono ?_; rintro e w1 ⟨rfl, b1⟩)
    | (go_at_call 31; refine (cW _).mono ?_; rintro e w5 ⟨rfl, b5⟩)
    | (go_at_call 30; refine (CP.out w5 (b1.trans (b5.mono b1.size))).mono ?_; rintro e w6 ⟨p, ln, cp, rfl, O6, b6⟩))
  obtain ⟨w7, hw7⟩ : ∃ w7, w6.alloc (.cells #[.int .i64 oe, .int .i64 on] 43) = w7 := ⟨_, rfl⟩
  have b7 : Below w6.heap.size w6 w7 := by rw [← hw7]; exact (Below.refl _ w6).alloc (Nat.le_refl _) _
  have O7 := own_below O6 b7 (Nat.le_refl _)
  obtain ⟨a, cap7, hv, hc7⟩ : ∃ a cap7, Value.slice p ln cp = .slice a EV.length cap7 ∧ ∀ k, k < EV.length → ∃ g, a = some ⟨g, 0, none⟩ ∧ g < w7.heap.size ∧ ∀ (j : Nat) u, (evCs EV)[j]? = some u → w7.cell? ⟨g, j, none⟩ = some u := by
    rcases row_forms O7 with ⟨h, h0⟩ | ⟨g, cap, h, hg, _, hc⟩
    · exact ⟨none, 0, by rw [h, h0]; rfl, fun k hk => by rw [h0] at hk; simp at hk⟩
    · exact ⟨_, cap, h, fun k hk => ⟨g, rfl, hg, hc⟩⟩
  rw [hv, hw7]
  have Z7 : Hid (Below W.heap.size W w7) := by
    have := b1.trans (b5.mono b1.size)
    have := this.trans (b6.mono this.size)
    exact this.trans (b7.mono this.size)
  have HC : Hid _ := hc7
  clear hw7 b7 O7 O6 hv hc7 b5 b6 b1 CP cW cA
  go_wp2
  go_loopw [6, 7, 8, 9, 10, 11] (fun v i _ _ _ _ wr => ∃ k : Nat, k ≤ EV.length ∧ i = .int .i64 k ∧ ∃ st : List Ev, Hid (nestS [] (-1) (EV.take k) = some st) ∧ st.length ≤ k ∧ wr.ownsRow w7.heap.size 39 4 v st.length (evCs st) ∧ Below w7.heap.size w7 wr) (fun _ i _ _ _ _ _ => EV.length - (intOf i).toNat)
  case atStart => exact ⟨0, Nat.zero_le _, rfl, [], (by show _ = _; rfl), Nat.le_refl _, by simpa [evCs] using World.ownsRow_nil w7 w7.heap.size 39 4, Below.refl _ _⟩
  case round =>
    obtain ⟨k, hk, rfl, st, HS, hstk, hown, hbel⟩ := hrel
    have hbs := hbel.size
    by_cases hlt : k < EV.length
    · have d1 : decide ((k : Int) < (EV.length : Int)) = true := by simp; omega
      obtain ⟨ev, hev⟩ : ∃ ev, EV[k]? = some ev := ⟨EV[k], List.getElem?_eq_getElem hlt⟩
      obtain ⟨st', hst1, hst2⟩ := nest_step1 hev HNE.out HS.out
      obtain ⟨q0, q1, q2, q3⟩ := evCs_at EV k ev hev
      obtain ⟨g, rfl, hg, hcells⟩ := HC.out k hlt
      have a0 := (hbel.cell (p := ⟨g, k * 4, none⟩) hg).trans (hcells _ _ q0)
      have a1 := (hbel.cell (p := ⟨g, k * 4 + 1, none⟩) hg).trans (hcells _ _ q1)
      have a2 := (hbel.cell (p := ⟨g, k * 4 + 2, none⟩) hg).trans (hcells _ _ q2)
      have a3 := (hbel.cell (p := ⟨g, k * 4 + 3, none⟩) hg).trans (hcells _ _ q3)
      have hprev : Hid (∀ n : Nat, k = n + 1 → wr.cell? ⟨g, n * 4, none⟩ = some (.int .i64 (lastK (-1) (EV.take k)))) := by
        intro n hn
        obtain ⟨e2, he2⟩ : ∃ e2, EV[n]? = some e2 := ⟨EV[n], List.getElem?_eq_getElem (by omega)⟩
        obtain ⟨r0, _, _, _⟩ := evCs_at EV n e2 he2
        rw [(hbel.cell (p := ⟨g, n * 4, none⟩) hg).trans (hcells _ _ r0)]
        congr 2
        rw [hn, List.take_add_one, he2]
        exact (last_snoc' _ _ _).symm
      have HST : Hid (nestS [] (-1) (EV.take (k + 1)) = some st') := hst2
      generalize lastK (-1) (EV.take k) = pv at hst1 hprev
      clear q0 q1 q2 q3 hcells hst2 HS hev
      obtain ⟨ek, ef, el, et⟩ := ev
      simp only at a0 a1 a2 a3
      have HO : Hid _ := hown
      have HB : Hid _ := hbel
      clear hown hbel
      clear HC HNE
      rcases nest1_kinds hst1 with ⟨h8, rfl, ⟨r, o, rfl, hok⟩, hfin, hlev, htext⟩ | ⟨h8, hfin, r, o, rfl, hok, hol, hst9⟩ | ⟨h8, hfin, hl1, hl2, hl3, hin, rfl⟩
      · have hfin : ef = false := hfin
        have hlev : el = 0 := hlev
        have h8 : 8 ≤ ek := h8
        have htext : ek = 8 → et ≠ [] ∧ pv ≠ 8 := htext
        subst hfin
        subst hlev
        obtain ⟨g2, cap2, rfl, hg2, hb2, c0, _⟩ := row_last HO.out
        have hstk' : r.length + 1 ≤ k := by simpa using hstk
        obtain ⟨n, rfl⟩ : ∃ n, k = n + 1 := ⟨k - 1, by omega⟩
        have p0 := hprev.out n rfl
        generalize o.kind = ok at c0 hok
        have d8 : decide ((8 : Int) ≤ ek) = true := by simpa using h8
        have HT : Hid (ek = 8 → et ≠ [] ∧ pv ≠ 8) := htext
        have HK : Hid (¬ (2 ≤ ok ∧ ok ≤ 4)) := hok
        clear hprev hst1 htext hok
        go_upto_region 11 with fail
        obtain ⟨wx, hwx⟩ : ∃ wx, wr.alloc (.cells #[.int .i64 ek, .bool false, .int .i64 0, .string ⟨et.toArray⟩] 39) = wx := ⟨_, rfl⟩
        have bx : Below wr.heap.size wr wx := by rw [← hwx]; exact (Below.refl _ wr).alloc (Nat.le_refl _) _
        have ix : wx.heap[wr.heap.size]? = some (.cells #[.int .i64 ek, .bool false, .int .i64 0, .string ⟨et.toArray⟩] 39 (0, 0)) := by rw [← hwx]; exact heap_new _ _ rfl
        rw [hwx]
        have e0 := row_cell (i := 0) ix rfl
        have e1 := row_cell (i := 1) ix rfl
        have e2 := row_cell (i := 2) ix rfl
        have e3 := row_cell (i := 3) ix rfl
        have OX := own_below HO.out bx (Nat.le_refl _)
        have BX : Below w7.heap.size w7 wx := HB.out.trans (bx.mono HB.out.size)
        have cx := (bx.cell (p := ⟨g2, r.length * 4, none⟩) hg2).trans c0
        have px := (bx.cell (p := ⟨g, n * 4, none⟩) (by show g < wr.heap.size; omega)).trans p0
        have HOX : Hid _ := OX
        have HBX : Hid _ := BX
        have hn0 : ((r.length : Int) + 1 == 0) = false := by rw [beq_eq_false_iff_ne]; omega
        clear OX BX HO HB bx ix hwx c0 p0 a0 a1 a2 a3
        have y3 : decide ((2 : Int) ≤ ok) = false ∨ (decide ((2 : Int) ≤ ok) = true ∧ decide (ok ≤ 4) = false) := by
          have := HK.out
          by_cases h : 2 ≤ ok
          · exact Or.inr ⟨by simpa using h, by simp; omega⟩
          · exact Or.inl (by simpa using h)
        clear HK
        by_cases k8 : ek = 8
        · subst k8
          obtain ⟨t1, t2⟩ := HT.out rfl
          have y1 : et.isEmpty = false := by simpa using t1
          have y2 : (pv == (8 : Int)) = false := by simpa using t2
          clear HT t1 t2
          rcases y3 with y3 | ⟨y3, y4⟩
          all_goals
            go_wp2
            go_roundw
            case rel => exact ⟨n + 1 + 1, by omega, by go_num, r ++ [o], HST.out, by omega, HOX.out, HBX.out⟩
            case measure => simp [intOf]; omega
        · have n8 : (ek == (8 : Int)) = false := by simpa using k8
          clear HT k8
          rcases y3 with y3 | ⟨y3, y4⟩
          all_goals
            go_wp2
            go_roundw
            case rel => exact ⟨n + 1 + 1, by omega, by go_num, r ++ [o], HST.out, by omega, HOX.out, HBX.out⟩
            case measure => simp [intOf]; omega
      · have hst9 : r = st' := hst9.symm
        subst hst9
        have hfin : ef = true := hfin
        have h8 : ¬ 8 ≤ ek := h8
        have hok : o.kind = ek := hok
        have hol : o.level = el := hol
        subst hfin
        obtain ⟨g2, cap2, rfl, hg2, hb2, c0, c2⟩ := row_last HO.out
        rw [hok] at c0
        rw [hol] at c2
        have hstk' : r.length + 1 ≤ k := by simpa using hstk
        have d8 : decide ((8 : Int) ≤ ek) = false := by simpa using h8
        clear hprev hst1 hok hol
        go_upto_region 11 with fail
        obtain ⟨wx, hwx⟩ : ∃ wx, wr.alloc (.cells #[.int .i64 ek, .bool true, .int .i64 el, .string ⟨et.toArray⟩] 39) = wx := ⟨_, rfl⟩
        have bx : Below wr.heap.size wr wx := by rw [← hwx]; exact (Below.refl _ wr).alloc (Nat.le_refl _) _
        have ix : wx.heap[wr.heap.size]? = some (.cells #[.int .i64 ek, .bool true, .int .i64 el, .string ⟨et.toArray⟩] 39 (0, 0)) := by rw [← hwx]; exact heap_new _ _ rfl
        rw [hwx]
        have e0 := row_cell (i := 0) ix rfl
        have e1 := row_cell (i := 1) ix rfl
        have e2 := row_cell (i := 2) ix rfl
        have e3 := row_cell (i := 3) ix rfl
        have OX := own_below HO.out bx (Nat.le_refl _)
        have BX : Below w7.heap.size w7 wx := HB.out.trans (bx.mono HB.out.size)
        have cx := (bx.cell (p := ⟨g2, r.length * 4, none⟩) hg2).trans c0
        have cy := (bx.cell (p := ⟨g2, r.length * 4 + 2, none⟩) hg2).trans c2
        have OC : wx.ownsRow w7.heap.size 39 4 (.slice (some ⟨g2, 0, none⟩) r.length cap2) r.length (evCs r) := by
          have h0 : wx.ownsRow w7.heap.size 39 4 (.slice (some ⟨g2, 0, none⟩) (r.length + 1) cap2) (r.length + 1) (evCs (r ++ [o])) := by simpa using OX
          have h1 := own_cut h0 (Nat.le_succ r.length)
          rwa [evCs_init] at h1
        have hcap : r.length + 1 ≤ cap2 ∧ cap2 ≤ 9223372036854775807 := by
          rcases OX.2 with ⟨h0, _⟩ | ⟨g', cap', cur, hv, _, _, hnc, hcm, _, _⟩
          · cases h0
          · injection hv with _ _ hv3
            subst hv3
            simp only [maxLen] at hcm
            rw [List.length_append] at hnc
            exact ⟨hnc, by omega⟩
        have HOX : Hid (wx.ownsRow w7.heap.size 39 4 (.slice (some ⟨g2, 0, none⟩) r.length cap2) r.length (evCs r)) := OC
        have HBX : Hid _ := BX
        have hn0 : ((r.length : Int) + 1 == 0) = false := by rw [beq_eq_false_iff_ne]; omega
        clear OX OC BX HO HB bx ix hwx c0 c2 a0 a1 a2 a3
        go_upto_region 18 with fail
        go_quiet (fail)
        go_wp2
        go_roundw
        case rel => exact ⟨k + 1, by omega, by go_num, r, HST.out, by omega, HOX.out, HBX.out.trans ⟨rfl, rfl, rfl, Nat.le_refl _, fun _ _ => rfl⟩⟩
        case measure => simp [intOf]; omega
      · have hfin : ef = false := hfin
        have h8 : ¬ 8 ≤ ek := h8
        have hl1 : ek = 1 ↔ 0 < el := hl1
        have hl2 : el ≤ 3 := hl2
        have hl3 : 0 ≤ el := hl3
        have hin : insideS st ek = true := hin
        subst hfin
        obtain ⟨b0, cap0, hv⟩ : ∃ b0 cap0, u6 = .slice b0 st.length cap0 := by
          rcases row_forms HO.out with ⟨h, h0⟩ | ⟨g2, cap2, h, _⟩
          · exact ⟨none, 0, by rw [h, h0]; rfl⟩
          · exact ⟨_, _, h⟩
        subst hv
        have d8 : decide ((8 : Int) ≤ ek) = false := by simpa using h8
        clear hprev hst1
        go_upto_region 11 with fail
        obtain ⟨wx, hwx⟩ : ∃ wx, wr.alloc (.cells #[.int .i64 ek, .bool false, .int .i64 el, .string ⟨et.toArray⟩] 39) = wx := ⟨_, rfl⟩
        have bx : Below wr.heap.size wr wx := by rw [← hwx]; exact (Below.refl _ wr).alloc (Nat.le_refl _) _
        have ix : wx.heap[wr.heap.size]? = some (.cells #[.int .i64 ek, .bool false, .int .i64 el, .string ⟨et.toArray⟩] 39 (0, 0)) := by rw [← hwx]; exact heap_new _ _ rfl
        rw [hwx]
        have e0 := row_cell (i := 0) ix rfl
        have e1 := row_cell (i := 1) ix rfl
        have e2 := row_cell (i := 2) ix rfl
        have e3 := row_cell (i := 3) ix rfl
        have OX := own_below HO.out bx (Nat.le_refl _)
        have BX : Below w7.heap.size w7 wx := HB.out.trans (bx.mono HB.out.size)
        have LX : EvLie b0 st wx := by
          intro j u hj
          rcases row_forms OX with ⟨_, h0⟩ | ⟨g2, cap2, h, _, _, hc⟩
          · rw [h0] at hj; simp [evCs] at hj
          · injection h with h _ _
            exact ⟨g2, h, hc j u hj⟩
        have cI := inside_any b0 cap0 st ek wx (by omega) LX
        rw [hin] at cI
        have HOX : Hid (wx.ownsRow w7.heap.size 39 4 (.slice b0 st.length cap0) st.length (evCs st)) := OX
        have HBX : Hid _ := BX
        have HQ : Hid (evCs (st ++ [⟨ek, false, el, et⟩]) = evCs st ++ evCells ⟨ek, false, el, et⟩) := by show _ = _; rw [evCs_append, evCs_one]
        have m3 : decide ((3 : Int) < el) = false := by simp; omega
        have m4 : decide (el < 0) = false := by simp; omega
        have zs := BX.size
        have m1 : ((ek == (1 : Int)) = true ∧ decide ((0 : Int) < el) = true) ∨ ((ek == (1 : Int)) = false ∧ decide ((0 : Int) < el) = false) := by
          by_cases h : ek = 1
          · exact Or.inl ⟨by simpa using h, by simpa using hl1.1 h⟩
          · refine Or.inr ⟨by simpa using h, ?_⟩
            simp only [decide_eq_false_iff_not]
            exact fun x => h (hl1.2 x)
        clear OX BX HO HB bx ix hwx a0 a1 a2 a3 LX hin hl1 h8
        rcases m1 with ⟨m1, m2⟩ | ⟨m1, m2⟩
        all_goals
          go_wp2_with (first
            | (go_at_call 33; refine cI.mono ?_; rintro e w' ⟨rfl, hw⟩; rw [← hw]; clear hw)
            | (at_builtin; refine wpList_append_own _ rfl _ _ 22 rfl w7.heap.size 39 j0 (.agg #[.int .i64 0, .bool false, .int .i64 0, .string ⟨#[]⟩]) 4 40 Tryz.underlying22 HJ.out HY0.out HY1.out HY2.out rfl (by decide) _ _ _ rfl (HOX.out.alloc _) ⟨wx.heap.size, 0, none⟩ 1 1 (evCells ⟨ek, false, el, et⟩) rfl rfl (ev_cell _ _ _ rfl) (ev_one _) (by unfold maxLen; omega) (by omega) (by simp; omega) ?_; intro v' w2 own2 grow2 _))
          go_roundw
          case rel =>
            refine ⟨k + 1, by omega, by go_num, _, HST.out, by simp; omega, ?_, (HBX.out.alloc zs _).grown grow2 (by simp; omega) (fun b hb => (HOX.out.lt b hb).1)⟩
            rw [HQ.out]
            simpa using own2
          case measure => simp [intOf]; omega
    · have d1 : decide ((k : Int) < (EV.length : Int)) = false := by simp; omega
      have hke : k = EV.length := by omega
      have hst0 : st = [] := by
        have := HS.out
        rw [hke, List.take_length, HNE.out] at this
        injection this with this
        exact this.symm
      subst hst0
      obtain ⟨b0, cap0, rfl⟩ : ∃ b0 cap0, u6 = .slice b0 0 cap0 := by
        rcases row_forms hown with ⟨h, _⟩ | ⟨g, cap, h, _⟩
        · exact ⟨_, _, h⟩
        · exact ⟨_, _, h⟩
      have ZF : Hid (Below W.heap.size W wr) := Z7.out.trans (hbel.mono Z7.out.size)
      clear hke HS HNE HC hown
      go_wp2
      go_ret
      exact ⟨rfl, ZF.out⟩
end Go.Proofs.YtljcljipppjnoaaGreatDoor
