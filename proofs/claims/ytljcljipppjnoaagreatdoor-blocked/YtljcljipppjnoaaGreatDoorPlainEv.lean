import Derived.Test.YtljcljipppjnoaaGreatDoorRefQuote
import Derived.OneCell
namespace Go.Proofs.YtljcljipppjnoaaGreatDoor
open Go.RowKit

set_option maxRecDepth 100000 in
set_option maxHeartbeats 1000000 in
theorem pevent_any (k l : Int) (b : Bool) (t : ByteArray) (W : World) :
    Calls Tryz.prog 48 #[.agg #[.int .i64 k, .bool b, .int .i64 l, .string t]] W fun e w' => e = .returned (.agg #[.int .i64 k, .bool b, .int .i64 l, .string t]) ∧ Below W.heap.size W w' := by
  go_enter Tryz.func48, Tryz.ntmps48
  go_wp2
  exact bodyPost_ret (v := .agg #[.int .i64 k, .bool b, .int .i64 l, .string t]) (by simp [results, Tryz.results48, go_sem]) rfl ⟨rfl, ((Below.refl _ W).alloc (Nat.le_refl _) _).alloc (by simp) _⟩

theorem evCs_at (evs : List Ev) (k : Nat) (e : Ev) (h : evs[k]? = some e) : (evCs evs)[k * 4]? = some (.int .i64 e.kind) ∧ (evCs evs)[k * 4 + 1]? = some (.bool e.fin) ∧ (evCs evs)[k * 4 + 2]? = some (.int .i64 e.level) ∧ (evCs evs)[k * 4 + 3]? = some (.string ⟨e.text.toArray⟩) := by
  induction evs generalizing k with
  | nil => simp at h
  | cons x r ih =>
    have e0 : evCs (x :: r) = evCells x ++ evCs r := by simp [evCs]
    have el : (evCells x).length = 4 := rfl
    rw [e0]
    cases k with
    | zero =>
      simp at h
      subst h
      exact ⟨rfl, rfl, rfl, rfl⟩
    | succ k =>
      simp only [List.getElem?_cons_succ] at h
      obtain ⟨h1, h2, h3, h4⟩ := ih k h
      refine ⟨?_, ?_, ?_, ?_⟩
      · rw [List.getElem?_append_right (by omega), el, show (k + 1) * 4 - 4 = k * 4 by omega]; exact h1
      · rw [List.getElem?_append_right (by omega), el, show (k + 1) * 4 + 1 - 4 = k * 4 + 1 by omega]; exact h2
      · rw [List.getElem?_append_right (by omega), el, show (k + 1) * 4 + 2 - 4 = k * 4 + 2 by omega]; exact h3
      · rw [List.getElem?_append_right (by omega), el, show (k + 1) * 4 + 3 - 4 = k * 4 + 3 by omega]; exact h4
theorem evs_snoc (evs : List Ev) (k : Nat) (e : Ev) (h : evs[k]? = some e) : evCs (evs.take (k + 1)) = evCs (evs.take k) ++ evCells e := by
  have hk : k < evs.length := (List.getElem?_eq_some_iff.1 h).1
  have he : evs[k] = e := (List.getElem?_eq_some_iff.1 h).2
  rw [List.take_succ_eq_append_getElem hk, evCs_append, evCs_one, he]
theorem set_row {w : World} {g i : Nat} {cur : Array Value} {t : TypeId} {v : Value} (h : w.heap[g]? = some (.cells cur t (0, 0))) : (w.setCell ⟨g, i, none⟩ v).heap[g]? = some (.cells (cur.setIfInBounds i v) t (0, 0)) := by
  have hlt := lt_of_block h
  have h' : w.heap[g] = .cells cur t (0, 0) := by simpa [Array.getElem?_eq_getElem hlt] using h
  show (w.heap.modify g _)[g]? = _
  rw [Array.getElem?_eq_getElem (by simpa using hlt)]
  simp only [Array.getElem_modify, if_true]
  rw [h']
  rfl
theorem row_cell {w : World} {g i : Nat} {cur : Array Value} {t : TypeId} {v : Value} (h : w.heap[g]? = some (.cells cur t (0, 0))) (hv : cur[i]? = some v) : w.cell? ⟨g, i, none⟩ = some v := by
  simp [World.cell?, h, hv]
theorem row_free {w : World} {g i : Nat} {cur : Array Value} {t : TypeId} (h : w.heap[g]? = some (.cells cur t (0, 0))) : w.frozen? ⟨g, i, none⟩ = false := by
  simp [World.frozen?, h]

theorem Tryz.infoPlain : (Tryz.prog.info? 39).map (fun i => (i.zero, i.size, i.bytes)) = some (some (.agg #[.int .i64 0, .bool false, .int .i64 0, .string ⟨#[]⟩]), 4, 40) := by kernel_rfl

set_option maxRecDepth 100000 in
set_option maxHeartbeats 2000000 in
theorem pevents_any (B : Nat) (v : Value) (evs : List Ev) (W : World) (hB : B ≤ W.heap.size) (hown : W.ownsRow B 92 4 v evs.length (evCs evs)) (hlen : evs.length ≤ 1099511627776) :
    Calls Tryz.prog 34 #[v] W fun e w' => ∃ v', e = .returned v' ∧ w'.ownsRow W.heap.size 39 4 v' evs.length (evCs evs) ∧ Below B W w' := by
  obtain ⟨j0, hj, hy0, hy1, hy2⟩ := info_parts Tryz.infoPlain
  obtain ⟨hl, hf⟩ := hown
  rcases hf with ⟨rfl, h0⟩ | ⟨g, cap, cur, rfl, hBg, hg, hnc, hcm, hcs, htk⟩
  · have : evs = [] := List.eq_nil_of_length_eq_zero h0
    subst this
    go_enter Tryz.func34, Tryz.ntmps34
    go_wp2
    go_loopg [3, 7] 1 (fun gk v3 v7 wr => v3 = .slice none 0 0 ∧ v7 = .int .i64 0 ∧ wr = W)
    case atStart => exact ⟨rfl, rfl, rfl⟩
    case round =>
      obtain ⟨rfl, rfl, rfl⟩ := hrel
      go_wp2
      go_ret
      exact ⟨_, rfl, by simpa [evCs] using World.ownsRow_nil _ _ _ _, Below.refl _ _⟩
  · have hcur : ∀ j, j < evs.length * 4 → cur[j]? = (evCs evs)[j]? := by
      intro j hj
      have := congrArg (fun l => l[j]?) htk
      simp only [List.getElem?_take_of_lt hj, Array.getElem?_toList] at this
      exact this
    have hglt := lt_of_block hg
    clear hl htk
    unfold maxLen at hcm
    go_enter Tryz.func34, Tryz.ntmps34
    go_wp2
    go_loopw [3, 7] (fun v3 v7 wr => ∃ (k : Nat) (cur2 : Array Value), k ≤ evs.length ∧ v7 = .int .i64 k ∧ wr.ownsRow W.heap.size 39 4 v3 k (evCs (evs.take k)) ∧ Below B W wr ∧ wr.heap[g]? = some (.cells cur2 92 (0, 0)) ∧ cur2.size = cap * 4 ∧ ∀ j, k * 4 ≤ j → j < evs.length * 4 → cur2[j]? = (evCs evs)[j]?) (fun _ v7 _ => evs.length - (intOf v7).toNat)
    case atStart => exact ⟨0, cur, Nat.zero_le _, rfl, by simpa [evCs] using World.ownsRow_nil _ _ _ _, Below.refl _ _, hg, hcs, fun j _ hj => hcur j hj⟩
    case round =>
      clear hcur hcs hg
      obtain ⟨k, cur2, hk, rfl, hown, hbel, hg, hcs, hcur⟩ := hrel
      have hbs := hbel.size
      by_cases hlt : k < evs.length
      · obtain ⟨ev, hev⟩ : ∃ ev, evs[k]? = some ev := ⟨evs[k], List.getElem?_eq_getElem hlt⟩
        obtain ⟨q0, q1, q2, q3⟩ := evCs_at evs k ev hev
        have c0 := row_cell hg ((hcur (k * 4) (by omega) (by omega)).trans q0)
        have c1 := row_cell hg ((hcur (k * 4 + 1) (by omega) (by omega)).trans q1)
        have c2 := row_cell hg ((hcur (k * 4 + 2) (by omega) (by omega)).trans q2)
        have c3 := row_cell hg ((hcur (k * 4 + 3) (by omega) (by omega)).trans q3)
        have hcE := fun W => pevent_any ev.kind ev.level ev.fin ⟨ev.text.toArray⟩ W
        have HS : Hid (evCs (evs.take (k + 1)) = evCs (evs.take k) ++ evCells ev) := evs_snoc evs k ev hev
        have HC : Hid (∀ j, k * 4 ≤ j → j < evs.length * 4 → cur2[j]? = (evCs evs)[j]?) := hcur
        have hq0 := (hcur (k * 4) (by omega) (by omega)).trans q0
        have hq1 := (hcur (k * 4 + 1) (by omega) (by omega)).trans q1
        have hq2 := (hcur (k * 4 + 2) (by omega) (by omega)).trans q2
        have hq3 := (hcur (k * 4 + 3) (by omega) (by omega)).trans q3
        clear hcur q0 q1 q2 q3 hev
        go_wp2_with (first | (go_at_call 48; refine (hcE _).mono ?_; rintro e w1 ⟨rfl, b1⟩; have hg1 := (b1.block g (by omega)).trans hg; have hown1 := own_below hown b1 (Nat.le_refl _); have s1 := b1.size) | (at_builtin; refine wpList_append_own _ rfl _ _ 22 rfl W.heap.size 39 j0 (.agg #[.int .i64 0, .bool false, .int .i64 0, .string ⟨#[]⟩]) 4 40 Tryz.underlying22 hj hy0 hy1 hy2 rfl (by decide) _ _ _ rfl (hown1.alloc _) ⟨w1.heap.size, 0, none⟩ 1 1 (evCells ev) rfl rfl (ev_cell _ _ _ (by simp)) (ev_one _) (by unfold maxLen; omega) (by omega) (by simp; omega) ?_; intro v' w2 own2 grow2 _; have hne : some g ≠ u3.ownBlock := (fun h => by have := (hown.lt g h.symm).1; omega); have hg2 := (grow2.block g (by simp; omega) hne).trans ((Below.heap_alloc w1 _ g (by omega)).trans hg1); have d0 := row_free (i := k * 4) hg2; have d1 := row_free (i := k * 4 + 1) hg2; have d2 := row_free (i := k * 4 + 2) hg2; have d3 := row_free (i := k * 4 + 3) hg2; have e0 := row_cell hg2 hq0; have e1 := row_cell hg2 hq1; have e2 := row_cell hg2 hq2; have e3 := row_cell hg2 hq3))
        go_roundw
        case rel =>
          have hb2 : Below B W w2 := ((hbel.trans (b1.mono (by omega))).alloc (by omega) _).grown grow2 (by simp; omega) (fun b hb => by have := (hown1.lt b hb).1; omega)
          have own3 : w2.ownsRow W.heap.size 39 4 v' (k + 1) (evCs (evs.take (k + 1))) := by rw [HS.out]; exact own2
          refine ⟨k + 1, _, by omega, by go_num, ownsRow_setCell_below (ownsRow_setCell_below (ownsRow_setCell_below (ownsRow_setCell_below own3 hglt _) hglt _) hglt _) hglt _, (((hb2.setCell (p := ⟨g, k * 4, none⟩) hBg _).setCell (p := ⟨g, k * 4 + 1, none⟩) hBg _).setCell (p := ⟨g, k * 4 + 2, none⟩) hBg _).setCell (p := ⟨g, k * 4 + 3, none⟩) hBg _, set_row (set_row (set_row (set_row hg2))), by simpa using hcs, ?_⟩
          intro j hj1 hj2
          rw [Array.getElem?_setIfInBounds_ne (by omega), Array.getElem?_setIfInBounds_ne (by omega), Array.getElem?_setIfInBounds_ne (by omega), Array.getElem?_setIfInBounds_ne (by omega)]
          exact HC.out j (by omega) hj2
        case measure => simp [intOf]; omega
      · have hke : k = evs.length := by omega
        subst hke
        rw [List.take_length] at hown
        go_wp2
        go_ret
        exact ⟨_, rfl, hown, hbel⟩

end Go.Proofs.YtljcljipppjnoaaGreatDoor
