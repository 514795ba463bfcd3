import Derived.Test.YtljcljipppjnoaaDoorRefFind
import Derived.Test.YtljcljipppjnoaaDoorPlainEv
namespace Go.Proofs.YtljcljipppjnoaaDoor
open Go.RowKit

/-- Text behind some events: with text that stands there it is one. -/
def addS (evs : List Ev) (t : List UInt8) : List Ev :=
  match evs.getLast? with
  | some e => if e.kind = 8 then evs.dropLast ++ [⟨e.kind, e.fin, e.level, e.text ++ t⟩] else evs ++ [⟨8, false, 0, t⟩]
  | none => evs ++ [⟨8, false, 0, t⟩]
theorem add_last (pre : List Ev) (e : Ev) (t : List UInt8) : addS (pre ++ [e]) t = if e.kind = 8 then pre ++ [⟨e.kind, e.fin, e.level, e.text ++ t⟩] else pre ++ [e] ++ [⟨8, false, 0, t⟩] := by
  simp [addS]
theorem add_nil (t : List UInt8) : addS [] t = [⟨8, false, 0, t⟩] := rfl

theorem own_last {w : World} {B g cap : Nat} {T : TypeId} (pre : List Ev) (e : Ev) (t : List UInt8) (h : w.ownsRow B T 4 (.slice (some ⟨g, 0, none⟩) (pre.length + 1) cap) (pre.length + 1) (evCs (pre ++ [e]))) :
    (w.setCell ⟨g, pre.length * 4 + 3, none⟩ (.string ⟨t.toArray⟩)).ownsRow B T 4 (.slice (some ⟨g, 0, none⟩) (pre.length + 1) cap) (pre.length + 1) (evCs (pre ++ [⟨e.kind, e.fin, e.level, t⟩])) := by
  refine ⟨by rw [evCs_length]; simp, ?_⟩
  rcases h.2 with ⟨hv, _⟩ | ⟨g', cap', cur, hv, hB, hg, hnc, hcm, hcs, htk⟩
  · cases hv
  · cases hv
    refine Or.inr ⟨g, cap, _, rfl, hB, set_row hg, hnc, hcm, by simpa using hcs, ?_⟩
    have e1 : evCs (pre ++ [⟨e.kind, e.fin, e.level, t⟩]) = (evCs (pre ++ [e])).set (pre.length * 4 + 3) (.string ⟨t.toArray⟩) := by
      rw [evCs_append, evCs_append, evCs_one, evCs_one, List.set_append_right _ _ (by rw [evCs_length]; omega), evCs_length]
      congr 1
      rw [show pre.length * 4 + 3 - pre.length * 4 = 3 by omega]
      rfl
    rw [e1, ← htk, Array.toList_setIfInBounds, List.take_set]

set_option maxRecDepth 100000 in
set_option maxHeartbeats 2000000 in
theorem radd_any (B : Nat) (v : Value) (evs : List Ev) (t : List UInt8) (w : World) (hB : B ≤ w.heap.size) (hown : w.ownsRow B 58 4 v evs.length (evCs evs)) (hlen : evs.length ≤ 1099511627776) (ht : t.length ≤ 1099511627776) (hx : ∀ e ∈ evs, e.text.length ≤ 1099511627776) :
    Calls Tryd.prog 20 #[v, .string ⟨t.toArray⟩] w fun e w' => ∃ v', e = .returned v' ∧ w'.ownsRow B 58 4 v' (addS evs t).length (evCs (addS evs t)) ∧ Below B w w' := by
  obtain ⟨j0, hj, hy0, hy1, hy2⟩ := info_parts Tryd.infoEv
  rcases List.eq_nil_or_concat evs with rfl | ⟨pre, e, rfl⟩
  · rcases Joins.ownsRow_forms hown with ⟨rfl, _⟩ | ⟨g, cap, rfl⟩
    all_goals
      simp only [List.length_nil] at hown ⊢
      rw [add_nil]
      go_enter Tryd.func20, Tryd.ntmps20
      go_wp2_with (at_builtin; refine wpList_append_own _ rfl _ _ 37 rfl B 58 j0 (.agg #[.int .i64 0, .bool false, .int .i64 0, .string ⟨#[]⟩]) 4 40 Tryd.underlying37 hj hy0 hy1 hy2 rfl (by decide) _ 0 (evCs []) rfl (hown.alloc _) ⟨w.heap.size, 0, none⟩ 1 1 (evCells ⟨8, false, 0, t⟩) rfl rfl (ev_cell _ _ _ rfl) (ev_one _) (by decide) (by decide) (by simp; omega) ?_; intro v' w1 own1 grow1 _)
      go_ret
      exact ⟨v', rfl, by simpa [evCs] using own1, ((Below.refl B w).alloc hB _).grown grow1 (by simp; omega) (fun b hb => (hown.lt b hb).1)⟩
  · rw [List.concat_eq_append] at hown hlen hx ⊢
    have hl1 : (pre ++ [e]).length = pre.length + 1 := by simp
    rw [hl1] at hown hlen
    rcases Joins.ownsRow_forms hown with ⟨_, h0⟩ | ⟨g, cap, rfl⟩
    · omega
    have hxe : e.text.length ≤ 1099511627776 := hx e (by simp)
    have hgl := hown.lt g rfl
    have hrow : ∃ cur, w.heap[g]? = some (.cells cur 58 (0, 0)) ∧ (∀ j, j < (pre.length + 1) * 4 → cur[j]? = (evCs (pre ++ [e]))[j]?) := by
      rcases hown.2 with ⟨hv, _⟩ | ⟨g', cap', cur, hv, _, hg, _, _, _, htk⟩
      · cases hv
      · cases hv
        refine ⟨cur, hg, fun j hj => ?_⟩
        have := congrArg (fun l => l[j]?) htk
        simp only [List.getElem?_take_of_lt hj, Array.getElem?_toList] at this
        exact this
    obtain ⟨cur, hg, hcur⟩ := hrow
    obtain ⟨q0, q1, q2, q3⟩ := evCs_at (pre ++ [e]) pre.length e (by simp)
    have c0 := row_cell hg ((hcur (pre.length * 4) (by omega)).trans q0)
    have c3 := row_cell hg ((hcur (pre.length * 4 + 3) (by omega)).trans q3)
    have f3 := row_free (i := pre.length * 4 + 3) hg
    rw [add_last]
    have hs1 := size_of e.text
    have hs2 := size_of t
    by_cases hk : e.kind = 8
    · rw [if_pos hk]
      have HO : Hid _ := own_last pre e (e.text ++ t) hown
      rw [hk] at c0
      have hl2 : (pre ++ [(⟨e.kind, e.fin, e.level, e.text ++ t⟩ : Ev)]).length = pre.length + 1 := by simp
      rw [hl2]
      have HBA : Hid ((⟨e.text.toArray⟩ : ByteArray) ++ ⟨t.toArray⟩ = ⟨(e.text ++ t).toArray⟩) := ba_app e.text t
      clear q0 q1 q2 q3 hcur hg hk hx
      go_enter Tryd.func20, Tryd.ntmps20
      go_wp2
      go_ret
      rw [HBA.out]
      exact ⟨_, rfl, HO.out, Below.setCell (B := B) (Below.refl B w) (p := ⟨g, pre.length * 4 + 3, none⟩) hgl.1 _⟩
    · rw [if_neg hk]
      have hk2 : (e.kind == 8) = false := by rw [beq_eq_false_iff_ne]; exact hk
      have hl2 : (pre ++ [e] ++ [(⟨8, false, 0, t⟩ : Ev)]).length = pre.length + 1 + 1 := by simp
      have he2 : evCs (pre ++ [e] ++ [(⟨8, false, 0, t⟩ : Ev)]) = evCs (pre ++ [e]) ++ evCells ⟨8, false, 0, t⟩ := by rw [evCs_append, evCs_one]
      rw [hl2, he2]
      generalize evCs (pre ++ [e]) = xs at hown ⊢
      clear q0 q1 q2 q3 hcur hg hk hx hl2 he2 c3 f3
      go_enter Tryd.func20, Tryd.ntmps20
      go_wp2_with (at_builtin; refine wpList_append_own _ rfl _ _ 37 rfl B 58 j0 (.agg #[.int .i64 0, .bool false, .int .i64 0, .string ⟨#[]⟩]) 4 40 Tryd.underlying37 hj hy0 hy1 hy2 rfl (by decide) _ _ _ rfl (hown.alloc _) ⟨w.heap.size, 0, none⟩ 1 1 (evCells ⟨8, false, 0, t⟩) rfl rfl (ev_cell _ _ _ rfl) (ev_one _) (by unfold maxLen; omega) (by omega) (by simp; omega) ?_; intro v' w1 own1 grow1 _)
      go_ret
      exact ⟨v', rfl, own1, ((Below.refl B w).alloc hB _).grown grow1 (by simp; omega) (fun b hb => (hown.lt b hb).1)⟩

end Go.Proofs.YtljcljipppjnoaaDoor
