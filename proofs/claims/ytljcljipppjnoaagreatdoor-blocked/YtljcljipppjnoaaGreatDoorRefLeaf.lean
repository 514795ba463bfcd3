import Derived.Test.YtljcljipppjnoaaGreatDoorRefLines
namespace Go.Proofs.YtljcljipppjnoaaGreatDoor
open Go.RowKit

/-- An event. -/
structure Ev where
  kind : Int
  fin : Bool
  level : Int
  text : List UInt8
def evCells (e : Ev) : List Value := [.int .i64 e.kind, .bool e.fin, .int .i64 e.level, .string ⟨e.text.toArray⟩]
def evCs (l : List Ev) : List Value := l.flatMap evCells
theorem evCs_length (l : List Ev) : (evCs l).length = l.length * 4 := by
  induction l with
  | nil => rfl
  | cons e r ih => simp only [evCs, List.flatMap_cons, List.length_append, List.length_cons] at ih ⊢; rw [ih]; simp [evCells]; omega
theorem evCs_append (a b : List Ev) : evCs (a ++ b) = evCs a ++ evCs b := by simp [evCs]
theorem evCs_one (e : Ev) : evCs [e] = evCells e := by simp [evCs]

/-- A leaf: its beginning, its text (if there is one), its end. -/
def leafS (kind level : Int) (t : List UInt8) : List Ev :=
  [⟨kind, false, level, []⟩] ++ (if t = [] then [] else [⟨8, false, 0, t⟩]) ++ [⟨kind, true, level, []⟩]

theorem Tryz.infoEv : (Tryz.prog.info? 83).map (fun i => (i.zero, i.size, i.bytes)) = some (some (.agg #[.int .i64 0, .bool false, .int .i64 0, .string ⟨#[]⟩]), 4, 40) := by kernel_rfl

theorem own_lit (w : World) (e : Ev) (t : TypeId) : (w.alloc (.cells (evCells e).toArray t)).ownsRow w.heap.size t 4 (.slice (some ⟨w.heap.size, 0, none⟩) 1 1) 1 (evCs [e]) := by
  refine ⟨by rw [evCs_length]; rfl, Or.inr ⟨w.heap.size, 1, (evCells e).toArray, rfl, Nat.le_refl _, ?_, Nat.le_refl _, by decide, by simp [evCells], by simp [evCells, evCs_one]⟩⟩
  show (w.heap.push _)[w.heap.size]? = _
  simp

theorem ev_cell (w : World) (e : Ev) (t : TypeId) {n : Nat} (hn : n = w.heap.size) : ∀ j u, (evCells e)[j]? = some u → (w.alloc (.cells (evCells e).toArray t)).cell? ((⟨n, 0, none⟩ : Addr).add j) = some u := by
  subst hn
  intro j u hj
  rw [Addr.add_lit, Nat.zero_add]
  have hh : (w.alloc (.cells (evCells e).toArray t)).heap[w.heap.size]? = some (.cells (evCells e).toArray t (0, 0)) := by
    show (w.heap.push _)[w.heap.size]? = _
    simp
  simp only [World.cell?, hh]
  simpa using hj
theorem ev_one (e : Ev) : ∀ u ∈ evCells e, u.oneCell' = true := by
  intro u hu
  simp [evCells] at hu
  rcases hu with rfl | rfl | rfl | rfl <;> rfl

set_option maxHeartbeats 2000000 in
theorem rleaf_any (kind level : Int) (s : ByteArray) (w : World) :
    Calls Tryz.prog 41 #[.int .i64 kind, .int .i64 level, .string s] w fun e w' => ∃ v, e = .returned v ∧ w'.ownsRow w.heap.size 83 4 v (leafS kind level s.data.toList).length (evCs (leafS kind level s.data.toList)) ∧ Below w.heap.size w w' := by
  obtain ⟨i0, hi, hz0, hz1, hz2⟩ := info_parts Tryz.infoEv
  have hem : s.toList.isEmpty = decide (s.data.toList = []) := by
    rw [list_of]
    cases s.data.toList <;> rfl
  have o1 := own_lit w ⟨kind, false, level, []⟩ 83
  by_cases h0 : s.data.toList = []
  · rw [decide_eq_true h0] at hem
    have HL : Hid (leafS kind level s.data.toList = [⟨kind, false, level, []⟩, ⟨kind, true, level, []⟩]) := by show _ = _; simp [leafS, h0]
    clear h0
    go_enter Tryz.func41, Tryz.ntmps41
    go_wp2_with (at_builtin; refine wpList_append_own _ rfl _ _ 27 rfl w.heap.size 83 i0 (.agg #[.int .i64 0, .bool false, .int .i64 0, .string ⟨#[]⟩]) 4 40 Tryz.underlying27 hi hz0 hz1 hz2 rfl (by decide) _ 1 (evCs [⟨kind, false, level, []⟩]) rfl (o1.alloc _) ⟨w.heap.size + 1, 0, none⟩ 1 1 (evCells ⟨kind, true, level, []⟩) rfl rfl ?c1 (ev_one _) ?c3 ?c4 ?c5 ?_)
    case c1 => exact ev_cell _ _ _ (by simp)
    case c3 => unfold maxLen; simp
    case c4 => simp
    case c5 => simp; omega
    intro v' w1 hown' hgrow _
    go_wp2
    go_ret
    rw [HL.out]
    refine ⟨_, rfl, ?_, (((Below.refl _ w).alloc (Nat.le_refl _) _).alloc (by simp) _).grown hgrow (by simp; omega) (fun b hb => (o1.lt b hb).1)⟩
    simpa [evCs] using hown'
  · rw [decide_eq_false h0] at hem
    have HL : Hid (leafS kind level s.data.toList = [⟨kind, false, level, []⟩, ⟨8, false, 0, s.data.toList⟩, ⟨kind, true, level, []⟩]) := by show _ = _; simp [leafS, h0]
    clear h0
    go_enter Tryz.func41, Tryz.ntmps41
    go_wp2_with (at_builtin; refine wpList_append_own _ rfl _ _ 27 rfl w.heap.size 83 i0 (.agg #[.int .i64 0, .bool false, .int .i64 0, .string ⟨#[]⟩]) 4 40 Tryz.underlying27 hi hz0 hz1 hz2 rfl (by decide) _ 1 (evCs [⟨kind, false, level, []⟩]) rfl (o1.alloc _) ⟨w.heap.size + 1, 0, none⟩ 1 1 (evCells ⟨8, false, 0, s.data.toList⟩) rfl rfl ?c1 (ev_one _) ?c3 ?c4 ?c5 ?_)
    case c1 => exact ev_cell _ _ _ (by simp)
    case c3 => unfold maxLen; simp
    case c4 => simp
    case c5 => simp; omega
    intro v1 w1 own1 grow1 _
    have b1 : Below w.heap.size w w1 := (((Below.refl _ w).alloc (Nat.le_refl _) _).alloc (by simp) _).grown grow1 (by simp; omega) (fun b hb => (o1.lt b hb).1)
    have own1' : w1.ownsRow w.heap.size 83 4 v1 2 (evCs [⟨kind, false, level, []⟩, ⟨8, false, 0, s.data.toList⟩]) := by simpa [evCs] using own1
    have z1 := b1.size
    have hsh : ∃ ao n' cap', v1 = .slice ao n' cap' := by
      rcases own1'.2 with ⟨hv, _⟩ | ⟨g, cap, cur, hv, _⟩
      · exact ⟨_, _, _, hv⟩
      · exact ⟨_, _, _, hv⟩
    obtain ⟨ao, n', cap', hv⟩ := hsh
    rw [hv] at own1' ⊢
    clear own1 grow1 o1 hv
    go_wp2_with (at_builtin; refine wpList_append_own _ rfl _ _ 27 rfl w.heap.size 83 i0 (.agg #[.int .i64 0, .bool false, .int .i64 0, .string ⟨#[]⟩]) 4 40 Tryz.underlying27 hi hz0 hz1 hz2 rfl (by decide) _ 2 (evCs [⟨kind, false, level, []⟩, ⟨8, false, 0, s.data.toList⟩]) rfl (own1'.alloc _) ⟨w1.heap.size, 0, none⟩ 1 1 (evCells ⟨kind, true, level, []⟩) rfl rfl ?d1 (ev_one _) ?d3 ?d4 ?d5 ?_)
    case d1 => exact ev_cell _ _ _ (by simp)
    case d3 => unfold maxLen; simp
    case d4 => simp
    case d5 => simp; omega
    intro v2 w2 own2 grow2 _
    go_wp2
    go_ret
    rw [HL.out]
    refine ⟨_, rfl, ?_, (b1.alloc z1 _).grown grow2 (by simp; omega) (fun b hb => (own1'.lt b hb).1)⟩
    simpa [evCs] using own2

end Go.Proofs.YtljcljipppjnoaaGreatDoor
