import Derived.Test.YtljcljipppjnoabGreatDoorJL02
import Derived.Test.YtljcljipppjnoabGreatDoorJL10
import Derived.Laws.StructEq
import Derived.MapKept
namespace Go.Proofs.YtljcljipppjnoabGreatDoor
open Go.RowKit Go.Shelf
def spK (x y : Nat) : Value := .agg #[.int .i64 x, .int .i64 y]
theorem spK_inj {x y x' y' : Nat} (h : spK x y = spK x' y') : x = x' ∧ y = y' := by
  unfold spK at h
  injection h with h
  simp at h
  omega
theorem Tryz.structSpan : Tryz.prog.underlying 127 = some (.struct (Tryz.prog.fieldsOf 127)) := by kernel_rfl
theorem Tryz.stoodSpan : Tryz.prog.stoodInHeld 127 = false := by kernel_rfl
theorem Tryz.fieldsSpan : ∃ f1 f2, (Tryz.prog.fieldsOf 127).toList = [f1, f2] ∧ (f1.name = "From" ∧ f1.type = 3 ∧ f1.offset = 0) ∧ f2.name = "To" ∧ f2.type = 3 ∧ f2.offset = 1 := by
  have hf : (Tryz.prog.fieldsOf 127).toList.map (fun f => (f.name, f.type, f.offset)) = [("From", 3, 0), ("To", 3, 1)] := by kernel_rfl
  cases h : (Tryz.prog.fieldsOf 127).toList with
  | nil => rw [h] at hf; cases hf
  | cons f1 r =>
    cases r with
    | nil => rw [h] at hf; simp at hf
    | cons f2 r =>
      cases r with
      | nil =>
        rw [h] at hf
        simp at hf
        exact ⟨f1, f2, rfl, hf.1, hf.2⟩
      | cons f3 r => rw [h] at hf; simp at hf
theorem span_equal (x y x' y' : Nat) (w : World) : (Op.equal 127 (spK x y) (spK x' y')).run Tryz.prog w = .ok (decide (x = x' ∧ y = y')) w := by
  unfold Op.equal Op.maxDepth spK
  rw [run_equalIn_struct w 9999 _ _ _ Tryz.structSpan Tryz.stoodSpan]
  obtain ⟨f1, f2, hl, ⟨a1, a2, a3⟩, b1, b2, b3⟩ := Tryz.fieldsSpan
  rw [hl]
  simp only [Op.eqFields, a1, a2, a3, b1, b2, b3]
  simp [go_sem, Tryz.isAgg3, Tryz.underlying3, Tryz.sizeOf3]
  by_cases h1 : x = x'
  · by_cases h2 : y = y'
    · simp [h1, h2]
    · have : ¬ ((y : Int) = (y' : Int)) := by omega
      simp [h1, h2, this]
  · have : ¬ ((x : Int) = (x' : Int)) := by omega
    simp [h1, this]
theorem span_check (em : Bool) (x y : Nat) (w : World) : (Instr.checkKey em 10000 127 (spK x y)).run Tryz.prog w = .ok () w := by
  obtain ⟨f1, f2, hl, ⟨a1, a2, a3⟩, b1, b2, b3⟩ := Tryz.fieldsSpan
  unfold spK
  have hi : ∀ (n : Nat) (v : Int) w, (Instr.checkKey em (n + 1) 3 (.int .i64 v)).run Tryz.prog w = .ok () w := by
    intro n v w
    rw [Instr.checkKey]
    simp only [Sem.run_bind, run_underlying Tryz.underlying3, Result.andThen_ok, Sem.run_pure]
  obtain ⟨n, hn⟩ : ∃ n, (9999 : Nat) = n + 1 := ⟨9998, rfl⟩
  rw [show (10000 : Nat) = 9999 + 1 from rfl, Instr.checkKey, hn]
  simp only [Sem.run_bind, run_underlying Tryz.structSpan, Result.andThen_ok]
  rw [← Array.forIn_toList, hl]
  simp [a1, a2, a3, b1, b2, b3, go_sem, Tryz.isAgg3, Tryz.sizeOf3, hi]
def Spans (es : List MapEntry) : Prop := ∀ e ∈ es, ∃ x y : Nat, e.key = spK x y
theorem span_asking (x y : Nat) (es : List MapEntry) (hs : Spans es) (i : Nat) : ((∀ w, (Instr.findAsking 127 (spK x y) es i).run Tryz.prog w = .ok none w) ∧ ∀ e ∈ es, e.key ≠ spK x y) ∨ ∃ j e, (∀ w, (Instr.findAsking 127 (spK x y) es i).run Tryz.prog w = .ok (some (j, e.val)) w) ∧ e ∈ es ∧ e.key = spK x y := by
  induction es generalizing i with
  | nil => exact Or.inl ⟨fun _ => rfl, fun e he => by cases he⟩
  | cons e es ih =>
    obtain ⟨x', y', hk⟩ := hs e (by simp)
    have he := span_equal x y x' y'
    by_cases h : x = x' ∧ y = y'
    · refine Or.inr ⟨i, e, fun w => ?_, by simp, by rw [hk, h.1, h.2]⟩
      simp only [Instr.findAsking, hk, Sem.run_bind, he, decide_eq_true h, Result.andThen_ok, if_true, Sem.run_pure]
    · have hr : ∀ w, (Instr.findAsking 127 (spK x y) (e :: es) i).run Tryz.prog w = (Instr.findAsking 127 (spK x y) es (i + 1)).run Tryz.prog w := fun w => by
        simp only [Instr.findAsking, hk, Sem.run_bind, he, decide_eq_false h, Result.andThen_ok, Bool.false_eq_true, if_false]
      rcases ih (fun e he => hs e (by simp [he])) (i + 1) with ⟨h1, h2⟩ | ⟨j, e', h1, h2, h3⟩
      · refine Or.inl ⟨fun w => (hr w).trans (h1 w), fun e' he' => ?_⟩
        rcases List.mem_cons.1 he' with rfl | he'
        · rw [hk]
          intro hc
          obtain ⟨q1, q2⟩ := spK_inj hc
          exact h ⟨q1.symm, q2.symm⟩
        · exact h2 e' he'
      · exact Or.inr ⟨j, e', fun w => (hr w).trans (h1 w), by simp [h2], h3⟩
theorem span_find (x y : Nat) (es : List MapEntry) (hs : Spans es) : ((∀ w, (Instr.findKey 127 (spK x y) es).run Tryz.prog w = .ok none w) ∧ ∀ e ∈ es, e.key ≠ spK x y) ∨ ∃ j e, (∀ w, (Instr.findKey 127 (spK x y) es).run Tryz.prog w = .ok (some (j, e.val)) w) ∧ e ∈ es ∧ e.key = spK x y := by
  cases es with
  | nil => exact Or.inl ⟨fun w => by simp [Instr.findKey, run_underlying Tryz.structSpan, Instr.findNow], fun e he => by cases he⟩
  | cons e es =>
    have hr : ∀ w, (Instr.findKey 127 (spK x y) (e :: es)).run Tryz.prog w = (Instr.findAsking 127 (spK x y) (e :: es)).run Tryz.prog w := fun w => by
      simp [Instr.findKey, run_underlying Tryz.structSpan, Instr.findNow, Instr.sameNow]
    rcases span_asking x y (e :: es) hs 0 with ⟨h1, h2⟩ | ⟨j, e', h1, h2⟩
    · exact Or.inl ⟨fun w => (hr w).trans (h1 w), h2⟩
    · exact Or.inr ⟨j, e', fun w => (hr w).trans (h1 w), h2⟩
theorem map_look (b : Nat) (es : Array MapEntry) (clock : Nat) (x y : Nat) (hs : Spans es.toList) :
    ((∀ w : World, w.heap[b]? = some (.map es clock) → (Instr.lookup 73 (.map (some b)) (.agg #[.int .i64 x, .int .i64 y]) true).run Tryz.prog w = .ok (.tuple #[.slice none 0 0, .bool false]) w) ∧ ∀ e ∈ es.toList, e.key ≠ spK x y) ∨ ∃ e, (∀ w : World, w.heap[b]? = some (.map es clock) → (Instr.lookup 73 (.map (some b)) (.agg #[.int .i64 x, .int .i64 y]) true).run Tryz.prog w = .ok (.tuple #[e.val, .bool true]) w) ∧ e ∈ es.toList ∧ e.key = spK x y := by
  have hk := fun em w => span_check em x y w
  have hz : ∀ w, (zeroValue 142).run Tryz.prog w = .ok (.slice none 0 0) w := fun w => by simp [go_sem, Tryz.zeroValue142]
  rcases span_find x y es.toList hs with ⟨h1, h2⟩ | ⟨j, e, h1, h2, h3⟩
  · refine Or.inl ⟨fun w hb => ?_, h2⟩
    unfold spK at h1 hk
    simp [Instr.lookup, run_underlying Tryz.underlying73, Go.MapKept.run_getObj_map hb, hk, h1, hz]
  · refine Or.inr ⟨e, fun w hb => ?_, h2, h3⟩
    unfold spK at h1 hk
    simp [Instr.lookup, run_underlying Tryz.underlying73, Go.MapKept.run_getObj_map hb, hk, h1]
def mapAdd (w : World) (b : Nat) (es : Array MapEntry) (clock x y : Nat) (v : Value) : World := { w with heap := w.heap.setIfInBounds b (.map (es.push { key := .agg #[.int .i64 x, .int .i64 y], val := v, born := clock }) (clock + 1)) }
theorem map_put (b : Nat) (es : Array MapEntry) (clock : Nat) (x y : Nat) (v : Value) (w : World) (hb : w.heap[b]? = some (.map es clock)) (hs : Spans es.toList) (hn : ∀ e ∈ es.toList, e.key ≠ spK x y) :
    (Instr.mapUpdate 73 (.map (some b)) (.agg #[.int .i64 x, .int .i64 y]) v).run Tryz.prog w = .ok () (mapAdd w b es clock x y v) := by
  have hk := fun em => span_check em x y w
  rcases span_find x y es.toList hs with ⟨h1, h2⟩ | ⟨j, e, h1, h2, h3⟩
  · unfold spK at h1 hk
    simp [Instr.mapUpdate, run_underlying Tryz.underlying73, Go.MapKept.run_getObj_map hb, hk, h1, Go.MapKept.run_setObj_map _ hb, mapAdd]
  · exact absurd h3 (hn e h2)
theorem map_added (b : Nat) (es : Array MapEntry) (clock x y : Nat) (v : Value) (w : World) (hb : w.heap[b]? = some (.map es clock)) :
    (mapAdd w b es clock x y v).heap[b]? = some (.map (es.push { key := .agg #[.int .i64 x, .int .i64 y], val := v, born := clock }) (clock + 1)) ∧ (∀ c, c ≠ b → (mapAdd w b es clock x y v).heap[c]? = w.heap[c]?) ∧ (mapAdd w b es clock x y v).heap.size = w.heap.size ∧ (mapAdd w b es clock x y v).os = w.os ∧ (mapAdd w b es clock x y v).tape = w.tape ∧ (mapAdd w b es clock x y v).output = w.output := by
  have hlt : b < w.heap.size := (Array.getElem?_eq_some_iff.1 hb).1
  refine ⟨?_, ?_, by simp [mapAdd], rfl, rfl, rfl⟩
  · show (w.heap.setIfInBounds b _)[b]? = _
    rw [Array.getElem?_setIfInBounds_self_of_lt hlt]
  · intro c hc
    show (w.heap.setIfInBounds b _)[c]? = _
    rw [Array.getElem?_setIfInBounds_ne (fun h => hc h.symm)]
end Go.Proofs.YtljcljipppjnoabGreatDoor

namespace Go.Proofs.YtljcljipppjnoabGreatDoor
open Go.RowKit Go.Shelf
theorem lay3' (W : World) (x y z : Obj) : (((W.alloc x).alloc y).alloc z).heap[W.heap.size]? = some x ∧ (((W.alloc x).alloc y).alloc z).heap[W.heap.size + 1]? = some y ∧ (((W.alloc x).alloc y).alloc z).heap[W.heap.size + 1 + 1]? = some z ∧ Below W.heap.size W (((W.alloc x).alloc y).alloc z) := by
  have e1 : (W.alloc x).heap.size = W.heap.size + 1 := by simp
  have e2 : ((W.alloc x).alloc y).heap.size = W.heap.size + 1 + 1 := by simp
  refine ⟨?_, ?_, ?_, ?_⟩
  · exact heap_al _ _ (by omega) (heap_al _ _ (by omega) (heap_alloc_new W x))
  · refine heap_al _ _ (by omega) ?_
    have := heap_alloc_new (W.alloc x) y
    rw [e1] at this
    exact this
  · have := heap_alloc_new ((W.alloc x).alloc y) z
    rw [e2] at this
    exact this
  · exact (((Below.refl _ W).alloc (Nat.le_refl _) _).alloc (by omega) _).alloc (by omega) _
set_option maxRecDepth 100000 in
set_option maxHeartbeats 2000000 in
theorem pOf_any (t : List UInt8) (m : Int) (W : World) (ht : t.length ≤ 16777216) (hm : W.cell? ⟨7, 0, none⟩ = some (.int .i64 m)) :
    Calls Tryz.prog 29 #[.string ⟨t.toArray⟩] W fun e w' => ∃ v bm S n, e = .returned (.agg #[v, .int .i64 0, .map (some bm)]) ∧ SpOk 0 n S (blocksAt 3 (linesL [] t)) ∧ w'.ownsRow W.heap.size 129 6 v S.length (stpCs S) ∧ w'.heap[bm]? = some (.map #[] 0) ∧ W.heap.size ≤ bm ∧ Below W.heap.size W w' := by
  have hmf : ∀ (fn : Fn) (first cap : Array Value) (w : World), (Instr.makeFunc fn first cap).run Tryz.prog w = .ok (.func fn first cap) w := fun _ _ _ _ => rfl
  have hmk : ∀ w : World, (Instr.makeMap 73 none).run Tryz.prog w = .ok (.map (some w.heap.size)) (w.alloc (.map #[] 0)) := fun w => rfl
  have hml : 7 < W.heap.size := by
    rcases Nat.lt_or_ge 7 W.heap.size with h | h
    · exact h
    · simp [World.cell?, Array.getElem?_eq_none h] at hm
  obtain ⟨y0, y1, y2, b3⟩ := lay3' W (.cells #[.slice none 0 0, .int .i64 0, .map none] 75 (0, 0)) (.map #[] 0) (.cells #[.slice none 0 0, .int .i64 0, .map (some (W.heap.size + 1))] 75 (0, 0))
  obtain ⟨W3, hW3⟩ : ∃ W3, ((W.alloc (.cells #[.slice none 0 0, .int .i64 0, .map none] 75 (0, 0))).alloc (.map #[] 0)).alloc (.cells #[.slice none 0 0, .int .i64 0, .map (some (W.heap.size + 1))] 75 (0, 0)) = W3 := ⟨_, rfl⟩
  have z3 : W3.heap.size = W.heap.size + 1 + 1 + 1 := by rw [← hW3]; simp
  rw [hW3] at y0 y1 y2 b3
  have hT : (telP (W.heap.size + 1 + 1) (W.heap.size + 1)).Told [] W3 := ⟨⟨_, y2, by simpa [stpCs] using World.ownsRow_nil W3 (W.heap.size + 1 + 1 + 1) 129 6⟩, y1⟩
  have hc := dEach_any (telP (W.heap.size + 1 + 1) (W.heap.size + 1)) (telP_ok _ _) t m W3 hT ht ((b3.cell (p := ⟨7, 0, none⟩) hml).trans hm)
  have hno : ∀ b, b ≤ W.heap.size → ¬ POwn (W.heap.size + 1 + 1) (W.heap.size + 1) W3 b := by
    intro b hb ho
    rcases ho with h | h | ⟨u, c, d, hu, hub⟩
    · omega
    · omega
    · rw [y2] at hu
      rw [← three_inj hu] at hub
      cases hub
  have hc2 : Calls Tryz.prog 38 #[.string ⟨t.toArray⟩, .func (.func 39) #[] #[.pointer (some ⟨W.heap.size + 1 + 1, 0, none⟩)], .func (.func 40) #[] #[.pointer (some ⟨W.heap.size + 1 + 1, 0, none⟩)]] W3 fun e w' => e = .returned (.tuple #[]) ∧ ∃ p ln cp, w'.heap[W.heap.size + 1 + 1]? = some (.cells #[.slice p ln cp, .int .i64 0, .map (some (W.heap.size + 1))] 75 (0, 0)) ∧ w'.heap[W.heap.size]? = some (.cells #[.slice none 0 0, .int .i64 0, .map none] 75 (0, 0)) ∧ Hid (∃ S n, SpOk 0 n S (blocksAt 3 (linesL [] t)) ∧ w'.ownsRow (W.heap.size + 1 + 1 + 1) 129 6 (.slice p ln cp) S.length (stpCs S) ∧ w'.heap[W.heap.size + 1]? = some (.map #[] 0) ∧ Below W.heap.size W w') := by
    refine hc.mono ?_
    rintro e w' ⟨rfl, ⟨S, n, s1, ⟨⟨v, hv, hown⟩, hmm⟩⟩, K⟩
    have hB : Below W.heap.size W w' := b3.trans ⟨K.os, K.tape, K.output, K.size, fun b hb => K.block b (by omega) (by simp) (hno b (by omega))⟩
    have hr := (K.block W.heap.size (by omega) (by simp) (hno _ (Nat.le_refl _))).trans y0
    rcases Joins.ownsRow_forms hown with ⟨rfl, h0⟩ | ⟨g', cap', rfl⟩
    · exact ⟨rfl, _, _, _, hv, hr, S, n, s1, hown, hmm, hB⟩
    · exact ⟨rfl, _, _, _, hv, hr, S, n, s1, hown, hmm, hB⟩
  generalize blocksAt 3 (linesL [] t) = bs at hc2 ⊢
  clear hc hT hm b3 y0 y1 y2 hno z3
  go_enter Tryz.func29, Tryz.ntmps29
  go_wp2_with (go_at_call 38; refine hc2.mono ?_; rintro e w1 ⟨rfl, p, ln, cp, hv, hr, HF⟩; obtain ⟨c1, c2, c3⟩ := cells3 hv; obtain ⟨d1, d2, d3⟩ := cells3 hr; have f1 := row_free (i := 0) hr; have f2 := row_free (i := 1) hr; have f3 := row_free (i := 2) hr)
  obtain ⟨v1, v2, v3, v4, v5, v6⟩ := three_set (x' := .slice p ln cp) (y' := .int .i64 0) (z' := .map (some (W.heap.size + 1))) hr
  obtain ⟨S, n, s1, own, hmm, hB⟩ := HF.out
  obtain ⟨e1, e2, e3⟩ := cells3 v1
  refine bodyPost_ret (v := .agg #[.slice p ln cp, .int .i64 0, .map (some (W.heap.size + 1))]) (by simp [results, Tryz.results29, go_sem, e1, e2, e3]) rfl ?_
  refine ⟨_, _, S, n, rfl, s1, ?_, (v2 _ (by omega)).trans hmm, by omega, ?_⟩
  · exact Joins.ownsRow_le (ownsRow_setCell_below (ownsRow_setCell_below (ownsRow_setCell_below own (by show W.heap.size < _; omega) _) (by show W.heap.size < _; omega) _) (by show W.heap.size < _; omega) _) (by omega)
  · exact ((hB.setCell (p := ⟨W.heap.size, 0, none⟩) (Nat.le_refl _) _).setCell (p := ⟨W.heap.size, 1, none⟩) (Nat.le_refl _) _).setCell (p := ⟨W.heap.size, 2, none⟩) (Nat.le_refl _) _
end Go.Proofs.YtljcljipppjnoabGreatDoor

namespace Go.Proofs.YtljcljipppjnoabGreatDoor
open Go.RowKit Go.Shelf
def inX (t : List UInt8) : List Ev := inlineS t false
def remS (S : List Stp) (k : Nat) : List Ev := (full inX S).drop k
theorem rem_nil (k : Nat) : remS [] k = [] := by simp [remS, full]
theorem rem_ev (e : Ev) (r : List Stp) : remS (.ev e :: r) 0 = e :: remS r 0 := by simp [remS, full, exOf]
theorem rem_at (t : List UInt8) (x y : Nat) (r : List Stp) (k : Nat) (h : k < (inX t).length) : remS (.leaf t x y :: r) k = (inX t)[k] :: remS (.leaf t x y :: r) (k + 1) := by
  have e : full inX (.leaf t x y :: r) = inX t ++ full inX r := by simp [full, exOf]
  unfold remS
  rw [e, List.drop_eq_getElem_cons (by rw [List.length_append]; omega), List.getElem_append_left h]
theorem rem_end (t : List UInt8) (x y : Nat) (r : List Stp) (k : Nat) (h : k = (inX t).length) : remS (.leaf t x y :: r) k = remS r 0 := by
  have e : full inX (.leaf t x y :: r) = inX t ++ full inX r := by simp [full, exOf]
  unfold remS
  rw [e, h, List.drop_left, List.drop_zero]
theorem leaf_in {a b : Nat} {S : List Stp} (h : SpIn a b S) {t : List UInt8} {x y : Nat} (hm : Stp.leaf t x y ∈ S) : t ≠ [] ∧ a ≤ x ∧ x < y := by
  induction S generalizing a with
  | nil => cases hm
  | cons s S ih =>
    cases s with
    | ev e =>
      rcases List.mem_cons.1 hm with h' | h'
      · cases h'
      · exact ih h h'
    | leaf t' x' y' =>
      obtain ⟨h0, h1, h2, h3⟩ := h
      rcases List.mem_cons.1 hm with h' | h'
      · cases h'
        exact ⟨h0, h1, h2⟩
      · have := ih h3 h'
        exact ⟨this.1, by omega, this.2.2⟩
theorem leaf_one {a b : Nat} {S : List Stp} (h : SpIn a b S) {t t' : List UInt8} {x y : Nat} (hm : Stp.leaf t x y ∈ S) (hm' : Stp.leaf t' x y ∈ S) : t = t' := by
  induction S generalizing a with
  | nil => cases hm
  | cons s S ih =>
    cases s with
    | ev e =>
      rcases List.mem_cons.1 hm with h1 | h1
      · cases h1
      · rcases List.mem_cons.1 hm' with h2 | h2
        · cases h2
        · exact ih h h1 h2
    | leaf u x' y' =>
      obtain ⟨q0, q1, q2, q3⟩ := h
      rcases List.mem_cons.1 hm with h1 | h1
      · rcases List.mem_cons.1 hm' with h2 | h2
        · cases h1; cases h2; rfl
        · cases h1
          have := leaf_in q3 h2
          omega
      · rcases List.mem_cons.1 hm' with h2 | h2
        · cases h2
          have := leaf_in q3 h1
          omega
        · exact ih q3 h1 h2
def EvRow (v : Value) (l : List Ev) (W : World) : Prop := W.ownsRow 0 83 4 v l.length (evCs l)
def StpV (v : Value) (S : List Stp) (W : World) : Prop :=
  (S = [] ∧ v = .slice none 0 0) ∨ ∃ g o cap cur, v = .slice (some ⟨g, o, none⟩) S.length cap ∧ S.length ≤ cap ∧ cap ≤ 9223372036854775807 ∧ W.heap[g]? = some (.cells cur 129 (0, 0)) ∧ ∀ i s, S[i]? = some s → ∀ j u, (stpCells s)[j]? = some u → cur[o + i * 6 + j]? = some u
def MapOk (es : Array MapEntry) (S0 : List Stp) (W : World) : Prop := ∀ e ∈ es.toList, ∃ t x y, e.key = spK x y ∧ Stp.leaf t x y ∈ S0 ∧ EvRow e.val (inX t) W
theorem MapOk.spans {es : Array MapEntry} {S0 : List Stp} {W : World} (h : MapOk es S0 W) : Spans es.toList := fun e he => by
  obtain ⟨t, x, y, hk, _⟩ := h e he
  exact ⟨x, y, hk⟩
theorem EvRow.keep {v : Value} {l : List Ev} {W w' : World} (h : EvRow v l W) (hk : ∀ g, v.ownBlock = some g → w'.heap[g]? = W.heap[g]?) : EvRow v l w' := by
  refine ⟨h.1, ?_⟩
  rcases h.2 with h0 | ⟨g, cap, cur, hv, hg, hh, r⟩
  · exact Or.inl h0
  · exact Or.inr ⟨g, cap, cur, hv, hg, (hk g (by rw [hv]; rfl)).trans hh, r⟩
theorem EvRow.lt {v : Value} {l : List Ev} {W : World} (h : EvRow v l W) {g : Nat} (hg : v.ownBlock = some g) : g < W.heap.size := (World.ownsRow.lt (show W.ownsRow 0 83 4 v l.length (evCs l) from h) g hg).2
theorem EvRow.typ {v : Value} {l : List Ev} {W : World} (h : EvRow v l W) {g : Nat} (hg : v.ownBlock = some g) : ∃ cur, W.heap[g]? = some (.cells cur 83 (0, 0)) := by
  rcases h.2 with ⟨h0, _⟩ | ⟨g', cap, cur, hv, _, hh, _⟩
  · rw [h0] at hg; cases hg
  · rw [hv] at hg
    injection hg with hg
    have hg : g' = g := hg
    subst hg
    exact ⟨cur, hh⟩
theorem MapOk.keep {es : Array MapEntry} {S0 : List Stp} {W w' : World} (h : MapOk es S0 W) (hk : ∀ e ∈ es.toList, ∀ g, e.val.ownBlock = some g → w'.heap[g]? = W.heap[g]?) : MapOk es S0 w' := fun e he => by
  obtain ⟨t, x, y, h1, h2, h3⟩ := h e he
  exact ⟨t, x, y, h1, h2, h3.keep (hk e he)⟩
theorem StpV.keep {v : Value} {S : List Stp} {W w' : World} (h : StpV v S W) (hk : ∀ g, v.ownBlock = some g → w'.heap[g]? = W.heap[g]?) : StpV v S w' := by
  rcases h with h | ⟨g, o, cap, cur, hv, h1, h2, h3, h4⟩
  · exact Or.inl h
  · exact Or.inr ⟨g, o, cap, cur, hv, h1, h2, (hk g (by rw [hv]; rfl)).trans h3, h4⟩
theorem StpV.typ {v : Value} {S : List Stp} {W : World} (h : StpV v S W) {g : Nat} (hg : v.ownBlock = some g) : ∃ cur, W.heap[g]? = some (.cells cur 129 (0, 0)) := by
  rcases h with ⟨_, h0⟩ | ⟨g', o, cap, cur, hv, _, _, hh, _⟩
  · rw [h0] at hg; cases hg
  · rw [hv] at hg
    injection hg with hg
    have hg : g' = g := hg
    subst hg
    exact ⟨cur, hh⟩
theorem StpV.of_own {B : Nat} {v : Value} {S : List Stp} {W : World} (h : W.ownsRow B 129 6 v S.length (stpCs S)) : StpV v S W := by
  rcases h.2 with ⟨hv, h0⟩ | ⟨g, cap, cur, hv, _, hg, hnc, hcm, hcs, ht⟩
  · exact Or.inl ⟨List.eq_nil_of_length_eq_zero h0, hv⟩
  · refine Or.inr ⟨g, 0, cap, cur, hv, hnc, by simp only [maxLen] at hcm; omega, hg, fun i s hi j u hj => ?_⟩
    have hil : i < S.length := (List.getElem?_eq_some_iff.1 hi).1
    have hjl : j < 6 := by have := (List.getElem?_eq_some_iff.1 hj).1; rw [stp_len] at this; exact this
    have h1 : (cur.toList.take (S.length * 6))[i * 6 + j]? = (stpCs S)[i * 6 + j]? := by rw [ht]
    rw [List.getElem?_take_of_lt (by omega), Array.getElem?_toList] at h1
    rw [Nat.zero_add, h1]
    clear ht h1 hg hcs hnc hcm hv h
    induction S generalizing i with
    | nil => cases hi
    | cons s' S ih =>
      have e0 : stpCs (s' :: S) = stpCells s' ++ stpCs S := by simp [stpCs]
      rw [e0]
      cases i with
      | zero =>
        simp at hi
        subst hi
        rw [Nat.zero_mul, Nat.zero_add, List.getElem?_append_left (by rw [stp_len]; exact hjl)]
        exact hj
      | succ i =>
        simp only [List.getElem?_cons_succ] at hi
        rw [List.getElem?_append_right (by rw [stp_len]; omega), stp_len, show (i + 1) * 6 + j - 6 = i * 6 + j by omega]
        exact ih i hi (by rw [List.length_cons] at hil; omega)
end Go.Proofs.YtljcljipppjnoabGreatDoor
