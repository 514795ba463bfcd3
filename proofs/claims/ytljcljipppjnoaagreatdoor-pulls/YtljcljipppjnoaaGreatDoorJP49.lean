import Derived.Test.YtljcljipppjnoaaGreatDoorJP46
import Derived.Test.YtljcljipppjnoaaGreatDoorJP48
import Derived.Lay
import Derived.Shelf.Vars
import Derived.Deep.Strs
namespace Go.Proofs.YtljcljipppjnoaaGreatDoor
open Go.ChangeShapes Go.WideShapes Go.ChangeAt Go.WideMaps Go.WideElems Go.RowKit Go.Joins

/-- The library's own number is there, whatever it is. -/
theorem maxLen_of {W : World} (h : W.ShapedOpen Tryz.prog) : ∃ m, W.cell? ⟨6, 0, none⟩ = some (.int .i64 m) :=
  cell_of_shapedOpen_int (P := Tryz.prog) (t := 3) (zero := #[.int .i64 0]) h (of_decide_eq_true (by kernel_rfl)) (by kernel_rfl) rfl (by kernel_rfl) (by kernel_rfl) Tryz.underlying3

theorem pulls_glob {W : World} (h : laidMetH Tryz.prog Rows.pullsRow.laid W) : ∃ aL aI, Glob W aL aI := by
  obtain ⟨h1, h2⟩ := laidMetH_iff.1 h
  have h3 := h1.filter fun x => x.1 != "unicode/utf8.acceptRanges"
  have e : ((Rows.pullsRow.laid.filter fun x => x.2.handleName?.isNone).filter fun x => x.1 != "unicode/utf8.acceptRanges") = [("prose/api.ErrLong", Rows.laid_prose_api_ErrLong), ("prose/api.ErrIdle", Rows.laid_prose_api_ErrIdle), ("prose/api.ErrSink", Rows.laid_prose_api_ErrSink), ("prose/reading.errPanic", Rows.laid_prose_reading_errPanic), ("unicode/utf8.first", Rows.laid_unicode_utf8_first)] := rfl
  rw [e] at h3
  obtain ⟨a0, a1, a2, c0, c1, c2, t0, t1, t2, g0, g1, g2, n10, n20, n21, b0, b1, b2⟩ := sents_of_laid h3
  have ht := handle_of h2 (List.mem_filter.2 ⟨List.mem_cons_of_mem _ List.mem_cons_self, rfl⟩)
  exact ⟨a0, a1, g0, g1, ht, sent_other a1 a0 c1 c0 t1 t0 W n10 b1 b0⟩

/-- A list of variables laid by the function over any start. -/
theorem laidMet_over {P : Program} {w0 : World} {laid : List (String × DataW Unit)} (args : Array Value) (hf : w0.layFits P laid [] = true) (hi : w0.layIfaces P laid (w0.layVars P laid) = true) :
    laidMet P laid ((w0.layVars P laid).forCall (fun _ _ => 0) ⟨#[], args, []⟩).memory := by
  have e1 : (laid.filter fun x => (laid.map (·.1)).contains x.1) = laid := List.filter_eq_self.2 fun x hx => List.contains_iff_mem.2 (List.mem_map.2 ⟨x, hx, rfl⟩)
  have e2 : (laid.filter fun x => !(laid.map (·.1)).contains x.1) = [] := List.filter_eq_nil_iff.2 fun x hx => by rw [List.contains_iff_mem.2 (List.mem_map.2 ⟨x, hx, rfl⟩)]; simp
  have h : laidMet P laid (w0.layVars P laid) := laidMet_layVars (w0 := w0) (laid.map (·.1)) [] (by rw [e1]) (by rw [e1]; exact hf) (by rw [e1]; exact hi) (by rw [e2]; exact LaidIn.none)
  exact h.of_heap (by simp [World.memory, World.forCall, Input.heap])

/-- A start that meets the condition. -/
theorem pulls_door (os : Os) (args : Array Value) : laidMetH Tryz.prog Rows.pullsRow.laid (((World.doorLaid Tryz.prog 136 os).layVars Tryz.prog (Rows.pullsRow.laid.filter fun x => x.2.handleName?.isNone)).forCall (fun _ _ => 0) ⟨#[], args, []⟩).memory :=
  laidMetH_of_parts3 (fuel := 8) (laidMet_over args (by kernel_rfl) (by kernel_rfl)) (by kernel_rfl) (by kernel_rfl)

theorem Tryz.cellsBool : Tryz.prog.cellsOf 4 = 1 := by kernel_rfl
theorem list_of_each {α : Type} (Q : Nat → α → Prop) (n : Nat) (h : ∀ i, i < n → ∃ x, Q i x) : ∃ l : List α, l.length = n ∧ ∀ i x, l[i]? = some x → Q i x := by
  induction n with
  | zero => exact ⟨[], rfl, fun i x hi => by simp at hi⟩
  | succ n ih =>
    obtain ⟨l, h1, h2⟩ := ih (fun i hi => h i (by omega))
    obtain ⟨x, hx⟩ := h n (by omega)
    refine ⟨l ++ [x], by simp [h1], fun i y hi => ?_⟩
    by_cases hn : i < n
    · rw [List.getElem?_append_left (by omega)] at hi
      exact h2 i y hi
    · have hin : i = n := by
        have := (List.getElem?_eq_some_iff.1 hi).1
        simp [h1] at this
        omega
      subst hin
      rw [List.getElem?_append_right (by omega), h1] at hi
      simp at hi
      subst hi
      exact hx
theorem Tryz.cellsOp : Tryz.prog.cellsOf 54 = 3 := by kernel_rfl

set_option maxRecDepth 100000 in
/-- The script, opened. -/
theorem open_ops {H : Type} {enc : TypeId × Value → H} {W : World} {sp : Nat → Bool} {r : Reach} {b0 : Nat} {v : Value} {d : DataW H} {q : List MemPlace} (hv : Value.okWide Tryz.prog W r b0 34 v) (h : DataW.Trod enc Tryz.prog W 0 sp true 34 v d q) :
    ∃ (p : Option Addr) (cap : Nat) (ops : List (Int × Int × Bool)), v = .slice p ops.length cap ∧ OpsAt p ops W := by
  obtain ⟨a0, len0, cap0, rfl⟩ := okWide_slice Tryz.underlying34 hv
  obtain ⟨fuel, hf⟩ := h
  rcases DataW.trod_slice Tryz.underlying34 hf with ⟨hcs, _⟩ | ⟨a, len, cap, elems, rest, n, _, hcs, _, hb, hl, hm, hlen, hel, _⟩
  · simp [Value.cells] at hcs
    obtain ⟨rfl, rfl, rfl⟩ := hcs
    exact ⟨none, 0, [], rfl, Or.inl rfl⟩
  · simp [Value.cells] at hcs
    obtain ⟨rfl, rfl, rfl⟩ := hcs
    have each : ∀ i, i < len0 → ∃ k m t, W.cell? (a.add (i * 3)) = some (.int .i64 k) ∧ W.cell? (a.add (i * 3 + 1)) = some (.int .i64 m) ∧ W.cell? (a.add (i * 3 + 2)) = some (.bool t) := by
      intro i hi
      have h1 := hel i hi
      rw [Tryz.cellsOp] at h1
      obtain ⟨y, hy⟩ : ∃ y, elems[i]? = some y := ⟨elems[i]'(by omega), List.getElem?_eq_getElem _⟩
      rw [hy, Option.bind_eq_some_iff] at h1
      obtain ⟨cs, hcs, ht⟩ := h1
      obtain ⟨_, hl3, hc⟩ := World.cells?_some hcs
      obtain ⟨y0, y1, y2, n', _, _, t0, t1, t2⟩ := Go.Deep.trod_struct3 Tryz.underlying54 ht
      change DataW.trod enc Tryz.prog W 0 sp true n' 3 (List.take (Tryz.prog.cellsOf 3) (List.drop 0 cs)) = some y0 at t0
      change DataW.trod enc Tryz.prog W 0 sp true n' 3 (List.take (Tryz.prog.cellsOf 3) (List.drop 1 cs)) = some y1 at t1
      change DataW.trod enc Tryz.prog W 0 sp true n' 4 (List.take (Tryz.prog.cellsOf 4) (List.drop 2 cs)) = some y2 at t2
      rw [Tryz.cellsInt] at t0 t1
      rw [Tryz.cellsBool] at t2
      obtain ⟨c0, c1, c2, rfl⟩ : ∃ c0 c1 c2, cs = [c0, c1, c2] := by
        match cs, hl3 with
        | [c0, c1, c2], _ => exact ⟨c0, c1, c2, rfl⟩
      obtain ⟨k, e0, _, _⟩ := DataW.trod_int Tryz.underlying3 t0
      obtain ⟨m, e1, _, _⟩ := DataW.trod_int Tryz.underlying3 t1
      obtain ⟨t, e2, _⟩ := DataW.trod_bool Tryz.underlying4 t2
      simp at e0 e1 e2
      subst e0 e1 e2
      have h0 := hc 0 (by decide)
      have h1 := hc 1 (by decide)
      have h2 := hc 2 (by decide)
      rw [Addr.add_add] at h0 h1 h2
      exact ⟨k, m, t, h0, h1, h2⟩
    obtain ⟨ops, hol, hop'⟩ := list_of_each (fun i (x : Int × Int × Bool) => W.cell? (a.add (i * 3)) = some (.int .i64 x.1) ∧ W.cell? (a.add (i * 3 + 1)) = some (.int .i64 x.2.1) ∧ W.cell? (a.add (i * 3 + 2)) = some (.bool x.2.2)) len0 (fun i hi => by
      obtain ⟨k, m, t, h⟩ := each i hi
      exact ⟨(k, m, t), h⟩)
    have hop : ∀ i k m t, ops[i]? = some (k, m, t) → W.cell? (a.add (i * 3)) = some (.int .i64 k) ∧ W.cell? (a.add (i * 3 + 1)) = some (.int .i64 m) ∧ W.cell? (a.add (i * 3 + 2)) = some (.bool t) := fun i k m t hi => hop' i (k, m, t) hi
    refine ⟨some a, cap0, ops, by rw [hol], ?_⟩
    by_cases h0 : ops = []
    · exact Or.inl h0
    · right
      obtain ⟨⟨k, m, t⟩, r, rfl⟩ := List.exists_cons_of_ne_nil h0
      obtain ⟨q0, _, _⟩ := hop 0 k m t rfl
      obtain ⟨g, o, spot⟩ := a
      have hspot : spot = none := by simpa [Addr.add] using World.cell?_spot q0
      subst hspot
      rw [Addr.add_lit] at q0
      refine ⟨g, o, rfl, lt_cell q0, fun i k m t hi => ?_⟩
      have := hop i k m t hi
      simpa [Addr.add_lit, Nat.add_assoc] using this

set_option maxRecDepth 100000 in
theorem pulls_lifted (os : Os) (started : os.Started) (H : Type) (enc : TypeId × Value → H) :
    ReturnsInHanded {} Tryz.checked os 4 .any (fun w args => (Rows.pullsSpec.pre enc Tryz.prog Tryz.f4 [] false w args ∧ laidMetH Tryz.prog Rows.pullsRow.laid w) ∧ sizedMet enc Tryz.prog Tryz.f4 (OpenSpec.ofChange Rows.pullsSpec) false w args)
      (Rows.pullsSpec.post enc Tryz.prog Tryz.f4 false true false false) := by
  refine returnsInHanded_of_calls Tryz.own started (by kernel_rfl)
    (ChangeSpec.witness_shaped (enc := enc) (C := Tryz.checked) (os := os) (X := fun w _ => laidMetH Tryz.prog Rows.pullsRow.laid w) false ((World.doorLaid Tryz.prog 136 os).layVars Tryz.prog (Rows.pullsRow.laid.filter fun x => x.2.handleName?.isNone)) #[.agg #[.string ⟨#[]⟩, .slice none 0 0, .int .i64 0, .bool false], .agg #[.string ⟨#[]⟩, .slice none 0 0, .int .i64 0, .bool false], .slice none 0 0] 8 (World.layVars_os _ _ _)
      (World.shaped_of_ZipB (by kernel_rfl) (by kernel_rfl)) (by kernel_rfl) (by kernel_rfl) (by kernel_rfl) (pulls_door os _)) ?_
  intro w tape i _ hsh _ hok hpre _
  obtain ⟨_, _, _, fn', hfn', _, _, _, _, hval0⟩ := hok
  obtain rfl : fn' = Tryz.f4 := Option.some.inj (hfn'.symm.trans Tryz.func4)
  obtain ⟨⟨⟨ds, gs, before, hw0, _⟩, hL0⟩, _⟩ := hpre
  have hW := DataW.Whole.of_heap (w' := w.forCall tape i) (by rfl) hw0
  have hL : laidMetH Tryz.prog Rows.pullsRow.laid (w.forCall tape i) := hL0.of_heap (by rfl)
  suffices h : Calls Tryz.prog 4 i.args (w.forCall tape i) fun e W' => ∃ v, e = .returned v ∧ Rows.pullsSpec.post enc Tryz.prog Tryz.f4 false true false false (w.forCall tape i) i.args v W' by
    refine h.mono fun e W' ⟨v, he, hp⟩ => ?_
    subst he
    exact ChangeSpec.post_blind hp
  generalize w.forCall tape i = W at hsh hW hval0 hL
  generalize i.args = args at hW hval0
  have hval : ∀ (j : Nat) t v, Tryz.f4.params[j]? = some t → args[j]? = some v → Value.okWide Tryz.prog W .any w.heap.size t v := hval0
  have hW' := hW
  obtain ⟨p, q, hA0, hV, rfl, _, _⟩ := hW
  have hA : DataW.TrodAll enc Tryz.prog W 0 (fun _ => true) true Tryz.f4.params.toList args.toList ds p := hA0
  rw [Tryz.params4] at hA hval
  obtain ⟨v0, v1, v2, d0, d1, d2, p0, p1, p2, rfl, rfl, rfl, h0, h1, h2⟩ := trodAll_three hA
  obtain ⟨rfl, rfl⟩ := trodVars_none hV
  have lt0 : ∀ x ∈ p0, x.block < W.heap.size := by obtain ⟨m, hm⟩ := h0; exact DataW.trod_lt m _ _ _ hm
  have lt1 : ∀ x ∈ p1, x.block < W.heap.size := by obtain ⟨m, hm⟩ := h1; exact DataW.trod_lt m _ _ _ hm
  have lt2 : ∀ x ∈ p2, x.block < W.heap.size := by obtain ⟨m, hm⟩ := h2; exact DataW.trod_lt m _ _ _ hm
  obtain ⟨m, hm⟩ := maxLen_of hsh
  obtain ⟨aL, aI, G⟩ := pulls_glob hL
  obtain ⟨ta, ca, pa, csa, fa, wa, hv0, na⟩ := open_in (hval 0 33 v0 rfl rfl) h0
  obtain ⟨tb, cb, pb, csb, fb, wb, hv1, nb⟩ := open_in (hval 1 33 v1 rfl rfl) h1
  obtain ⟨po, co, ops, hv2, ho⟩ := open_ops (hval 2 34 v2 rfl rfl) h2
  simp only [List.append_nil] at hW'
  have walk : Calls Tryz.prog 4 #[v0, v1, v2] W fun e w' => e = .returned (.bool true) ∧ Below W.heap.size W w' := by
    rw [hv0, hv1, hv2]
    by_cases hf : (ta.size ≤ 1048576 ∧ csa.length ≤ 1048576) ∧ (tb.size ≤ 1048576 ∧ csb.length ≤ 1048576) ∧ ops.length ≤ 1048576
    · obtain ⟨⟨oa, na'⟩, ga⟩ := gat_some fa wa (csa.length + 2) ta csa 0 ByteArray.empty 0 (by split <;> omega)
      obtain ⟨⟨ob, nb'⟩, gb⟩ := gat_some fb wb (csb.length + 2) tb csb 0 ByteArray.empty 0 (by split <;> omega)
      exact pulls_fit ⟨true, ta, csa, fa, wa, oa, na'⟩ ⟨true, tb, csb, fb, wb, ob, nb'⟩ ⟨hf.1.1, hf.1.2, fun _ => ga, fun h => by cases h⟩ ⟨hf.2.1.1, hf.2.1.2, fun _ => gb, fun h => by cases h⟩ rfl rfl ca cb pa pb po co ops aL aI m W na nb ho hf.2.2 ⟨G, hm⟩
    · exact pulls_unfit ta tb ca cb csa.length csb.length pa pb fa fb wa wb po ops.length co W hf
  refine walk.mono fun e W' ⟨he, bel⟩ => ?_
  subst he
  exact ⟨_, rfl, _, _, _, [], _, [], hW', trodAll_mk1 (shut_bool Tryz.underlying4 _), trodAll_mk3 (Below.trod Tryz.laidOut (by kernel_rfl) (of_decide_eq_true (by kernel_rfl)) h0 bel lt0) (Below.trod Tryz.laidOut (by kernel_rfl) (of_decide_eq_true (by kernel_rfl)) h1 bel lt1) (Below.trod Tryz.laidOut (by kernel_rfl) (of_decide_eq_true (by kernel_rfl)) h2 bel lt2), rfl, bel.frame _, fun h => by cases h⟩

theorem pulls_holds : Rows.PullsSaid :=
  OpenClaim.holds_of_wide 4 Tryz.f4 rfl rfl rfl rfl rfl rfl rfl ⟨rfl, rfl, rfl, rfl, rfl⟩ rfl rfl rfl rfl rfl (by kernel_rfl) Tryz.func4 (by kernel_rfl)
    (of_decide_eq_true (by kernel_rfl)) (by unfold Func.isWrapper; first | (rw [if_pos (by decide +kernel)]; kernel_rfl) | (rw [if_neg (by decide +kernel)]; exact ⟨rfl, rfl⟩))
    (fun os started H enc _ => pulls_lifted os started H enc)
#print axioms pulls_holds
end Go.Proofs.YtljcljipppjnoaaGreatDoor
