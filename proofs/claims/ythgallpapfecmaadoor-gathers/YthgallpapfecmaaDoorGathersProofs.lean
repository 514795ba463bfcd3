import Derived.Test.YthgallpapfecmaaDoorGathersWalk
import Derived.Test.YthgallpapfecmaaDoorSents
import Derived.LaidHandle
import Derived.LaidSub
import Derived.Lib.SmallJoins
namespace Go.Proofs.YthgallpapfecmaaDoor
open Go.ChangeShapes Go.WideShapes Go.ChangeAt Go.WideMaps Go.WideElems Go.RowKit Go.Joins

theorem Tryd.et : Tryd.prog.globalNamed "errors.errorType" = some 3 := by kernel_rfl
theorem Tryd.rt : (Tryd.prog.cutTypes.find? (·.1 == "internal/reflectlite.rtype")).map (·.2) = some 119 := by kernel_rfl
theorem Tryd.nty : Tryd.prog.types.size = 199 := by kernel_rfl
theorem Tryd.oneRow : ((List.range 199).filter fun t => Tryd.prog.rowNamed t [101, 114, 114, 111, 114]) = [42] := by kernel_rfl
theorem Tryd.laidOut : laidOutB Tryd.prog = true := by kernel_rfl
theorem Tryd.cellsIn : Tryd.prog.cellsOf 25 = 4 := by kernel_rfl
theorem Tryd.cellsInt : Tryd.prog.cellsOf 3 = 1 := by kernel_rfl

theorem handle_of {W : World} {l : List (String × DataW Unit)} (h : handlesMet Tryd.prog l W) (hm : ("errors.errorType", Rows.laid_errors_errorType) ∈ l) :
    W.cell? ⟨3, 0, none⟩ = some (.iface 119 (.agg #[.pointer (some ⟨8, 42, none⟩)])) := by
  obtain ⟨name, u, ty, e1, e2, e3, e4, e5⟩ := h _ hm
  have en : name = [101, 114, 114, 111, 114] := (Option.some.inj e1).symm
  subst en
  obtain rfl := Option.some.inj (Tryd.rt.symm.trans e2)
  have hmm : ty ∈ (List.range 199).filter fun t => Tryd.prog.rowNamed t [101, 114, 114, 111, 114] := List.mem_filter.2 ⟨List.mem_range.2 (by rw [← Tryd.nty]; exact e3), e4⟩
  rw [Tryd.oneRow] at hmm
  obtain rfl := List.mem_singleton.1 hmm
  have hh : typeHandle Tryd.prog 42 = .pointer (some ⟨8, 42, none⟩) := by kernel_rfl
  rw [hh] at e5
  simpa using World.var?_cell Tryd.et e5 0

theorem glob_of {W : World} (h : laidMetH Tryd.prog Rows.gathersRow.laid W) : ∃ aL aI, Glob W aL aI := by
  obtain ⟨h1, h2⟩ := laidMetH_iff.1 h
  have e : (Rows.gathersRow.laid.filter fun x => x.2.handleName?.isNone) = [("prose/api.ErrLong", Rows.laid_prose_api_ErrLong), ("prose/api.ErrIdle", Rows.laid_prose_api_ErrIdle), ("prose/api.ErrSink", Rows.laid_prose_api_ErrSink), ("prose/reading.errPanic", Rows.laid_prose_reading_errPanic)] := rfl
  rw [e] at h1
  obtain ⟨a0, a1, a2, c0, c1, c2, t0, t1, t2, g0, g1, g2, n10, n20, n21, b0, b1, b2⟩ := sents_of_laid h1
  have ht := handle_of h2 (List.mem_filter.2 ⟨List.mem_cons_self, rfl⟩)
  exact ⟨a0, a1, g0, g1, ht, sent_other a1 a0 c1 c0 t1 t0 W n10 b1 b0⟩

theorem gathers_door (os : Os) (args : Array Value) : laidMetH Tryd.prog Rows.gathersRow.laid ((World.doorLaid Tryd.prog 102 os).forCall (fun _ _ => 0) ⟨#[], args, []⟩).memory :=
  laidMetH_of_parts3 (fuel := 8) (laidMet_of_run' 8 (by kernel_rfl) (by kernel_rfl)) (by kernel_rfl) (by kernel_rfl)

set_option maxRecDepth 100000 in
/-- The argument, opened. -/
theorem open_in {H : Type} {enc : TypeId × Value → H} {W : World} {sp : Nat → Bool} {r : Reach} {b0 : Nat} {v : Value} {d : DataW H} {p : List MemPlace} (hv : Value.okWide Tryd.prog W r b0 25 v) (h : DataW.Trod enc Tryd.prog W 0 sp true 25 v d p) :
    ∃ (tx : ByteArray) (ca : Option Addr) (cap : Nat) (cs : List Int) (fa : Int) (wt : Bool), v = .agg #[.string tx, .slice ca cs.length cap, .int .i64 fa, .bool wt] ∧ NumsAt (.slice ca cs.length cap) cs W := by
  obtain ⟨v0, v1, v2, v3, y0, y1, y2, y3, n, rfl, rfl, rfl, h0, h1, h2, h3⟩ := open_agg4 Tryd.underlying25 (by kernel_rfl) Tryd.cellsIn hv h
  obtain ⟨s, e0, _, _⟩ := DataW.trod_string Tryd.underlying9 h0
  obtain ⟨fa, e2, _, _⟩ := DataW.trod_int Tryd.underlying3 h2
  obtain ⟨wt, e3, _⟩ := DataW.trod_bool Tryd.underlying4 h3
  simp at e0 e2 e3
  subst e0 e2 e3
  rcases open_ints Tryd.underlying23 Tryd.underlying3 Tryd.cellsInt h1 with ⟨hcs, _⟩ | ⟨x, l, c, zs, hcs, _, hl, hm, hz, _, hcell, hwz⟩
  · simp at hcs
    subst hcs
    exact ⟨s, none, 0, [], fa, wt, rfl, Or.inl ⟨rfl, _, _, rfl⟩⟩
  · simp at hcs
    subst hcs
    have hlen : (zs.take l).length = l := by rw [List.length_take]; split at hz <;> omega
    refine ⟨s, some x, c, zs.take l, fa, wt, by rw [hlen], ?_⟩
    rw [hlen]
    by_cases h0 : l = 0
    · subst h0
      exact Or.inl ⟨by simp, _, _, rfl⟩
    · right
      have hzl : l ≤ zs.length := by split at hz <;> omega
      have hc0 := hcell 0 (by omega)
      obtain ⟨g, o, spot⟩ := x
      have hspot : spot = none := by simpa [Addr.add] using World.cell?_spot hc0
      subst hspot
      rw [Addr.add_lit] at hc0
      refine ⟨g, o, c, by rw [hlen], lt_cell hc0, fun j cc hj => ?_⟩
      have hjl : j < l := by have := (List.getElem?_eq_some_iff.1 hj).1; omega
      have := hcell j (by omega)
      rw [Addr.add_lit] at this
      rw [this]
      rw [List.getElem?_take_of_lt hjl] at hj
      rw [List.getD_eq_getElem?_getD, hj]
      rfl

set_option maxRecDepth 100000 in
theorem gathers_lifted (os : Os) (started : os.Started) (H : Type) (enc : TypeId × Value → H) :
    ReturnsInHanded {} Tryd.checked os 4 .any (fun w args => (Rows.gathersSpec.pre enc Tryd.prog Tryd.f4 [] false w args ∧ laidMetH Tryd.prog Rows.gathersRow.laid w) ∧ sizedMet enc Tryd.prog Tryd.f4 (OpenSpec.ofChange Rows.gathersSpec) false w args)
      (Rows.gathersSpec.post enc Tryd.prog Tryd.f4 false true false false) := by
  refine returnsInHanded_of_change_and (C := Tryd.checked) (X := fun w _ => laidMetH Tryd.prog Rows.gathersRow.laid w) (fun _ _ _ hh h => h.of_heap hh) Tryd.own started (by kernel_rfl) Tryd.func4
    (ChangeSpec.witness_shaped (enc := enc) (C := Tryd.checked) (os := os) (X := fun w _ => laidMetH Tryd.prog Rows.gathersRow.laid w) false (World.doorLaid Tryd.prog 102 os) #[.agg #[.string ⟨#[]⟩, .slice none 0 0, .int .i64 0, .bool false]] 8 rfl (World.shaped_of_RefB (by kernel_rfl) (by kernel_rfl)) (by kernel_rfl) (by kernel_rfl) (by kernel_rfl) (gathers_door os _)) ?_
  intro W base args ds gs before hval0 hW _ _ hL _
  have hval : ∀ (j : Nat) t v, Tryd.f4.params[j]? = some t → args[j]? = some v → Value.okWide Tryd.prog W .any base t v := hval0
  have hW' := hW
  obtain ⟨p, q, hA0, hV, rfl, hfz, hnd⟩ := hW
  have hA : DataW.TrodAll enc Tryd.prog W 0 (fun _ => true) true Tryd.f4.params.toList args.toList ds p := hA0
  rw [Tryd.params4] at hA hval
  obtain ⟨v0, d0, rfl, rfl, h0⟩ := trodAll_one hA
  obtain ⟨rfl, rfl⟩ := trodVars_none hV
  have lt0 : ∀ x ∈ p, x.block < W.heap.size := by obtain ⟨m, hm⟩ := h0; exact DataW.trod_lt m _ _ _ hm
  obtain ⟨aL, aI, G⟩ := glob_of hL
  obtain ⟨tx, ca, cap, cs, fa, wt, hv0, hn⟩ := open_in (hval 0 25 v0 rfl rfl) h0
  clear hA0 hval0
  simp only [List.append_nil] at hW'
  have walk : Calls Tryd.prog 4 #[v0] W fun e w' => e = .returned (.bool true) ∧ Below W.heap.size W w' := by
    rw [hv0]
    by_cases hf : tx.size ≤ 1048576 ∧ cs.length ≤ 1048576
    · exact gathers_fit tx ca cap cs fa wt aL aI W hn hf.1 hf.2 G
    · exact gathers_unfit tx ca cs.length cap fa wt W hf
  refine walk.mono fun e W' ⟨he, bel⟩ => ?_
  subst he
  exact ⟨_, rfl, _, _, _, [], p, [], hW', trodAll_mk1 (shut_bool Tryd.underlying4 _), trodAll_mk1 (Below.trod Tryd.laidOut (by kernel_rfl) (of_decide_eq_true (by kernel_rfl)) h0 bel lt0), rfl, bel.frame _, fun h => by cases h⟩

theorem gathers_holds : Rows.GathersSaid :=
  OpenClaim.holds_of_wide 4 Tryd.f4 rfl rfl rfl rfl rfl rfl rfl ⟨rfl, rfl, rfl, rfl, rfl⟩ rfl rfl rfl rfl rfl (by kernel_rfl) Tryd.func4 (by kernel_rfl)
    (of_decide_eq_true (by kernel_rfl)) (by unfold Func.isWrapper; first | (rw [if_pos (by decide +kernel)]; kernel_rfl) | (rw [if_neg (by decide +kernel)]; exact ⟨rfl, rfl⟩))
    (fun os started H enc _ => gathers_lifted os started H enc)
#print axioms gathers_holds
end Go.Proofs.YthgallpapfecmaaDoor
