import Derived.Test.YtljcljipppjnoaaDoorGathersWalk
import Derived.Test.YtljcljipppjnoaaDoorSents
import Derived.Test.YtljcljipppjnoaaDoorInOpen
import Derived.LaidHandle
import Derived.LaidSub
import Derived.Lib.SmallJoins
namespace Go.Proofs.YtljcljipppjnoaaDoor
open Go.ChangeShapes Go.WideShapes Go.ChangeAt Go.WideMaps Go.WideElems Go.RowKit Go.Joins

theorem glob_of {W : World} (h : laidMetH Tryd.prog Rows.gathersRow.laid W) : ∃ aL aI, Glob W aL aI := by
  obtain ⟨h1, h2⟩ := laidMetH_iff.1 h
  have e : (Rows.gathersRow.laid.filter fun x => x.2.handleName?.isNone) = [("prose/api.ErrLong", Rows.laid_prose_api_ErrLong), ("prose/api.ErrIdle", Rows.laid_prose_api_ErrIdle), ("prose/api.ErrSink", Rows.laid_prose_api_ErrSink), ("prose/reading.errPanic", Rows.laid_prose_reading_errPanic)] := rfl
  rw [e] at h1
  obtain ⟨a0, a1, a2, c0, c1, c2, t0, t1, t2, g0, g1, g2, n10, n20, n21, b0, b1, b2⟩ := sents_of_laid h1
  have ht := handle_of h2 (List.mem_filter.2 ⟨List.mem_cons_self, rfl⟩)
  exact ⟨a0, a1, g0, g1, ht, sent_other a1 a0 c1 c0 t1 t0 W n10 b1 b0⟩

theorem gathers_door (os : Os) (args : Array Value) : laidMetH Tryd.prog Rows.gathersRow.laid ((World.doorLaid Tryd.prog 102 os).forCall (fun _ _ => 0) ⟨#[], args, []⟩).memory :=
  laidMetH_of_parts3 (fuel := 8) (laidMet_of_run' 8 (by kernel_rfl) (by kernel_rfl)) (by kernel_rfl) (by kernel_rfl)

set_option maxRecDepth 100000 in
theorem gathers_lifted (os : Os) (started : os.Started) (H : Type) (enc : TypeId × Value → H) :
    ReturnsInHanded {} Tryd.checked os 4 .any (fun w args => (Rows.gathersSpec.pre enc Tryd.prog Tryd.f4 [] false w args ∧ laidMetH Tryd.prog Rows.gathersRow.laid w) ∧ sizedMet enc Tryd.prog Tryd.f4 (OpenSpec.ofChange Rows.gathersSpec) false w args)
      (Rows.gathersSpec.post enc Tryd.prog Tryd.f4 false true false false) := by
  refine returnsInHanded_of_change_and (C := Tryd.checked) (X := fun w _ => laidMetH Tryd.prog Rows.gathersRow.laid w) (fun _ _ _ hh h => h.of_heap hh) Tryd.own started (by kernel_rfl) Tryd.func4
    (ChangeSpec.witness_shaped (enc := enc) (C := Tryd.checked) (os := os) (X := fun w _ => laidMetH Tryd.prog Rows.gathersRow.laid w) false (World.doorLaid Tryd.prog 102 os) #[.agg #[.string ⟨#[]⟩, .slice none 0 0, .int .i64 0, .bool false]] 8 rfl (World.shaped_of_RefB (by kernel_rfl) (by kernel_rfl)) (by kernel_rfl) (by kernel_rfl) (by kernel_rfl) (gathers_door os _)) ?_
  intro W base args ds gs before hval0 hW _ _ hL _
  have hval : ∀ (j : Nat) t v, Tryd.f4.params[j]? = some t → args[j]? = some v → Value.okWide Tryd.prog W .any base t v := hval0
  have hW' := hW
  obtain ⟨p, q, hA0, hV, rfl, hfz, hnd⟩ := hW
  have hA : DataW.TrodAll enc Tryd.prog W 0 (fun _ => true) true Tryd.f4.params.toList args.toList ds p := hA0
  rw [Tryd.params4] at hA hval
  obtain ⟨v0, d0, rfl, rfl, h0⟩ := trodAll_one hA
  obtain ⟨rfl, rfl⟩ := trodVars_none hV
  have lt0 : ∀ x ∈ p, x.block < W.heap.size := by obtain ⟨m, hm⟩ := h0; exact DataW.trod_lt m _ _ _ hm
  obtain ⟨aL, aI, G⟩ := glob_of hL
  obtain ⟨tx, ca, cap, cs, fa, wt, hv0, hn⟩ := open_in (hval 0 25 v0 rfl rfl) h0
  clear hA0 hval0
  simp only [List.append_nil] at hW'
  have walk : Calls Tryd.prog 4 #[v0] W fun e w' => e = .returned (.bool true) ∧ Below W.heap.size W w' := by
    rw [hv0]
    by_cases hf : tx.size ≤ 1048576 ∧ cs.length ≤ 1048576
    · exact gathers_fit tx ca cap cs fa wt aL aI W hn hf.1 hf.2 G
    · exact gathers_unfit tx ca cs.length cap fa wt W hf
  refine walk.mono fun e W' ⟨he, bel⟩ => ?_
  subst he
  exact ⟨_, rfl, _, _, _, [], p, [], hW', trodAll_mk1 (shut_bool Tryd.underlying4 _), trodAll_mk1 (Below.trod Tryd.laidOut (by kernel_rfl) (of_decide_eq_true (by kernel_rfl)) h0 bel lt0), rfl, bel.frame _, fun h => by cases h⟩

theorem gathers_holds : Rows.GathersSaid :=
  OpenClaim.holds_of_wide 4 Tryd.f4 rfl rfl rfl rfl rfl rfl rfl ⟨rfl, rfl, rfl, rfl, rfl⟩ rfl rfl rfl rfl rfl (by kernel_rfl) Tryd.func4 (by kernel_rfl)
    (of_decide_eq_true (by kernel_rfl)) (by unfold Func.isWrapper; first | (rw [if_pos (by decide +kernel)]; kernel_rfl) | (rw [if_neg (by decide +kernel)]; exact ⟨rfl, rfl⟩))
    (fun os started H enc _ => gathers_lifted os started H enc)
#print axioms gathers_holds
end Go.Proofs.YtljcljipppjnoaaDoor
