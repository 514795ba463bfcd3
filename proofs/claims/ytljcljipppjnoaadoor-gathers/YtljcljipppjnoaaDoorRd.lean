import Derived.Test.YtljcljipppjnoaaDoorSrcCut0
import Derived.Test.YtljcljipppjnoaaDoorSrcCut1
import Derived.Test.YtljcljipppjnoaaDoorSrcRest
import Derived.Test.YtljcljipppjnoaaDoorReadWalk
import Derived.Test.YtljcljipppjnoaaDoorGat
namespace Go.Proofs.YtljcljipppjnoaaDoor
open Go.RowKit

theorem SrcAt.asked {b : Nat} {tx : ByteArray} {cv : Value} {fa : Int} {wt : Bool} {rd : Int} {ov : Bool} {w : World} (h : SrcAt b tx cv fa wt rd ov w) : SrcAt b tx cv fa wt rd ov (asked w) :=
  ((h.alloc _).alloc _).alloc _

theorem rd_fail (b : Nat) (tx : ByteArray) (cv : Value) (fa : Int) (wt : Bool) (rd : Int) (ov : Bool) (w : World) (h : SrcAt b tx cv fa wt rd ov w) (h0 : 0 ≤ rd) (h1 : rd < 4611686018427387904) (hf : rd + 1 = fa) :
    Calls Tryd.prog 33 #[.iface 47 (.pointer (some ⟨b, 0, none⟩))] w fun e w' => e = .returned (.tuple #[.string ⟨#[108, 111, 115, 116]⟩, .bool wt, .iface 62 (.pointer (some ⟨w.heap.size + 3, 0, none⟩))]) ∧
      SrcAt b tx cv fa wt (rd + 1) ov w' ∧ w'.heap[w.heap.size + 3]? = some (.cells #[.int .i64 (rd + 1)] 181 (0, 0)) ∧ Kept b w w' := by
  have hlt := h.lt
  have hc := read_fail b tx cv fa wt rd ov (asked w) h.asked h0 h1 hf
  rw [asked_size] at hc
  refine (read_walk b ⟨#[108, 111, 115, 116]⟩ wt (.iface 62 (.pointer (some ⟨w.heap.size + 3, 0, none⟩))) (fun w' => SrcAt b tx cv fa wt (rd + 1) ov w' ∧ w'.heap[w.heap.size + 3]? = some (.cells #[.int .i64 (rd + 1)] 181 (0, 0))) w hlt (Or.inr ⟨_, _, rfl⟩) (hc.mono ?_)).mono ?_
  · rintro e w' ⟨rfl, r1, r2, r3⟩
    exact ⟨rfl, ⟨r1, r2⟩, r3⟩
  · rintro e w' ⟨rfl, w1, ⟨r1, r2⟩, hk, r3⟩
    exact ⟨rfl, (hk b (Or.inl hlt)).trans r1, (hk _ (Or.inr (Nat.le_refl _))).trans r2, r3⟩

theorem rd_ok (b : Nat) (tx : ByteArray) (cv : Value) (cs : List Int) (fa : Int) (wt : Bool) (rd : Int) (w : World) (h : SrcAt b tx cv fa wt rd false w) (hcs : CutsOK b cv cs w) (h0 : 0 ≤ rd) (h1 : rd < 4611686018427387904) (hts : tx.size ≤ 4611686018427387904) (hf : rd + 1 ≠ fa) :
    Calls Tryd.prog 33 #[.iface 47 (.pointer (some ⟨b, 0, none⟩))] w fun e w' => e = .returned (.tuple #[.string (rdPiece tx cs), .bool (rdDone wt tx cs), .nilIface]) ∧
      (∃ cv' ov', SrcAt b (rdRest tx cs) cv' fa wt (rd + 1) ov' w' ∧ CutsOK b cv' cs.tail w' ∧ (rdDone wt tx cs = false → ov' = false) ∧ (∀ g o n cap, cv' = .slice (some ⟨g, o, none⟩) n cap → ∃ o' n' cap', cv = .slice (some ⟨g, o', none⟩) n' cap')) ∧ Kept b w w' := by
  have hlt := h.lt
  obtain ⟨g, o, cap, rfl, hl, hcap, hgb, hg, hcell⟩ := hcs
  refine (read_walk b (rdPiece tx cs) (rdDone wt tx cs) .nilIface (fun w' => ∃ o' cap' ov', SrcAt b (rdRest tx cs) (.slice (some ⟨g, o', none⟩) cs.tail.length cap') fa wt (rd + 1) ov' w' ∧ cs.tail.length ≤ cap' ∧ cap' ≤ cap ∧ (cs.tail.length ≠ 0 → o' = o + 1) ∧ (rdDone wt tx cs = false → ov' = false)) w hlt (Or.inl rfl) ?_).mono ?_
  · cases cs with
    | nil =>
      refine (read_rest b cap (some ⟨g, o, none⟩) tx fa wt rd (asked w) h.asked h0 h1 hf).mono ?_
      rintro e w' ⟨rfl, r1, r2⟩
      exact ⟨rfl, ⟨o, cap, _, r1, Nat.zero_le _, Nat.le_refl _, fun hh => absurd rfl hh, fun hh => hh⟩, r2⟩
    | cons c r =>
      have hc0 : (asked w).cell? ⟨g, o, none⟩ = some (.int .i64 c) := by
        rw [← hcell 0 c rfl]
        exact World.cell?_of_block (asked_old w g hg)
      by_cases hlow : c < 0 ∨ (tx.size : Int) < c
      · have hn : cutN tx c = 0 := by simp [cutN, hlow]
        refine (read_cut0 b g o r.length cap c tx fa wt rd false (asked w) h.asked h0 h1 hf hl hcap hts hgb hc0 hlow).mono ?_
        rintro e w' ⟨rfl, ⟨o', cap', r1, r2, r3, r4⟩, r5⟩
        refine ⟨?_, ⟨o', cap', false, ?_, r2, r3, r4, fun _ => rfl⟩, r5⟩
        · simp only [rdPiece, rdDone, hn, ext_none]
          have : decide (0 = tx.size) = decide (tx.size = 0) := by congr 1; exact propext ⟨Eq.symm, Eq.symm⟩
          rw [this]
        · simp only [rdRest, hn, ext_whole]
          exact r1
      · have hn : c = (cutN tx c : Int) := by
          unfold cutN
          rw [if_neg hlow]
          omega
        have hle := cutN_le tx c
        rw [hn] at hc0
        refine (read_cut1 b g o r.length cap (cutN tx c) tx fa wt rd false (asked w) h.asked h0 h1 hf hl hcap hgb hc0 hle).mono ?_
        rintro e w' ⟨rfl, ⟨o', cap', r1, r2, r3, r4⟩, r5⟩
        exact ⟨rfl, ⟨o', cap', false, r1, r2, r3, r4, fun _ => rfl⟩, r5⟩
  · rintro e w' ⟨rfl, w1, ⟨o', cap', ov', r1, r2, r3, r4, r5⟩, hk, r6⟩
    refine ⟨rfl, ⟨_, ov', (hk b (Or.inl hlt)).trans r1, ⟨g, o', cap', rfl, r2, by omega, hgb, by have := r6.size; omega, fun i c hi => ?_⟩, r5, fun g' o2 n2 cap2 he => ?_⟩, r6⟩
    · have hi' : cs[i + 1]? = some c := by rw [← hi, List.getElem?_tail]
      have hlen : cs.tail.length ≠ 0 := by
        intro h0
        rw [List.length_eq_zero_iff.1 h0] at hi
        simp at hi
      have := hcell (i + 1) c hi'
      rw [r4 hlen, ← this, Nat.add_right_comm, Nat.add_assoc]
      exact World.cell?_of_block (r6.block g hg hgb)
    · simp at he
      exact ⟨o, cs.length, cap, by rw [he.1.1]⟩

end Go.Proofs.YtljcljipppjnoaaDoor
