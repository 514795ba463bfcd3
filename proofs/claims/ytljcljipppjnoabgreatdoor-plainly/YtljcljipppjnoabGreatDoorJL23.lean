import Derived.Test.YtljcljipppjnoabGreatDoorJL22
import Derived.Defers
import Derived.Recover
namespace Go.Proofs.YtljcljipppjnoabGreatDoor
open Go.RowKit
theorem catch_idle (p q r : Addr) (w : World) :
    CallsD Tryz.prog 63 #[.pointer (some p), .pointer (some q), .pointer (some r)] .returning w fun e u' w' => e = .returned (.tuple #[]) ∧ u' = .returning ∧ w' = w := by
  refine callsD_of_wpS Tryz.func63 rfl fun c₀ cs hu => ?_
  apply wpS_seq
  apply wpS_region
  simp [wpOpsS, go_sem, recoverD, hu, Tryz.ntmps63, Exit.thenS]
  refine wpS_cond (t := false) (by simp [Act.eval, Array.replicate]) ?_
  simp only [Bool.false_eq_true, if_false]
  refine wpS_of_wp (wp_skip ?_)
  cases c₀
  simp_all [bodyPostS, results, Tryz.results63]
def asked (w : World) : World := ((w.alloc (.cells #[.string ⟨#[]⟩] 9)).alloc (.cells #[.bool false] 4)).alloc (.cells #[.nilIface] 41)
theorem asked_size (w : World) : (asked w).heap.size = w.heap.size + 3 := by simp [asked]
theorem asked_old (w : World) (k : Nat) (h : k < w.heap.size) : (asked w).heap[k]? = w.heap[k]? := by
  unfold asked
  rw [Below.heap_alloc _ _ k (by simp; omega), Below.heap_alloc _ _ k (by simp; omega), Below.heap_alloc _ _ k h]
theorem asked0 (w : World) : (asked w).heap[w.heap.size]? = some (.cells #[.string ⟨#[]⟩] 9 (0, 0)) := by
  unfold asked
  rw [Below.heap_alloc _ _ _ (by simp; omega), Below.heap_alloc _ _ _ (by simp)]
  exact heap_new _ _ rfl
theorem asked1 (w : World) : (asked w).heap[w.heap.size + 1]? = some (.cells #[.bool false] 4 (0, 0)) := by
  unfold asked
  rw [Below.heap_alloc _ _ _ (by simp)]
  exact heap_new _ _ (by simp)
theorem asked2 (w : World) : (asked w).heap[w.heap.size + 1 + 1]? = some (.cells #[.nilIface] 41 (0, 0)) := by
  unfold asked
  exact heap_new _ _ (by simp)
set_option maxHeartbeats 1000000 in
theorem read_walk (b : Nat) (p : ByteArray) (d : Bool) (er : Value) (R : World → Prop) (w : World) (hb : b < w.heap.size) (hie : er = .nilIface ∨ ∃ u x, er = .iface u x)
    (hR : Calls Tryz.prog 194 #[.pointer (some ⟨b, 0, none⟩)] (asked w) fun e w' => e = .returned (.tuple #[.string p, .bool d, er]) ∧ R w' ∧ Kept b (asked w) w') :
    Calls Tryz.prog 49 #[.iface 34 (.pointer (some ⟨b, 0, none⟩))] w fun e w' => e = .returned (.tuple #[.string p, .bool d, er]) ∧
      ∃ w1, R w1 ∧ (∀ k, k < w.heap.size ∨ w.heap.size + 3 ≤ k → w'.heap[k]? = w1.heap[k]?) ∧ Kept b w w' := by
  have hmf : ∀ (fn : Fn) (first cap : Array Value) (w : World), (Instr.makeFunc fn first cap).run Tryz.prog w = .ok (.func fn first cap) w := fun _ _ _ _ => rfl
  go_enter_defers Tryz.func49, Tryz.ntmps49
  go_wp2_with fail
  refine hR.mono ?_
  rintro e w1 ⟨rfl, hr, hk⟩
  have n0 := (hk.block w.heap.size (by rw [asked_size]; omega) (by omega)).trans (asked0 w)
  have n1 := (hk.block (w.heap.size + 1) (by rw [asked_size]; omega) (by omega)).trans (asked1 w)
  have n2 := (hk.block (w.heap.size + 1 + 1) (by rw [asked_size]; omega) (by omega)).trans (asked2 w)
  have x0 : w1.cell? ⟨w.heap.size, 0, none⟩ = some (.string ⟨#[]⟩) := by rw [Lib.cell_of_heap n0]; rfl
  have x1 : w1.cell? ⟨w.heap.size + 1, 0, none⟩ = some (.bool false) := by rw [Lib.cell_of_heap n1]; rfl
  have x2 : w1.cell? ⟨w.heap.size + 1 + 1, 0, none⟩ = some .nilIface := by rw [Lib.cell_of_heap n2]; rfl
  have y0 := Lib.frozen_of_heap n0 0
  have y1 := Lib.frozen_of_heap n1 0
  have y2 := Lib.frozen_of_heap n2 0
  have HK : Hid (R w1 ∧ Kept b (asked w) w1) := ⟨hr, hk⟩
  clear n0 n1 n2 hr hk hR
  rcases hie with rfl | ⟨u, x, rfl⟩
  all_goals
    go_wp2
    refine leaves_cons (f := 63) (args := #[.pointer (some ⟨w.heap.size, 0, none⟩), .pointer (some ⟨w.heap.size + 1, 0, none⟩), .pointer (some ⟨w.heap.size + 1 + 1, 0, none⟩)]) (by simp) (by simp [go_sem]) ?_
    refine (catch_idle _ _ _ _).mono ?_
    rintro e u' w'' ⟨rfl, rfl, rfl⟩
    simp [Leaves, settle, results, Tryz.results49, go_sem, x0, x1, x2]
    refine ⟨w1, HK.out.1, fun k hk => ?_, ?_⟩
    · rw [Below.heap_setCell _ _ _ k (by show k ≠ w.heap.size + 1 + 1; omega), Below.heap_setCell _ _ _ k (by show k ≠ w.heap.size + 1; omega), Below.heap_setCell _ _ _ k (by show k ≠ w.heap.size; omega)]
    · have k0 : Kept b w (asked w) := (((Kept.refl b w).alloc _).alloc _).alloc _
      exact ((((k0.trans HK.out.2).setNew (p := ⟨w.heap.size, 0, none⟩) (Nat.le_refl _) _).setNew (p := ⟨w.heap.size + 1, 0, none⟩) (by show w.heap.size ≤ w.heap.size + 1; omega) _).setNew (p := ⟨w.heap.size + 1 + 1, 0, none⟩) (by show w.heap.size ≤ w.heap.size + 1 + 1; omega) _)
end Go.Proofs.YtljcljipppjnoabGreatDoor

namespace Go.Proofs.YtljcljipppjnoabGreatDoor
open Go.RowKit
theorem SrcAt.asked {b : Nat} {tx : ByteArray} {cv : Value} {fa : Int} {wt : Bool} {rd : Int} {ov : Bool} {w : World} (h : SrcAt b tx cv fa wt rd ov w) : SrcAt b tx cv fa wt rd ov (asked w) :=
  ((h.alloc _).alloc _).alloc _
theorem rd_fail (b : Nat) (tx : ByteArray) (cv : Value) (fa : Int) (wt : Bool) (rd : Int) (ov : Bool) (w : World) (h : SrcAt b tx cv fa wt rd ov w) (h0 : 0 ≤ rd) (h1 : rd < 4611686018427387904) (hf : rd + 1 = fa) :
    Calls Tryz.prog 49 #[.iface 34 (.pointer (some ⟨b, 0, none⟩))] w fun e w' => e = .returned (.tuple #[.string ⟨#[108, 111, 115, 116]⟩, .bool wt, .iface 61 (.pointer (some ⟨w.heap.size + 3, 0, none⟩))]) ∧
      SrcAt b tx cv fa wt (rd + 1) ov w' ∧ w'.heap[w.heap.size + 3]? = some (.cells #[.int .i64 (rd + 1)] 247 (0, 0)) ∧ Kept b w w' := by
  have hlt := h.lt
  have hc := read_fail b tx cv fa wt rd ov (asked w) h.asked h0 h1 hf
  rw [asked_size] at hc
  refine (read_walk b ⟨#[108, 111, 115, 116]⟩ wt (.iface 61 (.pointer (some ⟨w.heap.size + 3, 0, none⟩))) (fun w' => SrcAt b tx cv fa wt (rd + 1) ov w' ∧ w'.heap[w.heap.size + 3]? = some (.cells #[.int .i64 (rd + 1)] 247 (0, 0))) w hlt (Or.inr ⟨_, _, rfl⟩) (hc.mono ?_)).mono ?_
  · rintro e w' ⟨rfl, r1, r2, r3⟩
    exact ⟨rfl, ⟨r1, r2⟩, r3⟩
  · rintro e w' ⟨rfl, w1, ⟨r1, r2⟩, hk, r3⟩
    exact ⟨rfl, (hk b (Or.inl hlt)).trans r1, (hk _ (Or.inr (Nat.le_refl _))).trans r2, r3⟩
theorem rd_ok (b : Nat) (tx : ByteArray) (cv : Value) (cs : List Int) (fa : Int) (wt : Bool) (rd : Int) (w : World) (h : SrcAt b tx cv fa wt rd false w) (hcs : CutsOK b cv cs w) (h0 : 0 ≤ rd) (h1 : rd < 4611686018427387904) (hts : tx.size ≤ 4611686018427387904) (hf : rd + 1 ≠ fa) :
    Calls Tryz.prog 49 #[.iface 34 (.pointer (some ⟨b, 0, none⟩))] w fun e w' => e = .returned (.tuple #[.string (rdPiece tx cs), .bool (rdDone wt tx cs), .nilIface]) ∧
      (∃ cv' ov', SrcAt b (rdRest tx cs) cv' fa wt (rd + 1) ov' w' ∧ CutsOK b cv' cs.tail w' ∧ (rdDone wt tx cs = false → ov' = false) ∧ (∀ g o n cap, cv' = .slice (some ⟨g, o, none⟩) n cap → ∃ o' n' cap', cv = .slice (some ⟨g, o', none⟩) n' cap')) ∧ Kept b w w' := by
  have hlt := h.lt
  obtain ⟨g, o, cap, rfl, hl, hcap, hgb, hg, hcell⟩ := hcs
  refine (read_walk b (rdPiece tx cs) (rdDone wt tx cs) .nilIface (fun w' => ∃ o' cap' ov', SrcAt b (rdRest tx cs) (.slice (some ⟨g, o', none⟩) cs.tail.length cap') fa wt (rd + 1) ov' w' ∧ cs.tail.length ≤ cap' ∧ cap' ≤ cap ∧ (cs.tail.length ≠ 0 → o' = o + 1) ∧ (rdDone wt tx cs = false → ov' = false)) w hlt (Or.inl rfl) ?_).mono ?_
  · cases cs with
    | nil =>
      refine (read_rest b cap (some ⟨g, o, none⟩) tx fa wt rd (asked w) h.asked h0 h1 hf).mono ?_
      rintro e w' ⟨rfl, r1, r2⟩
      exact ⟨rfl, ⟨o, cap, _, r1, Nat.zero_le _, Nat.le_refl _, fun hh => absurd rfl hh, fun hh => hh⟩, r2⟩
    | cons c r =>
      have hc0 : (asked w).cell? ⟨g, o, none⟩ = some (.int .i64 c) := by
        rw [← hcell 0 c rfl]
        exact World.cell?_of_block (asked_old w g hg)
      by_cases hlow : c < 0 ∨ (tx.size : Int) < c
      · have hn : cutN tx c = 0 := by simp [cutN, hlow]
        refine (read_cut0 b g o r.length cap c tx fa wt rd false (asked w) h.asked h0 h1 hf hl hcap hts hgb hc0 hlow).mono ?_
        rintro e w' ⟨rfl, ⟨o', cap', r1, r2, r3, r4⟩, r5⟩
        refine ⟨?_, ⟨o', cap', false, ?_, r2, r3, r4, fun _ => rfl⟩, r5⟩
        · simp only [rdPiece, rdDone, hn, ext_none]
          have : decide (0 = tx.size) = decide (tx.size = 0) := by congr 1; exact propext ⟨Eq.symm, Eq.symm⟩
          rw [this]
        · simp only [rdRest, hn, ext_whole]
          exact r1
      · have hn : c = (cutN tx c : Int) := by
          unfold cutN
          rw [if_neg hlow]
          omega
        have hle := cutN_le tx c
        rw [hn] at hc0
        refine (read_cut1 b g o r.length cap (cutN tx c) tx fa wt rd false (asked w) h.asked h0 h1 hf hl hcap hgb hc0 hle).mono ?_
        rintro e w' ⟨rfl, ⟨o', cap', r1, r2, r3, r4⟩, r5⟩
        exact ⟨rfl, ⟨o', cap', false, r1, r2, r3, r4, fun _ => rfl⟩, r5⟩
  · rintro e w' ⟨rfl, w1, ⟨o', cap', ov', r1, r2, r3, r4, r5⟩, hk, r6⟩
    refine ⟨rfl, ⟨_, ov', (hk b (Or.inl hlt)).trans r1, ⟨g, o', cap', rfl, r2, by omega, hgb, by have := r6.size; omega, fun i c hi => ?_⟩, r5, fun g' o2 n2 cap2 he => ?_⟩, r6⟩
    · have hi' : cs[i + 1]? = some c := by rw [← hi, List.getElem?_tail]
      have hlen : cs.tail.length ≠ 0 := by
        intro h0
        rw [List.length_eq_zero_iff.1 h0] at hi
        simp at hi
      have := hcell (i + 1) c hi'
      rw [r4 hlen, ← this, Nat.add_right_comm, Nat.add_assoc]
      exact World.cell?_of_block (r6.block g hg hgb)
    · simp at he
      exact ⟨o, cs.length, cap, by rw [he.1.1]⟩
end Go.Proofs.YtljcljipppjnoabGreatDoor
