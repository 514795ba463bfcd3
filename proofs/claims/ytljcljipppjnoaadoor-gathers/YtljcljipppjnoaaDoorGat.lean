import Derived.Test.YtljcljipppjnoaaDoorSrc
namespace Go.Proofs.YtljcljipppjnoaaDoor
open Go.RowKit

/-! One read, and a gathering, in plain words. -/
def rdPiece (tx : ByteArray) : List Int → ByteArray
  | [] => tx
  | c :: _ => tx.extract 0 (cutN tx c)
def rdRest (tx : ByteArray) : List Int → ByteArray
  | [] => ByteArray.empty
  | c :: _ => tx.extract (cutN tx c) tx.size
def rdDone (wt : Bool) (tx : ByteArray) : List Int → Bool
  | [] => decide (tx.size = 0) || wt
  | c :: r => wt && decide (cutN tx c = tx.size) && decide (r.length = 0)

/-- How a gathering ends. -/
inductive Out where
  | fail (n : Nat)
  | long
  | idle
  | fine (s : ByteArray)

/-- A gathering, by at most so many reads: how it ends, and how many reads there were. -/
def gat (fa : Int) (wt : Bool) : Nat → ByteArray → List Int → Nat → ByteArray → Nat → Option (Out × Nat)
  | 0, _, _, _, _, _ => none
  | f + 1, tx, cs, rd, acc, idle =>
    if (rd : Int) + 1 = fa then some (.fail acc.size, rd + 1)
    else if 300 < acc.size + (rdPiece tx cs).size then some (.long, rd + 1)
    else if rdDone wt tx cs = true then some (.fine (acc ++ rdPiece tx cs), rd + 1)
    else if (rdPiece tx cs).size = 0 then (if 2 < idle + 1 then some (.idle, rd + 1) else gat fa wt f (rdRest tx cs) cs.tail (rd + 1) (acc ++ rdPiece tx cs) (idle + 1))
    else gat fa wt f (rdRest tx cs) cs.tail (rd + 1) (acc ++ rdPiece tx cs) 0

theorem ext_whole (s : ByteArray) : s.extract 0 s.size = s := by
  apply ByteArray.ext
  rw [ByteArray.data_extract]
  exact Array.extract_size
theorem ext_none (s : ByteArray) : s.extract 0 0 = ByteArray.empty := by
  apply ByteArray.ext
  rw [ByteArray.data_extract]
  simp

theorem cutN_le (tx : ByteArray) (c : Int) : cutN tx c ≤ tx.size := by
  unfold cutN
  split
  · omega
  · omega

theorem rdPiece_le (tx : ByteArray) (cs : List Int) : (rdPiece tx cs).size ≤ tx.size := by
  cases cs with
  | nil => exact Nat.le_refl _
  | cons c r => simp [rdPiece]; omega
theorem rdRest_le (tx : ByteArray) (cs : List Int) : (rdRest tx cs).size ≤ tx.size := by
  cases cs with
  | nil => simp [rdRest]
  | cons c r => simp [rdRest]

/-- It ends: behind the last cut there are two reads at most. -/
theorem gat_some (fa : Int) (wt : Bool) : ∀ (f : Nat) (tx : ByteArray) (cs : List Int) (rd : Nat) (acc : ByteArray) (idle : Nat), cs.length + (if tx.size = 0 then 1 else 2) ≤ f → ∃ x, gat fa wt f tx cs rd acc idle = some x := by
  intro f
  induction f with
  | zero =>
    intro tx cs rd acc idle h
    split at h <;> omega
  | succ f ih =>
    intro tx cs rd acc idle h
    unfold gat
    split
    · exact ⟨_, rfl⟩
    split
    · exact ⟨_, rfl⟩
    split
    · exact ⟨_, rfl⟩
    rename_i hd
    have hn : cs.tail.length + (if (rdRest tx cs).size = 0 then 1 else 2) ≤ f := by
      cases cs with
      | nil =>
        have h0 : ¬ tx.size = 0 := by
          intro h0
          simp [rdDone, h0] at hd
        rw [if_neg h0] at h
        simp [rdRest] at h ⊢
        omega
      | cons c r =>
        have hl := rdRest_le tx (c :: r)
        by_cases ht : tx.size = 0
        · rw [if_pos (by omega)]
          rw [if_pos ht] at h
          simp at h ⊢
          omega
        · rw [if_neg ht] at h
          simp at h ⊢
          split <;> omega
    split
    · split
      · exact ⟨_, rfl⟩
      · exact ih _ _ _ _ _ hn
    · exact ih _ _ _ _ _ hn

/-- The cuts of a source in memory. -/
def CutsOK (b : Nat) (cv : Value) (cs : List Int) (w : World) : Prop :=
  ∃ (g o cap : Nat) , cv = .slice (some ⟨g, o, none⟩) cs.length cap ∧ cs.length ≤ cap ∧ cap ≤ 9223372036854775807 ∧ g ≠ b ∧ g < w.heap.size ∧ ∀ (i : Nat) (c : Int), cs[i]? = some c → w.cell? ⟨g, o + i, none⟩ = some (.int .i64 c)

theorem CutsOK.kept {b k : Nat} {cv : Value} {cs : List Int} {w w' : World} (h : CutsOK b cv cs w) (hk : ∀ g, g < w.heap.size → g ≠ b → g ≠ k → w'.heap[g]? = w.heap[g]?) (hs : w.heap.size ≤ w'.heap.size)
    (hg : ∀ g o cap, cv = .slice (some ⟨g, o, none⟩) cs.length cap → g ≠ k) : CutsOK b cv cs w' := by
  obtain ⟨g, o, cap, hcv, h1, h2, h3, h4, h5⟩ := h
  refine ⟨g, o, cap, hcv, h1, h2, h3, by omega, fun i c hi => ?_⟩
  have := h5 i c hi
  rw [← this]
  exact World.cell?_of_block (hk g h4 h3 (hg g o cap hcv))

theorem gat_fail {fa : Int} {wt : Bool} {f : Nat} {tx : ByteArray} {cs : List Int} {rd : Nat} {acc : ByteArray} {idle : Nat} {o : Out} {n : Nat} (h : gat fa wt f tx cs rd acc idle = some (o, n)) (hf : (rd : Int) + 1 = fa) : o = .fail acc.size ∧ n = rd + 1 := by
  cases f with
  | zero => cases h
  | succ f =>
    rw [gat, if_pos hf] at h
    simp only [Option.some.injEq, Prod.mk.injEq] at h
    exact ⟨h.1.symm, h.2.symm⟩
theorem gat_long {fa : Int} {wt : Bool} {f : Nat} {tx : ByteArray} {cs : List Int} {rd : Nat} {acc : ByteArray} {idle : Nat} {o : Out} {n : Nat} (h : gat fa wt f tx cs rd acc idle = some (o, n)) (hf : (rd : Int) + 1 ≠ fa)
    (hl : 300 < acc.size + (rdPiece tx cs).size) : o = .long ∧ n = rd + 1 := by
  cases f with
  | zero => cases h
  | succ f =>
    rw [gat, if_neg hf, if_pos hl] at h
    simp only [Option.some.injEq, Prod.mk.injEq] at h
    exact ⟨h.1.symm, h.2.symm⟩
theorem gat_fine {fa : Int} {wt : Bool} {f : Nat} {tx : ByteArray} {cs : List Int} {rd : Nat} {acc : ByteArray} {idle : Nat} {o : Out} {n : Nat} (h : gat fa wt f tx cs rd acc idle = some (o, n)) (hf : (rd : Int) + 1 ≠ fa)
    (hl : ¬ 300 < acc.size + (rdPiece tx cs).size) (hd : rdDone wt tx cs = true) : o = .fine (acc ++ rdPiece tx cs) ∧ n = rd + 1 := by
  cases f with
  | zero => cases h
  | succ f =>
    rw [gat, if_neg hf, if_neg hl, if_pos hd] at h
    simp only [Option.some.injEq, Prod.mk.injEq] at h
    exact ⟨h.1.symm, h.2.symm⟩
theorem gat_idle {fa : Int} {wt : Bool} {f : Nat} {tx : ByteArray} {cs : List Int} {rd : Nat} {acc : ByteArray} {idle : Nat} {o : Out} {n : Nat} (h : gat fa wt f tx cs rd acc idle = some (o, n)) (hf : (rd : Int) + 1 ≠ fa)
    (hl : ¬ 300 < acc.size + (rdPiece tx cs).size) (hd : ¬ rdDone wt tx cs = true) (hp : (rdPiece tx cs).size = 0) (hi : 2 < idle + 1) : o = .idle ∧ n = rd + 1 := by
  cases f with
  | zero => cases h
  | succ f =>
    rw [gat, if_neg hf, if_neg hl, if_neg hd, if_pos hp, if_pos hi] at h
    simp only [Option.some.injEq, Prod.mk.injEq] at h
    exact ⟨h.1.symm, h.2.symm⟩
theorem gat_on {fa : Int} {wt : Bool} {f : Nat} {tx : ByteArray} {cs : List Int} {rd : Nat} {acc : ByteArray} {idle : Nat} {o : Out} {n : Nat} (h : gat fa wt f tx cs rd acc idle = some (o, n)) (hf : (rd : Int) + 1 ≠ fa)
    (hl : ¬ 300 < acc.size + (rdPiece tx cs).size) (hd : ¬ rdDone wt tx cs = true) (hp : (rdPiece tx cs).size = 0) (hi : ¬ 2 < idle + 1) :
    ∃ f', f = f' + 1 ∧ gat fa wt f' (rdRest tx cs) cs.tail (rd + 1) (acc ++ rdPiece tx cs) (idle + 1) = some (o, n) := by
  cases f with
  | zero => cases h
  | succ f =>
    rw [gat, if_neg hf, if_neg hl, if_neg hd, if_pos hp, if_neg hi] at h
    exact ⟨f, rfl, h⟩
theorem gat_more {fa : Int} {wt : Bool} {f : Nat} {tx : ByteArray} {cs : List Int} {rd : Nat} {acc : ByteArray} {idle : Nat} {o : Out} {n : Nat} (h : gat fa wt f tx cs rd acc idle = some (o, n)) (hf : (rd : Int) + 1 ≠ fa)
    (hl : ¬ 300 < acc.size + (rdPiece tx cs).size) (hd : ¬ rdDone wt tx cs = true) (hp : ¬ (rdPiece tx cs).size = 0) :
    ∃ f', f = f' + 1 ∧ gat fa wt f' (rdRest tx cs) cs.tail (rd + 1) (acc ++ rdPiece tx cs) 0 = some (o, n) := by
  cases f with
  | zero => cases h
  | succ f =>
    rw [gat, if_neg hf, if_neg hl, if_neg hd, if_neg hp] at h
    exact ⟨f, rfl, h⟩

end Go.Proofs.YtljcljipppjnoaaDoor
