import Derived.Test.YtkabhbbhliffcaaGreatDoorDevLines
import Derived.Test.YtkabhbbhliffcaaGreatDoorDevListed
namespace Go.Proofs.YtkabhbbhliffcaaGreatDoor
open Go.RowKit Go.Shelf

set_option maxRecDepth 100000 in
set_option maxHeartbeats 1000000 in
theorem dlines_any (s : ByteArray) (m : Int) (w : World) (hs : s.size ≤ 1073741824) (hm : w.cell? ⟨0, 0, none⟩ = some (.int .i64 m)) :
    Calls Tryz.prog 30 #[.string s] w fun e w' => ∃ v, e = .returned v ∧ LinesV v (linesL [] s.data.toList) w' ∧ (∀ g, v.ownBlock = some g → w.heap.size ≤ g) ∧ Below w.heap.size w w' := by
  have c := sh_split s m w (by omega) hm
  have hsp := Lib.splitB_data ⟨#[10]⟩ 0 (Lib.countB s ⟨#[10]⟩) s
  have hal := Lib.splitB_all ⟨#[10]⟩ (by decide) 0 _ s rfl
  have hsa : Lib.splitK (⟨#[10]⟩ : ByteArray).data.toList 0 (Lib.countB s ⟨#[10]⟩) s.data.toList = linesAll [] s.data.toList := split_all s.data.toList
  rw [hsa] at hsp
  have hla := lines_all [] s.data.toList
  have htt := tot_all [] s.data.toList
  have htl := tot_len (linesAll [] s.data.toList)
  have hsl : s.data.toList.length = s.size := by rw [Array.length_toList]; rfl
  simp only [List.length_nil, Nat.zero_add] at htt
  generalize Lib.splitB ⟨#[10]⟩ 0 (Lib.countB s ⟨#[10]⟩) s = ps at c hsp hal
  generalize linesAll [] s.data.toList = P at hsp hla htt htl
  have hpl : P.length = Lib.countB s ⟨#[10]⟩ + 1 := by rw [← hsp, List.length_map]; exact hal
  generalize Lib.countB s ⟨#[10]⟩ = n at c hal hpl
  have hps : ps.map Value.string = strCs P := by
    rw [← hsp, strCs, List.map_map]
    apply List.map_congr_left
    intro x _
    rfl
  rw [hps] at c
  have hn : n ≤ 1073741824 := by omega
  have hcells : ∀ (j : Nat) (l : List UInt8), P[j]? = some l → (w.alloc (.cells (strCs P).toArray 9)).cell? ⟨w.heap.size, 0 + j, none⟩ = some (.string ⟨l.toArray⟩) := by
    intro j l hj
    have := cell_of_row (w.alloc (.cells (strCs P).toArray 9)) w.heap.size (0 + j) _ _ _ (heap_alloc_new w _)
    rw [this]
    simp [strCs, hj]
  have hbe : Below w.heap.size w (w.alloc (.cells (strCs P).toArray 9)) := (Below.refl _ w).alloc (Nat.le_refl _) _
  obtain ⟨l, hl⟩ : ∃ l, P[n]? = some l := ⟨P[n], List.getElem?_eq_getElem (by omega)⟩
  have hlast : P.getLast? = some l := by rw [List.getLast?_eq_getElem?, hpl]; exact hl
  have hcl := hcells n l hl
  rw [Nat.zero_add] at hcl
  rw [hlast] at hla
  have HS : ∀ k, k ≤ n + 1 → Strs w.heap.size 0 (n + 1) (P.take k) (w.alloc (.cells (strCs P).toArray 9)) := by
    intro k hk
    refine ⟨by rw [List.length_take]; omega, by omega, by simp, fun j x hj => hcells j x ?_⟩
    rw [List.getElem?_take] at hj
    split at hj
    · exact hj
    · cases hj
  have hemp : (⟨l.toArray⟩ : ByteArray).toList = l := by rw [list_of]
  clear hcells hsp hal hsa hps hlast hl
  by_cases hle : l = []
  · subst hle
    rw [if_pos rfl, List.dropLast_eq_take] at hla
    have HF : Hid (LinesV (.slice (some ⟨w.heap.size, 0, none⟩) n (n + 1)) (linesL [] s.data.toList) (w.alloc (.cells (strCs P).toArray 9))) := by
      refine Or.inr ⟨w.heap.size, 0, n + 1, ?_, ?_⟩
      · rw [hla, List.length_take, hpl, Nat.add_sub_cancel]; congr 1; omega
      · rw [hla, hpl, Nat.add_sub_cancel]; exact HS n (by omega)
    clear HS hla htt htl hpl
    go_enter Tryz.func30, Tryz.ntmps30
    go_wp2_with (go_at_call 35; refine c.mono ?_; rintro e w1 ⟨rfl, hw⟩; rw [hw]; clear hw)
    go_ret
    exact ⟨_, rfl, HF.out, fun g hg => by cases hg; exact Nat.le_refl _, hbe⟩
  · rw [if_neg (by simpa using hle)] at hla
    have HF : Hid (LinesV (.slice (some ⟨w.heap.size, 0, none⟩) (n + 1) (n + 1)) (linesL [] s.data.toList) (w.alloc (.cells (strCs P).toArray 9))) := by
      refine Or.inr ⟨w.heap.size, 0, n + 1, ?_, ?_⟩
      · rw [hla, hpl]
      · rw [hla]
        have := HS (n + 1) (Nat.le_refl _)
        rw [List.take_of_length_le (by omega)] at this
        exact this
    have hle2 : l.isEmpty = false := by
      cases l with
      | nil => exact absurd rfl hle
      | cons a b => rfl
    clear HS hla htt htl hpl hle
    go_enter Tryz.func30, Tryz.ntmps30
    go_wp2_with (go_at_call 35; refine c.mono ?_; rintro e w1 ⟨rfl, hw⟩; rw [hw]; clear hw)
    go_ret
    exact ⟨_, rfl, HF.out, fun g hg => by cases hg; exact Nat.le_refl _, hbe⟩

/-- The document's events of a text. -/
def docBl (s : ByteArray) : List Ev := blocksAt 3 (linesL [] (reg s))

theorem dEach_any (b0 : Nat) (t : List UInt8) (m : Int) (W : World) (hT : Told b0 [] W) (ht : t.length ≤ 16777216) (hm : W.cell? ⟨0, 0, none⟩ = some (.int .i64 m)) :
    Calls Tryz.prog 22 #[.string ⟨t.toArray⟩, .func (.func 28) #[] #[.pointer (some ⟨b0, 0, none⟩)]] W fun e w' => e = .returned (.tuple #[]) ∧ Told b0 (blocksAt 3 (linesL [] t)) w' ∧ Kp b0 none W.heap.size W w' := by
  have hb0 := hT.lt
  have c1 := dlines_any ⟨t.toArray⟩ m W (by rw [size_of]; omega) hm
  have e1 : (⟨t.toArray⟩ : ByteArray).data.toList = t := rfl
  rw [e1] at c1
  have ht2 := tot_lines t
  have hll := tot_len (linesL [] t)
  have hc : ∀ w1 v, LinesV v (linesL [] t) w1 → (∀ g, v.ownBlock = some g → W.heap.size ≤ g) → Below W.heap.size W w1 → Calls Tryz.prog 29 #[v, .int .i64 0, .func (.func 28) #[] #[.pointer (some ⟨b0, 0, none⟩)]] w1 fun e w' => e = .returned (.tuple #[]) ∧ Told b0 (blocksAt 3 (linesL [] t)) w' ∧ Kp b0 none W.heap.size W w' := by
    intro w1 v hL hg hb
    refine (each_doc b0 [] v (linesL [] t) w1 (hT.below hb) hL (fun g hv => own_new hT (hb.block b0 hb0) (hg g hv)) (by omega) (by simp; omega)).mono ?_
    rintro e w' ⟨rfl, T, K⟩
    exact ⟨rfl, T, (Kp.below hb hb0).trans (K.mono hb.size)⟩
  generalize blocksAt 3 (linesL [] t) = bs at hc
  clear hT e1 ht2 hll
  go_enter Tryz.func22, Tryz.ntmps22
  go_wp2_with (first | (go_at_call 30; refine c1.mono ?_; rintro e w1 ⟨v, rfl, hL, hg, b1⟩) | (go_at_call 29; refine (hc w1 v hL hg b1).mono ?_; rintro e w2 ⟨rfl, T2, K2⟩))
  go_end0
  exact ⟨rfl, T2, K2⟩

set_option maxRecDepth 100000 in
set_option maxHeartbeats 1000000 in
/-- The program's answer. -/
theorem dBlocks_any (s : ByteArray) (m : Int) (W : World) (hs : s.size ≤ 1048576) (hm : W.cell? ⟨0, 0, none⟩ = some (.int .i64 m)) :
    Calls Tryz.prog 10 #[.string s] W fun e w' => ∃ v, e = .returned v ∧ w'.ownsRow W.heap.size 46 4 v (docBl s).length (evCs (docBl s)) ∧ Below W.heap.size W w' := by
  have hc : Calls Tryz.prog 21 #[.string s, .func (.func 22) #[] #[]] W fun e w' => ∃ v, e = .returned v ∧ w'.ownsRow W.heap.size 46 4 v (docBl s).length (evCs (docBl s)) ∧ Below W.heap.size W w' :=
    listed_any 22 (enters_of Tryz.func22 (by kernel_rfl) rfl) (fun t => blocksAt 3 (linesL [] t)) 0 m (fun b0 t W hT ht hm => dEach_any b0 t m W hT ht hm) s W hs hm
  generalize docBl s = bs at hc ⊢
  go_enter Tryz.func10, Tryz.ntmps10
  go_wp2_with (go_at_call 21; refine hc.mono ?_; rintro e w3 ⟨v, rfl, hown, hb⟩)
  go_ret
  exact ⟨v, rfl, hown, hb⟩

end Go.Proofs.YtkabhbbhliffcaaGreatDoor
