import Derived.Test.YtljcljipppjnoaaGreatDoorDevLines
import Derived.Deep.RegionHeld3
import Derived.Laws.EntriesVeiled
namespace Go.Proofs.YtljcljipppjnoaaGreatDoor
open Go.RowKit Go.Shelf

set_option maxRecDepth 100000 in
set_option maxHeartbeats 1000000 in
theorem dlines_any (s : ByteArray) (m : Int) (w : World) (hs : s.size ≤ 1073741824) (hm : w.cell? ⟨6, 0, none⟩ = some (.int .i64 m)) :
    Calls Tryz.prog 84 #[.string s] w fun e w' => ∃ v, e = .returned v ∧ LinesV v (linesL [] s.data.toList) w' ∧ (∀ g, v.ownBlock = some g → w.heap.size ≤ g) ∧ Below w.heap.size w w' := by
  have c := sh_split s m w (by omega) hm
  have hsp := Lib.splitB_data ⟨#[10]⟩ 0 (Lib.countB s ⟨#[10]⟩) s
  have hal := Lib.splitB_all ⟨#[10]⟩ (by decide) 0 _ s rfl
  have hsa : Lib.splitK (⟨#[10]⟩ : ByteArray).data.toList 0 (Lib.countB s ⟨#[10]⟩) s.data.toList = linesAll [] s.data.toList := split_all s.data.toList
  rw [hsa] at hsp
  have hla := lines_all [] s.data.toList
  have htt := tot_all [] s.data.toList
  have htl := tot_len (linesAll [] s.data.toList)
  have hsl : s.data.toList.length = s.size := by rw [Array.length_toList]; rfl
  simp only [List.length_nil, Nat.zero_add] at htt
  generalize Lib.splitB ⟨#[10]⟩ 0 (Lib.countB s ⟨#[10]⟩) s = ps at c hsp hal
  generalize linesAll [] s.data.toList = P at hsp hla htt htl
  have hpl : P.length = Lib.countB s ⟨#[10]⟩ + 1 := by rw [← hsp, List.length_map]; exact hal
  generalize Lib.countB s ⟨#[10]⟩ = n at c hal hpl
  have hps : ps.map Value.string = strCs P := by
    rw [← hsp, strCs, List.map_map]
    apply List.map_congr_left
    intro x _
    rfl
  rw [hps] at c
  have hn : n ≤ 1073741824 := by omega
  have hcells : ∀ (j : Nat) (l : List UInt8), P[j]? = some l → (w.alloc (.cells (strCs P).toArray 9)).cell? ⟨w.heap.size, 0 + j, none⟩ = some (.string ⟨l.toArray⟩) := by
    intro j l hj
    have := cell_of_row (w.alloc (.cells (strCs P).toArray 9)) w.heap.size (0 + j) _ _ _ (heap_alloc_new w _)
    rw [this]
    simp [strCs, hj]
  have hbe : Below w.heap.size w (w.alloc (.cells (strCs P).toArray 9)) := (Below.refl _ w).alloc (Nat.le_refl _) _
  obtain ⟨l, hl⟩ : ∃ l, P[n]? = some l := ⟨P[n], List.getElem?_eq_getElem (by omega)⟩
  have hlast : P.getLast? = some l := by rw [List.getLast?_eq_getElem?, hpl]; exact hl
  have hcl := hcells n l hl
  rw [Nat.zero_add] at hcl
  rw [hlast] at hla
  have HS : ∀ k, k ≤ n + 1 → Strs w.heap.size 0 (n + 1) (P.take k) (w.alloc (.cells (strCs P).toArray 9)) := by
    intro k hk
    refine ⟨by rw [List.length_take]; omega, by omega, by simp, fun j x hj => hcells j x ?_⟩
    rw [List.getElem?_take] at hj
    split at hj
    · exact hj
    · cases hj
  have hemp : (⟨l.toArray⟩ : ByteArray).toList = l := by rw [list_of]
  clear hcells hsp hal hsa hps hlast hl
  by_cases hle : l = []
  · subst hle
    rw [if_pos rfl, List.dropLast_eq_take] at hla
    have HF : Hid (LinesV (.slice (some ⟨w.heap.size, 0, none⟩) n (n + 1)) (linesL [] s.data.toList) (w.alloc (.cells (strCs P).toArray 9))) := by
      refine Or.inr ⟨w.heap.size, 0, n + 1, ?_, ?_⟩
      · rw [hla, List.length_take, hpl, Nat.add_sub_cancel]; congr 1; omega
      · rw [hla, hpl, Nat.add_sub_cancel]; exact HS n (by omega)
    clear HS hla htt htl hpl
    go_enter Tryz.func84, Tryz.ntmps84
    go_wp2_with (go_at_call 109; refine c.mono ?_; rintro e w1 ⟨rfl, hw⟩; rw [hw]; clear hw)
    go_ret
    exact ⟨_, rfl, HF.out, fun g hg => by cases hg; exact Nat.le_refl _, hbe⟩
  · rw [if_neg (by simpa using hle)] at hla
    have HF : Hid (LinesV (.slice (some ⟨w.heap.size, 0, none⟩) (n + 1) (n + 1)) (linesL [] s.data.toList) (w.alloc (.cells (strCs P).toArray 9))) := by
      refine Or.inr ⟨w.heap.size, 0, n + 1, ?_, ?_⟩
      · rw [hla, hpl]
      · rw [hla]
        have := HS (n + 1) (Nat.le_refl _)
        rw [List.take_of_length_le (by omega)] at this
        exact this
    have hle2 : l.isEmpty = false := by
      cases l with
      | nil => exact absurd rfl hle
      | cons a b => rfl
    clear HS hla htt htl hpl hle
    go_enter Tryz.func84, Tryz.ntmps84
    go_wp2_with (go_at_call 109; refine c.mono ?_; rintro e w1 ⟨rfl, hw⟩; rw [hw]; clear hw)
    go_ret
    exact ⟨_, rfl, HF.out, fun g hg => by cases hg; exact Nat.le_refl _, hbe⟩

set_option maxRecDepth 100000 in
set_option maxHeartbeats 2000000 in
/-- All blocks of a text are told. -/
theorem dEach_any (q : Tel) (hq : q.Ok) (t : List UInt8) (m : Int) (W : World) (hT : q.Told [] W) (ht : t.length ≤ 16777216) (hm : W.cell? ⟨6, 0, none⟩ = some (.int .i64 m)) :
    Calls Tryz.prog 60 #[.string ⟨t.toArray⟩, .func (.func q.kd) #[] #[.pointer (some ⟨q.bd, 0, none⟩)], .func (.func q.kl) #[] #[.pointer (some ⟨q.bl, 0, none⟩)]] W fun e w' => e = .returned (.tuple #[]) ∧ (∃ S n, SpOk 0 n S (blocksAt 3 (linesL [] t)) ∧ q.Told S w') ∧ Kt q none W.heap.size W w' := by
  have hml : 6 < W.heap.size := by
    rcases Nat.lt_or_ge 6 W.heap.size with h | h
    · exact h
    · simp [World.cell?, Array.getElem?_eq_none h] at hm
  obtain ⟨W1, hW1⟩ : ∃ W1, W.alloc (.cells #[.func (.func q.kd) #[] #[.pointer (some ⟨q.bd, 0, none⟩)], .func (.func q.kl) #[] #[.pointer (some ⟨q.bl, 0, none⟩)]] 159) = W1 := ⟨_, rfl⟩
  have x1 : W1.heap[W.heap.size]? = some (.cells #[.func (.func q.kd) #[] #[.pointer (some ⟨q.bd, 0, none⟩)], .func (.func q.kl) #[] #[.pointer (some ⟨q.bl, 0, none⟩)]] 159 (0, 0)) := by rw [← hW1]; exact heap_alloc_new W _
  have hb1 : Below W.heap.size W W1 := by rw [← hW1]; exact (Below.refl _ W).alloc (Nat.le_refl _) _
  have z1 : W1.heap.size = W.heap.size + 1 := by rw [← hW1]; simp
  have hB0 : Below W1.heap.size W1 W1.drew := (Below.refl _ W1).drew
  have c1 := dlines_any ⟨t.toArray⟩ m W1.drew (by rw [size_of]; omega) ((hb1.cell (p := ⟨6, 0, none⟩) hml).trans hm)
  have e1 : (⟨t.toArray⟩ : ByteArray).data.toList = t := rfl
  rw [e1] at c1
  have c2 : Calls Tryz.prog 84 #[.string ⟨t.toArray⟩] W1.drew fun e w' => ∃ p ln cp, e = .returned (.slice p ln cp) ∧ LinesV (.slice p ln cp) (linesL [] t) w' ∧ (∀ g, (Value.slice p ln cp).ownBlock = some g → W1.drew.heap.size ≤ g) ∧ Below W1.drew.heap.size W1.drew w' := by
    refine c1.mono ?_
    rintro e w' ⟨v, rfl, hL, hg, hb⟩
    rcases hL with ⟨h1, rfl⟩ | ⟨g, o, cap, rfl, hS⟩
    · exact ⟨_, _, _, rfl, Or.inl ⟨h1, rfl⟩, hg, hb⟩
    · exact ⟨_, _, _, rfl, Or.inr ⟨g, o, cap, rfl, hS⟩, hg, hb⟩
  have ht2 := tot_lines t
  have hll := tot_len (linesL [] t)
  have HC : Hid (∀ w1 v, LinesV v (linesL [] t) w1 → (∀ g, v.ownBlock = some g → W1.heap.size ≤ g) → Below W1.heap.size W1 w1 → Calls Tryz.prog 83 #[.agg #[.func (.func q.kd) #[] #[.pointer (some ⟨q.bd, 0, none⟩)], .func (.func q.kl) #[] #[.pointer (some ⟨q.bl, 0, none⟩)]], .agg #[v, .int .i64 0, .int .i64 0]] w1 fun e w' => e = .returned (.tuple #[]) ∧ (∃ S n, SpOk 0 n S (blocksAt 3 (linesL [] t)) ∧ q.Told S w') ∧ Kt q none W.heap.size W w' ∧ w'.heap[W.heap.size]? = w1.heap[W.heap.size]?) := by
    intro w1 v hL hg hb
    have hbW := hb1.trans (hb.mono (by omega))
    have hTw := hq.below hT hbW
    refine (each_doc q hq [] v (linesL [] t) 0 w1 hTw hL (fun g hv => hq.new hT hbW (by have := hg g hv; omega)) (by omega) (by omega) (by simp; omega)).mono ?_
    rintro e w' ⟨rfl, ⟨S, s1, s2⟩, K⟩
    exact ⟨rfl, ⟨S, _, s1, s2⟩, (hq.kt hT hbW).trans (K.mono hbW.size), K.block _ (by have := hb.size; omega) (by simp) (hq.new hT hbW (Nat.le_refl _))⟩
  have HK : Hid (∀ w' : World, w'.heap[W.heap.size]? = W1.heap[W.heap.size]? → w'.cell? ⟨W.heap.size, 0, none⟩ = some (.func (.func q.kd) #[] #[.pointer (some ⟨q.bd, 0, none⟩)]) ∧ w'.cell? ⟨W.heap.size, 1, none⟩ = some (.func (.func q.kl) #[] #[.pointer (some ⟨q.bl, 0, none⟩)])) := fun w' h => cells2 (h.trans x1)
  obtain ⟨k1, k2⟩ := cells2 x1
  generalize blocksAt 3 (linesL [] t) = bs at HC ⊢
  have z3 : W.heap.size < W1.heap.size := by omega
  clear hT e1 ht2 hll hq x1 hb1 z1 c1
  go_enter Tryz.func60, Tryz.ntmps60
  go_wp2
  go_region_held3 (fun w' => w'.cell? ⟨W.heap.size, 0, none⟩ = some (.func (.func q.kd) #[] #[.pointer (some ⟨q.bd, 0, none⟩)]) ∧ w'.cell? ⟨W.heap.size, 1, none⟩ = some (.func (.func q.kl) #[] #[.pointer (some ⟨q.bl, 0, none⟩)])) (first | exact HK.out _ (E2.trans (B1.block _ z3)) | exact HK.out _ (B1.block _ z3) | exact HK.out _ (hB0.block _ z3)) (first | (go_at_call 84; refine c2.mono ?_; rintro e w1 ⟨p, ln, cp, rfl, hL, hg, b1⟩; have B1 : Below W1.heap.size W1 w1 := hB0.trans b1) | (go_at_call 83; refine (HC.out w1 _ hL hg B1).mono ?_; rintro e w2 ⟨rfl, T2, K2, E2⟩))
  go_wp2
  go_end0
  exact ⟨rfl, T2, K2⟩

end Go.Proofs.YtljcljipppjnoaaGreatDoor
