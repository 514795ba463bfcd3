import Derived.Test.YtljcljipppjnoaaGreatDoorJP04
import Derived.Test.YtljcljipppjnoaaGreatDoorJP08
namespace Go.Proofs.YtljcljipppjnoaaGreatDoor
open Go.RowKit

/-- The rest of some lines, as a value. -/
def RestV (g : Nat) (ls : List (List UInt8)) (W : World) (v : Value) : Prop := ∃ o cap, v = .slice (some ⟨g, o, none⟩) ls.length cap ∧ Strs g o cap ls W
theorem rest_at {g o cap : Nat} {ls : List (List UInt8)} {W : World} (h : Strs g o cap ls W) (n : Nat) (hn : n ≤ ls.length) : RestV g (ls.drop n) W (.slice (some ⟨g, o + n, none⟩) (ls.length - n) (cap - n)) :=
  ⟨o + n, cap - n, by rw [List.length_drop], h.drop n hn⟩
theorem rest_no {g o cap : Nat} {ls : List (List UInt8)} {W : World} (h : Strs g o cap ls W) (n : Nat) (hn : n ≤ ls.length) (hc : cap ≤ n) : RestV g (ls.drop n) W (.slice (some ⟨g, o, none⟩) (ls.length - n) 0) := by
  have := h.fits
  exact ⟨o, 0, by rw [List.length_drop], (h.drop n hn).none o _ (by rw [List.length_drop]; omega)⟩

set_option maxRecDepth 100000 in
set_option maxHeartbeats 1000000 in
theorem span_any (p : Option Addr) (ln cp a n : Nat) (d : Int) (W : World) (ha : a + n ≤ 4294967296) :
    Calls Tryz.prog 155 #[.agg #[.slice p ln cp, .int .i64 a, .int .i64 d], .int .i64 n] W fun e w' => e = .returned (.agg #[.int .i64 a, .int .i64 ((a : Int) + (n : Int))]) ∧ Below W.heap.size W w' := by
  go_enter Tryz.func155, Tryz.ntmps155
  go_wp2
  exact bodyPost_ret (v := .agg #[.int .i64 a, .int .i64 ((a : Int) + (n : Int))]) (by simp [results, Tryz.results155, go_sem]) rfl ⟨rfl, ((Below.refl _ W).alloc (Nat.le_refl _) _).alloc (by simp) _⟩

set_option maxRecDepth 100000 in
set_option maxHeartbeats 1000000 in
theorem within_any (p p2 : Option Addr) (ln cp ln2 cp2 a : Nat) (d : Int) (hd : 0 ≤ d ∧ d < 3) (W : World) :
    Calls Tryz.prog 158 #[.agg #[.slice p ln cp, .int .i64 a, .int .i64 d], .slice p2 ln2 cp2] W fun e w' => e = .returned (.agg #[.slice p2 ln2 cp2, .int .i64 a, .int .i64 (d + 1)]) ∧ Below W.heap.size W w' := by
  obtain ⟨hd1, hd2⟩ := hd
  go_enter Tryz.func158, Tryz.ntmps158
  go_wp2
  exact bodyPost_ret (v := .agg #[.slice p2 ln2 cp2, .int .i64 a, .int .i64 (d + 1)]) (by simp [results, Tryz.results158, go_sem]) rfl ⟨rfl, ((Below.refl _ W).alloc (Nat.le_refl _) _).alloc (by simp) _⟩

set_option maxRecDepth 100000 in
set_option maxHeartbeats 1000000 in
theorem behind_any (g o cap a n : Nat) (ls : List (List UInt8)) (d : Int) (W : World) (hS : Strs g o cap ls W) (hn : n ≤ ls.length) (ha : a + n ≤ 4294967296) :
    Calls Tryz.prog 107 #[.agg #[.slice (some ⟨g, o, none⟩) ls.length cap, .int .i64 a, .int .i64 d], .int .i64 n] W fun e w' => ∃ o1 cap1, e = .returned (.agg #[.slice (some ⟨g, o1, none⟩) (ls.drop n).length cap1, .int .i64 ((a : Int) + (n : Int)), .int .i64 d]) ∧ Strs g o1 cap1 (ls.drop n) W ∧ Below W.heap.size W w' := by
  have hfit := hS.fits
  have hmax := hS.max
  have H1 : Hid (RestV g (ls.drop n) W (.slice (some ⟨g, o + n, none⟩) (ls.length - n) (cap - n))) := rest_at hS n hn
  have H2 : Hid (cap ≤ n → RestV g (ls.drop n) W (.slice (some ⟨g, o, none⟩) (ls.length - n) 0)) := fun h => rest_no hS n hn h
  clear hS
  generalize ls.drop n = rs at H1 H2 ⊢
  generalize ls.length = L at *
  go_enter Tryz.func107, Tryz.ntmps107
  go_wp2
  go_region
  all_goals go_wp2
  · obtain ⟨o1, cap1, he, hs⟩ := H2.out (by omega)
    exact bodyPost_ret (v := .agg #[.slice (some ⟨g, o, none⟩) (L - n) 0, .int .i64 ((a : Int) + (n : Int)), .int .i64 d]) (by simp [results, Tryz.results107, go_sem]) rfl ⟨o1, cap1, by rw [he], hs, (((Below.refl _ W).alloc (Nat.le_refl _) _).alloc (by simp) _).drew⟩
  · obtain ⟨o1, cap1, he, hs⟩ := H1.out
    exact bodyPost_ret (v := .agg #[.slice (some ⟨g, o + n, none⟩) (L - n) (cap - n), .int .i64 ((a : Int) + (n : Int)), .int .i64 d]) (by simp [results, Tryz.results107, go_sem]) rfl ⟨o1, cap1, by rw [he], hs, (((Below.refl _ W).alloc (Nat.le_refl _) _).alloc (by simp) _).drew⟩

/-- The finder's value. -/
def fiV (q : Tel) : Value := .agg #[.func (.func q.kd) #[] #[.pointer (some ⟨q.bd, 0, none⟩)], .func (.func q.kl) #[] #[.pointer (some ⟨q.bl, 0, none⟩)]]

end Go.Proofs.YtljcljipppjnoaaGreatDoor
