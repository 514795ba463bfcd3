import Derived.Test.YtkabhbbhliffcaaGreatDoorDevWithin
import Derived.Test.YtkabhbbhliffcaaGreatDoorDevLine3
namespace Go.Proofs.YtkabhbbhliffcaaGreatDoor
open Go.RowKit

theorem leaf_any (b0 : Nat) (acc : List Ev) (kind level : Int) (t : List UInt8) (W : World) (hT : Told b0 acc W) (hlen : acc.length + 2 ≤ 1099511627776) :
    Calls Tryz.prog 55 #[.agg #[.int .i64 kind, .bool false, .int .i64 level, .string ⟨#[]⟩], .string ⟨t.toArray⟩, .func (.func 28) #[] #[.pointer (some ⟨b0, 0, none⟩)]] W fun e w' => e = .returned (.tuple #[]) ∧ Told b0 (acc ++ leafS kind level t) w' ∧ Kp b0 none W.heap.size W w' :=
  withText_any b0 acc ⟨kind, false, level, []⟩ t W hT hlen

theorem Strs.kept {b0 g o cap B : Nat} {x : Option Nat} {ls : List (List UInt8)} {W w' : World} (h : Strs g o cap ls W) (hk : Kp b0 x B W w') (hg : g < B) (hx : some g ≠ x) (ho : ¬ Own b0 W g) : Strs g o cap ls w' :=
  ⟨h.fits, h.max, by have := hk.size; have := h.lt; omega, fun j l hj => (World.cell?_of_block (w := W) (hk.block g hg hx ho) : w'.cell? ⟨g, o + j, Option.none⟩ = W.cell? ⟨g, o + j, Option.none⟩).trans (h.cell j l hj)⟩

/-- The rest of some lines, as a value. -/
def RestV (g : Nat) (ls : List (List UInt8)) (W : World) (v : Value) : Prop := ∃ o cap, v = .slice (some ⟨g, o, none⟩) ls.length cap ∧ Strs g o cap ls W
theorem rest_at {g o cap : Nat} {ls : List (List UInt8)} {W : World} (h : Strs g o cap ls W) (n : Nat) (hn : n ≤ ls.length) : RestV g (ls.drop n) W (.slice (some ⟨g, o + n, none⟩) (ls.length - n) (cap - n)) :=
  ⟨o + n, cap - n, by rw [List.length_drop], h.drop n hn⟩
theorem rest_no {g o cap : Nat} {ls : List (List UInt8)} {W : World} (h : Strs g o cap ls W) (n : Nat) (hn : n ≤ ls.length) (hc : cap ≤ n) : RestV g (ls.drop n) W (.slice (some ⟨g, o, none⟩) (ls.length - n) 0) := by
  have := h.fits
  exact ⟨o, 0, by rw [List.length_drop], (h.drop n hn).none o _ (by rw [List.length_drop]; omega)⟩

set_option maxRecDepth 100000 in
set_option maxHeartbeats 2000000 in
theorem dheading_any (b0 : Nat) (acc : List Ev) (g o cap : Nat) (l : List UInt8) (r : List (List UInt8)) (W : World) (hT : Told b0 acc W) (hlen : acc.length + 2 ≤ 1099511627776) (hS : Strs g o cap (l :: r) W) (hO : ¬ Own b0 W g) (hl : l.length ≤ 1073741824) :
    Calls Tryz.prog 41 #[.slice (some ⟨g, o, none⟩) (r.length + 1) cap, .func (.func 28) #[] #[.pointer (some ⟨b0, 0, none⟩)]] W fun e w' =>
      (∃ v, e = .returned v ∧ RestV g r w' v) ∧ Told b0 (acc ++ leafS 1 (levelL l) (trimL (l.drop (levelL l)))) w' ∧ Kp b0 none W.heap.size W w' := by
  have hb0 := hT.lt
  have hcell := hS.cell 0 l rfl
  rw [Nat.add_zero] at hcell
  have hfit := hS.fits
  rw [List.length_cons] at hfit
  have hmax := hS.max
  have hcL := fun W => dlevel_any ⟨l.toArray⟩ W (by rw [size_of]; omega)
  have hlv : levelS ⟨l.toArray⟩ = levelL l := rfl
  have hle := level_le l
  rw [hlv] at hcL
  generalize levelL l = k at hcL hle ⊢
  have hx := ba_ext l k l.length rfl
  have hs2 := size_of l
  have hcT := fun W => dtrim_any ⟨(l.drop k).toArray⟩ W (by rw [size_of, List.length_drop]; omega)
  have hts : trimS ⟨(l.drop k).toArray⟩ = ⟨(trimL (l.drop k)).toArray⟩ := rfl
  rw [hts, ← hx] at hcT
  generalize trimL (l.drop k) = tl at hcT hts ⊢
  have hcF := fun W (h : Told b0 acc W) => leaf_any b0 acc 1 k tl W h hlen
  have HT : Hid (Told b0 acc W) := hT
  have HF : Hid _ := hcF
  have HS1 : Hid (∀ w', Kp b0 none W.heap.size W w' → RestV g r w' (.slice (some ⟨g, o + 1, none⟩) r.length (cap - 1))) := fun w' hk => rest_at (hS.kept hk hS.lt (by simp) hO) 1 (by simp)
  have HS2 : Hid (cap ≤ 1 → ∀ w', Kp b0 none W.heap.size W w' → RestV g r w' (.slice (some ⟨g, o, none⟩) r.length 0)) := fun hc w' hk => rest_no (hS.kept hk hS.lt (by simp) hO) 1 (by simp) hc
  clear hS hT hts hlv hx hcF
  go_enter Tryz.func41, Tryz.ntmps41
  go_wp2_with (first | (go_at_call 50; refine (hcL _).mono ?_; rintro e w' ⟨rfl, hw⟩; rw [hw]; clear hw) | (go_at_call 48; refine (hcT _).mono ?_; rintro e w1 ⟨rfl, b1⟩) | (go_at_call 55; refine (HF.out w1 (HT.out.below b1)).mono ?_; rintro e w2 ⟨rfl, T2, K2⟩))
  all_goals
    have hK : Kp b0 none W.heap.size W w2 := (Kp.below b1 hb0).trans (K2.mono b1.size)
    go_ret
    first | exact ⟨⟨_, rfl, HS1.out w2 hK⟩, T2, hK⟩ | exact ⟨⟨_, rfl, HS2.out (by omega) w2 hK⟩, T2, hK⟩

end Go.Proofs.YtkabhbbhliffcaaGreatDoor
