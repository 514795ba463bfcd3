import Derived.Test.YtljcljipppjnoabGreatDoorJL06
import Derived.Test.YtljcljipppjnoabGreatDoorJL12
import Derived.Test.YtljcljipppjnoabGreatDoorJL37
namespace Go.Proofs.YtljcljipppjnoabGreatDoor
open Go.RowKit
theorem escC_letter : ∀ c : UInt8, letterB c = true → escC c = [c] := by
  have h : ∀ i : Fin 256, letterB (UInt8.ofNat i.val) = true → escC (UInt8.ofNat i.val) = [UInt8.ofNat i.val] := by decide +kernel
  intro c hc
  have := h ⟨c.toNat, c.toNat_lt⟩
  simp only [UInt8.ofNat_toNat] at this
  exact this hc
theorem whereC_letter : ∀ c : UInt8, letterB c = true → whereC c = [c] := by
  have h : ∀ i : Fin 256, letterB (UInt8.ofNat i.val) = true → whereC (UInt8.ofNat i.val) = [UInt8.ofNat i.val] := by decide +kernel
  intro c hc
  have := h ⟨c.toNat, c.toNat_lt⟩
  simp only [UInt8.ofNat_toNat] at this
  exact this hc
theorem esc_word (w : List UInt8) (h : ∀ c ∈ w, letterB c = true) : escL w = w := by
  induction w with
  | nil => rfl
  | cons c r ih =>
    have h1 := escC_letter c (h c List.mem_cons_self)
    have h2 := ih fun d hd => h d (List.mem_cons_of_mem _ hd)
    simp only [escL, List.flatMap_cons] at h2 ⊢
    rw [h1, h2]
    rfl
theorem where_word (w : List UInt8) (h : ∀ c ∈ w, letterB c = true) : whereL w = w := by
  induction w with
  | nil => rfl
  | cons c r ih =>
    have h1 := whereC_letter c (h c List.mem_cons_self)
    have h2 := ih fun d hd => h d (List.mem_cons_of_mem _ hd)
    simp only [whereL, List.flatMap_cons] at h2 ⊢
    rw [h1, h2]
    rfl
theorem html_text8 (w : List UInt8) (h : Word w) : htmlS ⟨8, false, 0, w⟩ = w := esc_word w h.all
theorem html_link (w : List UInt8) (h : Word w) : htmlS ⟨7, false, 0, w⟩ = [60, 97, 32, 104, 114, 101, 102, 61, 34] ++ w ++ [34, 62] := by
  show [60, 97, 32, 104, 114, 101, 102, 61, 34] ++ whereL w ++ [34, 62] = _
  rw [where_word w h.all]
theorem page_word (w : List UInt8) (h : Word w) : pageS (eventsS w) = [60, 112, 62] ++ w ++ [60, 47, 112, 62, 10] := by
  rw [ev_word w h]
  simp only [pageS, List.flatMap_cons, List.flatMap_nil, html_text8 w h]
  simp [htmlS, slashS, feedS]
theorem page_head (w : List UInt8) (h : Word w) : pageS (eventsS (35 :: 35 :: 32 :: (w ++ [32, 10]))) = [60, 104, 50, 62] ++ w ++ [60, 47, 104, 50, 62, 10] := by
  rw [ev_head w h]
  simp only [pageS, List.flatMap_cons, List.flatMap_nil, html_text8 w h]
  simp [htmlS, slashS, feedS]
theorem page_em (w : List UInt8) (h : Word w) : pageS (eventsS (42 :: (w ++ [42]))) = [60, 112, 62, 60, 101, 109, 62] ++ w ++ [60, 47, 101, 109, 62, 60, 47, 112, 62, 10] := by
  rw [ev_em w h]
  simp only [pageS, List.flatMap_cons, List.flatMap_nil, html_text8 w h]
  simp [htmlS, slashS, feedS]
theorem page_quote (w : List UInt8) (h : Word w) : pageS (eventsS (62 :: 32 :: w)) = [60, 98, 108, 111, 99, 107, 113, 117, 111, 116, 101, 62, 10] ++ ([60, 112, 62] ++ w ++ [60, 47, 112, 62, 10]) ++ [60, 47, 98, 108, 111, 99, 107, 113, 117, 111, 116, 101, 62, 10] := by
  rw [ev_quote w h]
  simp only [pageS, List.flatMap_cons, List.flatMap_nil, html_text8 w h]
  simp [htmlS, slashS, feedS]
theorem page_items (w : List UInt8) (h : Word w) : pageS (eventsS ((45 :: 32 :: w) ++ 10 :: (45 :: 32 :: linkL w))) = [60, 117, 108, 62, 10, 60, 108, 105, 62, 10] ++ ([60, 112, 62] ++ w ++ [60, 47, 112, 62, 10]) ++ [60, 47, 108, 105, 62, 10, 60, 108, 105, 62, 10, 60, 112, 62, 60, 97, 32, 104, 114, 101, 102, 61, 34] ++ w ++ [34, 62] ++ w ++ [60, 47, 97, 62, 60, 47, 112, 62, 10, 60, 47, 108, 105, 62, 10, 60, 47, 117, 108, 62, 10] := by
  rw [ev_items w h]
  simp only [pageS, List.flatMap_cons, List.flatMap_nil, html_text8 w h, html_link w h]
  simp [htmlS, slashS, feedS]
end Go.Proofs.YtljcljipppjnoabGreatDoor
