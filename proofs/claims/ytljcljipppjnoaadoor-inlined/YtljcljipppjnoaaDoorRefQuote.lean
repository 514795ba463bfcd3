import Derived.Test.YtljcljipppjnoaaDoorApp
namespace Go.Proofs.YtljcljipppjnoaaDoor
open Go.RowKit

/-- From n on, the first that is not such a one. -/
def scan (p : List UInt8 → Bool) (ls : List (List UInt8)) (n : Nat) : Nat := n + ((ls.drop n).takeWhile p).length
theorem scan_lt (p : List UInt8 → Bool) (ls : List (List UInt8)) (n : Nat) (h : n < ls.length) (hb : p ls[n] = true) : scan p ls n = scan p ls (n + 1) := by
  unfold scan
  rw [List.drop_eq_getElem_cons h, List.takeWhile_cons, if_pos hb]
  simp
  omega
theorem scan_at (p : List UInt8 → Bool) (ls : List (List UInt8)) (n : Nat) (h : n < ls.length) (hb : p ls[n] = false) : scan p ls n = n := by
  unfold scan
  rw [List.drop_eq_getElem_cons h, List.takeWhile_cons, if_neg (by simp [hb])]
  rfl
theorem scan_end (p : List UInt8 → Bool) (ls : List (List UInt8)) (n : Nat) (h : n = ls.length) : scan p ls n = n := by
  unfold scan
  rw [List.drop_eq_nil_iff.2 (by omega)]
  rfl

def isQ : List UInt8 → Bool
  | [] => false
  | c :: _ => c == 62
def unq1 : List UInt8 → List UInt8
  | [] => []
  | c :: r => if c == 32 then r else c :: r
def unq (l : List UInt8) : List UInt8 := unq1 (l.drop 1)
def quoteN (ls : List (List UInt8)) : Nat := scan isQ ls 0
def quoteIn (ls : List (List UInt8)) : List (List UInt8) := (ls.take (quoteN ls)).map unq
def quoteS (inner : List (List UInt8) → List Ev) (ls : List (List UInt8)) : List Ev := [⟨2, false, 0, []⟩] ++ inner (quoteIn ls) ++ [⟨2, true, 0, []⟩]


theorem own_below {w w' : World} {base B size n : Nat} {e : TypeId} {v : Value} {xs : List Value} (h : w.ownsRow base e size v n xs) (hb : Below B w w') (hB : w.heap.size ≤ B) : w'.ownsRow base e size v n xs := by
  refine ⟨h.1, ?_⟩
  rcases h.2 with h0 | ⟨g, cap, cur, hv, hg, hh, r⟩
  · exact Or.inl h0
  · refine Or.inr ⟨g, cap, cur, hv, hg, ?_, r⟩
    rw [hb.block g, hh]
    have : g < w.heap.size := by
      rcases Nat.lt_or_ge g w.heap.size with hlt | hge
      · exact hlt
      · rw [Array.getElem?_eq_none hge] at hh; cases hh
    omega

theorem bytes_of (b : ByteArray) (l : List UInt8) (h : b.data.toList = l) : b = ⟨l.toArray⟩ := by
  apply ByteArray.ext
  apply Array.ext'
  simpa using h

theorem unq_le (l : List UInt8) : (unq l).length ≤ l.length := by
  unfold unq
  have h : (l.drop 1).length ≤ l.length := by rw [List.length_drop]; omega
  cases hd : l.drop 1 with
  | nil => simp [unq1]
  | cons c r =>
    rw [hd, List.length_cons] at h
    simp only [unq1]
    split
    · omega
    · simp only [List.length_cons]; omega

theorem quote_small {M : Nat} {ls : List (List UInt8)} (h : Small M ls) (k : Nat) : Small M ((ls.take k).map unq) := by
  refine ⟨by have := h.1; rw [List.length_map, List.length_take]; omega, ?_⟩
  intro l hl
  obtain ⟨x, hx, rfl⟩ := List.mem_map.1 hl
  have := h.2 x (List.mem_of_mem_take hx)
  have := unq_le x
  omega

theorem quote_len (inner : List (List UInt8) → List Ev) (ls : List (List UInt8)) : (quoteS inner ls).length = 1 + (inner (quoteIn ls)).length + 1 := by
  simp [quoteS]; omega
theorem quote_cells (inner : List (List UInt8) → List Ev) (ls : List (List UInt8)) : evCs (quoteS inner ls) = evCs [⟨2, false, 0, []⟩] ++ (evCs (inner (quoteIn ls)) ++ evCells ⟨2, true, 0, []⟩) := by
  rw [quoteS, evCs_append, evCs_append, evCs_one ⟨2, true, 0, []⟩, List.append_assoc]


end Go.Proofs.YtljcljipppjnoaaDoor
