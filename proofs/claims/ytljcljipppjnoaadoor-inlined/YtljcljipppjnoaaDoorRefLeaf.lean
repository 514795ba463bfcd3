import Derived.Test.YtljcljipppjnoaaDoorRefLines
namespace Go.Proofs.YtljcljipppjnoaaDoor
open Go.RowKit

/-- An event. -/
structure Ev where
  kind : Int
  fin : Bool
  level : Int
  text : List UInt8
def evCells (e : Ev) : List Value := [.int .i64 e.kind, .bool e.fin, .int .i64 e.level, .string ⟨e.text.toArray⟩]
def evCs (l : List Ev) : List Value := l.flatMap evCells
theorem evCs_length (l : List Ev) : (evCs l).length = l.length * 4 := by
  induction l with
  | nil => rfl
  | cons e r ih => simp only [evCs, List.flatMap_cons, List.length_append, List.length_cons] at ih ⊢; rw [ih]; simp [evCells]; omega
theorem evCs_append (a b : List Ev) : evCs (a ++ b) = evCs a ++ evCs b := by simp [evCs]
theorem evCs_one (e : Ev) : evCs [e] = evCells e := by simp [evCs]

/-- A leaf: its beginning, its text (if there is one), its end. -/
def leafS (kind level : Int) (t : List UInt8) : List Ev :=
  [⟨kind, false, level, []⟩] ++ (if t = [] then [] else [⟨8, false, 0, t⟩]) ++ [⟨kind, true, level, []⟩]

theorem Tryd.infoEv : (Tryd.prog.info? 58).map (fun i => (i.zero, i.size, i.bytes)) = some (some (.agg #[.int .i64 0, .bool false, .int .i64 0, .string ⟨#[]⟩]), 4, 40) := by kernel_rfl

theorem own_lit (w : World) (e : Ev) (t : TypeId) : (w.alloc (.cells (evCells e).toArray t)).ownsRow w.heap.size t 4 (.slice (some ⟨w.heap.size, 0, none⟩) 1 1) 1 (evCs [e]) := by
  refine ⟨by rw [evCs_length]; rfl, Or.inr ⟨w.heap.size, 1, (evCells e).toArray, rfl, Nat.le_refl _, ?_, Nat.le_refl _, by decide, by simp [evCells], by simp [evCells, evCs_one]⟩⟩
  show (w.heap.push _)[w.heap.size]? = _
  simp

theorem ev_cell (w : World) (e : Ev) (t : TypeId) {n : Nat} (hn : n = w.heap.size) : ∀ j u, (evCells e)[j]? = some u → (w.alloc (.cells (evCells e).toArray t)).cell? ((⟨n, 0, none⟩ : Addr).add j) = some u := by
  subst hn
  intro j u hj
  rw [Addr.add_lit, Nat.zero_add]
  have hh : (w.alloc (.cells (evCells e).toArray t)).heap[w.heap.size]? = some (.cells (evCells e).toArray t (0, 0)) := by
    show (w.heap.push _)[w.heap.size]? = _
    simp
  simp only [World.cell?, hh]
  simpa using hj
theorem ev_one (e : Ev) : ∀ u ∈ evCells e, u.oneCell' = true := by
  intro u hu
  simp [evCells] at hu
  rcases hu with rfl | rfl | rfl | rfl <;> rfl


end Go.Proofs.YtljcljipppjnoaaDoor
