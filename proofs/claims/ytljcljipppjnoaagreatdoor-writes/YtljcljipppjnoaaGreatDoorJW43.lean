import Derived.Test.YtljcljipppjnoaaGreatDoorJW07
import Derived.Test.YtljcljipppjnoaaGreatDoorJW31
import Derived.Test.YtljcljipppjnoaaGreatDoorJW35
import Derived.Test.YtljcljipppjnoaaGreatDoorJW37
import Derived.Test.YtljcljipppjnoaaGreatDoorJW41
import Derived.Test.YtljcljipppjnoaaGreatDoorJW42
namespace Go.Proofs.YtljcljipppjnoaaGreatDoor
open Go.RowKit Go.Shelf

/-- Offers between two pieces. -/
def RunSt (s : Option Ou) (bk bo : Nat) (page : List UInt8) (ps pre : List (List UInt8)) (O : Nat → Prop) (W : World) : Prop :=
  ∃ of tk mo got left, RunAt s bk bo page of tk mo got left (ps.drop pre.length).flatten O W
theorem RunSt.own (s : Option Ou) (bk bo : Nat) (page : List UInt8) (ps : List (List UInt8)) : OwnS (RunSt s bk bo page ps) := by
  refine ⟨?_, ?_⟩
  · rintro pre O W w' ⟨of, tk, mo, got, left, h⟩ hk hz
    exact ⟨of, tk, mo, got, left, h.keep hk hz⟩
  · rintro pre O W ⟨of, tk, mo, got, left, h⟩
    exact h.lt
/-- They have failed, and it is told. -/
def FailSt (aS : Addr) (s : Option Ou) (bk br bq : Nat) (page : List UInt8) (_pre : List (List UInt8)) (O : Nat → Prop) (W : World) : Prop :=
  ∃ (O1 : Nat → Prop) (t : TypeId) (x : Value) (u : Ou) (of N mo : Nat) (got : List UInt8), s = some u ∧ FailS aS u bk page of N mo got (.iface t x) O1 W ∧ W.heap[br]? = some (.cells #[.int .i64 N] 3 (0, 0)) ∧ W.heap[bq]? = some (.cells #[.iface t x] 98 (0, 0)) ∧ ¬ O1 br ∧ ¬ O1 bq ∧ ∀ y, O y ↔ (O1 y ∨ y = br ∨ y = bq)
theorem FailSt.own (aS : Addr) (s : Option Ou) (bk br bq : Nat) (page : List UInt8) : OwnS (FailSt aS s bk br bq page) := by
  refine ⟨?_, ?_⟩
  · rintro pre O W w' ⟨O1, t, x, u, of, N, mo, got, h1, h2, h3, h4, h5, h6, h7⟩ hk hz
    exact ⟨O1, t, x, u, of, N, mo, got, h1, h2.keep (fun y hy => hk y ((h7 y).2 (Or.inl hy))) hz, (hk br ((h7 br).2 (Or.inr (Or.inl rfl)))).trans h3, (hk bq ((h7 bq).2 (Or.inr (Or.inr rfl)))).trans h4, h5, h6, h7⟩
  · rintro pre O W ⟨O1, t, x, u, of, N, mo, got, h1, h2, h3, h4, h5, h6, h7⟩ y hy
    rcases (h7 y).1 hy with h | rfl | rfl
    · exact h2.lt y h
    · exact (Array.getElem?_eq_some_iff.1 h3).1
    · exact (Array.getElem?_eq_some_iff.1 h4).1
/-- A state, and the frame's temporaries. -/
def Framed {α : Type} (I : List α → (Nat → Prop) → World → Prop) (tm : α → Array Value) (s : List α × α × Act) (O : Nat → Prop) (W : World) : Prop := s.2.2 = { tmps := tm s.2.1, defers := [] } ∧ I s.1 O W
theorem Framed.own {α : Type} {I : List α → (Nat → Prop) → World → Prop} (kI : OwnS I) (tm : α → Array Value) : OwnS (Framed I tm) := by
  refine ⟨?_, ?_⟩
  · rintro s O W w' ⟨e, h⟩ hk hz
    exact ⟨e, kI.keep _ _ _ _ h hk hz⟩
  · rintro s O W ⟨e, h⟩
    exact kI.lt _ _ _ h

/-- What all offers come to. -/
def AllEnd (aS : Addr) (s : Option Ou) (bk : Nat) (page : List UInt8) (OK : Nat → Prop) (e : Ending) (W : World) : Prop :=
  (∃ bo of tk mo got, e = .returned (.tuple #[.int .i64 (tk : Nat), .nilIface]) ∧ RunAt s bk bo page of tk mo got [] [] OK W) ∨
  (∃ (t : TypeId) (x : Value) (u : Ou) (of N mo : Nat) (got : List UInt8), e = .returned (.tuple #[.int .i64 N, .iface t x]) ∧ s = some u ∧ FailS aS u bk page of N mo got (.iface t x) OK W)
def AllOut (aS : Addr) (s : Option Ou) (bk : Nat) (page : List UInt8) (R' : (Nat → Prop) → World → Prop) (OI OK : Nat → Prop) (W : World) (e : Ending) (w' : World) : Prop :=
  ∃ OI' OK', R' OI' w' ∧ (∀ x, OI' x → ¬ OK' x) ∧ Fp (fun x => OI x ∨ OK x) (fun x => OI' x ∨ OK' x) W w' ∧ AllEnd aS s bk page OK' e w'

/-- One more piece in hand, ahead of the offers. -/
theorem RunAt.piece {s : Option Ou} {bk bo : Nat} {page : List UInt8} {of tk mo : Nat} {got left p rest : List UInt8} {O : Nat → Prop} {W : World} (h : RunAt s bk bo page of tk mo got left (p ++ rest) O W) : RunAt s bk bo page of tk mo got (left ++ p) rest O (W.setCell ⟨bo, 1, none⟩ (.string ⟨(left ++ p).toArray⟩)) := by
  have e1 := Joins.block_setCell (i := 1) h.box (.string ⟨(left ++ p).toArray⟩)
  refine ⟨by simpa using e1, h.ob, fun u hu => ?_, h.run.piece, h.mo, fun x hx => by have := h.lt x hx; simpa using this⟩
  obtain ⟨O1, s1, s2, s3⟩ := h.snk u hu
  exact ⟨O1, s1.keep (fun x hx => Below.heap_setCell _ _ _ _ (fun e => s3 (by have e : x = bo := e; rw [← e]; exact hx))) (by simp), s2, s3⟩

abbrev obInt : Obj := .cells #[.int .i64 0] 3 (0, 0)
abbrev obErr : Obj := .cells #[.nilIface] 98 (0, 0)
/-- Between two pieces: the offers, and the two results. -/
def AllSt (s : Option Ou) (bk br bq bo : Nat) (page : List UInt8) (ps : List (List UInt8)) : List (List UInt8) → (Nat → Prop) → World → Prop := With (With (RunSt s bk bo page ps) br obInt) bq obErr
theorem AllSt.own (s : Option Ou) (bk br bq bo : Nat) (page : List UInt8) (ps : List (List UInt8)) : OwnS (AllSt s bk br bq bo page ps) := With.own (With.own (RunSt.own s bk bo page ps) br obInt) bq obErr

/-- A round: what has been offered of a piece. -/
theorem all_round {w0 : World} {aS : Addr} (hS : w0.cell? ⟨0, 0, none⟩ = some (sinkV aS)) {s : Option Ou} (hu : ∀ u, s = some u → u.Ok w0) {bk br bq bo : Nat} {ps : List (List UInt8)} (hps : ps.flatten.length ≤ 68719476736) (hne : br ≠ bq ∧ br ≠ bo ∧ bq ≠ bo) {pre rest : List (List UInt8)} {p : List UInt8} {O : Nat → Prop} {W : World} (hx : pre ++ p :: rest = ps) (hb : Below w0.heap.size w0 W) (hlo : ∀ y, O y → w0.heap.size ≤ y) (h : AllSt s bk br bq bo ps.flatten ps pre O W) :
    ∃ left : List UInt8, (left.length ≤ 68719476736 ∧ p.length ≤ 68719476736) ∧ W.cell? ⟨bo, 1, none⟩ = some (.string ⟨left.toArray⟩) ∧ W.frozen? ⟨bo, 1, none⟩ = false ∧
      Calls Tryz.prog 95 #[.pointer (some ⟨bo, 0, none⟩), .int .i64 16] (W.setCell ⟨bo, 1, none⟩ (.string ⟨(left ++ p).toArray⟩)) fun e w' =>
        (e = .returned .nilIface ∧ Hid (∃ O', Fp O O' W w' ∧ AllSt s bk br bq bo ps.flatten ps (pre ++ [p]) O' w')) ∨
        (∃ (t : TypeId) (x : Value) (N : Nat), e = .returned (.iface t x) ∧ w'.cell? ⟨bo, 2, none⟩ = some (.int .i64 N) ∧ w'.cell? ⟨br, 0, none⟩ = some (.int .i64 0) ∧ w'.frozen? ⟨br, 0, none⟩ = false ∧ w'.cell? ⟨bq, 0, none⟩ = some .nilIface ∧ w'.frozen? ⟨bq, 0, none⟩ = false ∧ Hid (∃ O', Fp O O' W ((w'.setCell ⟨br, 0, none⟩ (.int .i64 N)).setCell ⟨bq, 0, none⟩ (.iface t x)) ∧ FailSt aS s bk br bq ps.flatten (pre ++ [p]) O' ((w'.setCell ⟨br, 0, none⟩ (.int .i64 N)).setCell ⟨bq, 0, none⟩ (.iface t x)))) := by
  obtain ⟨O2, ⟨O3, ⟨of, tk, mo, got, left, hr⟩, k2, k3, k4⟩, m2, m3, m4⟩ := h
  have hrest : (ps.drop pre.length).flatten = p ++ (ps.drop (pre ++ [p]).length).flatten := by
    rw [← hx]
    simp
  rw [hrest] at hr
  have hsum := hr.run.sum
  rw [List.length_append] at hsum
  have hloO3 : ∀ y, O3 y → w0.heap.size ≤ y := fun y hy => hlo y ((m4 y).2 (Or.inl ((k4 y).2 (Or.inl hy))))
  have hz := hb.size
  have hbo := hr.lt bo hr.ob
  have hbr := (Array.getElem?_eq_some_iff.1 k2).1
  have hbq := (Array.getElem?_eq_some_iff.1 m2).1
  have nbq3 : ¬ O3 bq := fun h => m3 ((k4 bq).2 (Or.inl h))
  have r2 := hr.piece
  obtain ⟨W1, hW1⟩ : ∃ W1, W.setCell ⟨bo, 1, none⟩ (.string ⟨(left ++ p).toArray⟩) = W1 := ⟨_, rfl⟩
  have z1 : W1.heap.size = W.heap.size := by rw [← hW1]; simp
  have o1 : ∀ y, y ≠ bo → W1.heap[y]? = W.heap[y]? := fun y hy => by rw [← hW1]; exact Below.heap_setCell _ _ _ _ hy
  have f1 : W1.os = W.os ∧ W1.tape = W.tape ∧ W1.output = W.output := by rw [← hW1]; exact ⟨rfl, rfl, rfl⟩
  rw [hW1] at r2
  have lob := hloO3 bo hr.ob
  have b1 : Below w0.heap.size w0 W1 := hb.trans ⟨f1.1, f1.2.1, f1.2.2, by omega, fun y hy => o1 y (by omega)⟩
  refine ⟨left, ⟨by omega, by omega⟩, row_cell (i := 1) hr.box rfl, row_free (i := 1) hr.box, ?_⟩
  rw [hW1]
  refine (while_any hS hu hps r2 b1 hloO3 16 (by omega) (by omega)).mono ?_
  rintro e w' ⟨O', hf, hc⟩
  have z2 := hf.size
  have fpW : ∀ y, y < W.heap.size → ¬ O3 y → w'.heap[y]? = W.heap[y]? := fun y hy ho => (hf.block y (by omega) ho).trans (o1 y (fun e => ho (e ▸ hr.ob)))
  have hgrow : ∀ y, O' y → O3 y ∨ W.heap.size ≤ y := fun y hy => (hf.grow y hy).imp id (fun h => by omega)
  have br' := (fpW br hbr k3).trans k2
  have bq' := (fpW bq hbq nbq3).trans m2
  have nbr : ¬ O' br := fun h => by
    rcases hgrow br h with h | h
    · exact k3 h
    · omega
  have nbq : ¬ O' bq := fun h => by
    rcases hgrow bq h with h | h
    · exact nbq3 h
    · omega
  have gr3 : ∀ y, O3 y → O y := fun y hy => (m4 y).2 (Or.inl ((k4 y).2 (Or.inl hy)))
  have obr : O br := (m4 br).2 (Or.inl ((k4 br).2 (Or.inr rfl)))
  have obq : O bq := (m4 bq).2 (Or.inr rfl)
  rcases hc with ⟨rfl, of', tk', mo', got', left', r3, _⟩ | ⟨ev, u, of', N, mo', got', left', rfl, ⟨t, x, rfl⟩, hsu, _, hb3, ob3, hF⟩
  · refine Or.inl ⟨rfl, fun y => (O' y ∨ y = br) ∨ y = bq, ⟨hf.os.trans f1.1, hf.tape.trans f1.2.1, hf.output.trans f1.2.2, by omega, fun y hy ho => fpW y hy fun h => ho (gr3 y h), fun y hy => ?_⟩, fun y => O' y ∨ y = br, ⟨O', ⟨of', tk', mo', got', left', r3⟩, br', nbr, fun y => Iff.rfl⟩, bq', ?_, fun y => Iff.rfl⟩
    · rcases hy with (hy | rfl) | rfl
      · exact (hgrow y hy).imp (gr3 y) id
      · exact Or.inl obr
      · exact Or.inl obq
    · rintro (h | h)
      · exact nbq h
      · exact hne.1 h.symm
  · refine Or.inr ⟨t, x, N, rfl, row_cell (i := 2) hb3 rfl, cell_of_one br', row_free (i := 0) br', cell_of_one bq', row_free (i := 0) bq', fun y => O' y ∨ y = br ∨ y = bq, ⟨hf.os.trans f1.1, hf.tape.trans f1.2.1, hf.output.trans f1.2.2, by simp; omega, fun y hy ho => ?_, fun y hy => ?_⟩, O', t, x, u, of', N, mo', got', hsu, hF.keep (fun y hy => ?_) (by simp), ?_, ?_, nbr, nbq, fun y => Iff.rfl⟩
    · rw [Below.heap_setCell _ _ _ _ (fun e => ho (by rw [e]; exact obq)), Below.heap_setCell _ _ _ _ (fun e => ho (by rw [e]; exact obr))]
      exact fpW y hy fun h => ho (gr3 y h)
    · rcases hy with hy | rfl | rfl
      · exact (hgrow y hy).imp (gr3 y) id
      · exact Or.inl obr
      · exact Or.inl obq
    · rw [Below.heap_setCell _ _ _ _ (fun e => nbq (by have e : y = bq := e; rw [← e]; exact hy)), Below.heap_setCell _ _ _ _ (fun e => nbr (by have e : y = br := e; rw [← e]; exact hy))]
    · rw [Below.heap_setCell _ _ _ _ hne.1]
      exact set_row (cur := #[.int .i64 0]) br'
    · refine set_row (cur := #[.nilIface]) ?_
      rw [Below.heap_setCell _ _ _ _ (Ne.symm hne.1)]
      exact bq'

theorem AllEnd.keep {aS : Addr} {s : Option Ou} {bk : Nat} {page : List UInt8} {OK : Nat → Prop} {e : Ending} {W w' : World} (h : AllEnd aS s bk page OK e W) (hk : ∀ x, OK x → w'.heap[x]? = W.heap[x]?) (hz : W.heap.size ≤ w'.heap.size) : AllEnd aS s bk page OK e w' := by
  rcases h with ⟨bo, of, tk, mo, got, h1, h2⟩ | ⟨t, x, u, of, N, mo, got, h1, h2, h3⟩
  · exact Or.inl ⟨bo, of, tk, mo, got, h1, h2.keep hk hz⟩
  · exact Or.inr ⟨t, x, u, of, N, mo, got, h1, h2, h3.keep hk hz⟩
theorem AllEnd.lt {aS : Addr} {s : Option Ou} {bk : Nat} {page : List UInt8} {OK : Nat → Prop} {e : Ending} {W : World} (h : AllEnd aS s bk page OK e W) : ∀ x, OK x → x < W.heap.size := by
  rcases h with ⟨bo, of, tk, mo, got, h1, h2⟩ | ⟨t, x, u, of, N, mo, got, h1, h2, h3⟩
  · exact h2.lt
  · exact h3.lt
/-- What is left at the end is offered. -/
theorem all_last {w0 : World} {aS : Addr} (hS : w0.cell? ⟨0, 0, none⟩ = some (sinkV aS)) {s : Option Ou} (hu : ∀ u, s = some u → u.Ok w0) {bk br bq bo : Nat} {ps : List (List UInt8)} (hps : ps.flatten.length ≤ 68719476736) (hne : br ≠ bq ∧ br ≠ bo ∧ bq ≠ bo) {O : Nat → Prop} {W : World} (hb : Below w0.heap.size w0 W) (hlo : ∀ y, O y → w0.heap.size ≤ y) (h : AllSt s bk br bq bo ps.flatten ps ps O W) :
    Calls Tryz.prog 95 #[.pointer (some ⟨bo, 0, none⟩), .int .i64 1] W fun e w' =>
      ∃ (ev : Value) (N : Nat), e = .returned ev ∧ Hid (ev = .nilIface ∨ ∃ t x, ev = .iface t x) ∧ w'.cell? ⟨bo, 2, none⟩ = some (.int .i64 N) ∧ w'.cell? ⟨br, 0, none⟩ = some (.int .i64 0) ∧ w'.frozen? ⟨br, 0, none⟩ = false ∧ w'.cell? ⟨bq, 0, none⟩ = some .nilIface ∧ w'.frozen? ⟨bq, 0, none⟩ = false ∧
        Hid (∃ OE, Fp O OE W ((w'.setCell ⟨br, 0, none⟩ (.int .i64 N)).setCell ⟨bq, 0, none⟩ ev) ∧ AllEnd aS s bk ps.flatten OE (.returned (.tuple #[.int .i64 N, ev])) ((w'.setCell ⟨br, 0, none⟩ (.int .i64 N)).setCell ⟨bq, 0, none⟩ ev) ∧ ((w'.setCell ⟨br, 0, none⟩ (.int .i64 N)).setCell ⟨bq, 0, none⟩ ev).heap[br]? = some (.cells #[.int .i64 N] 3 (0, 0)) ∧ ((w'.setCell ⟨br, 0, none⟩ (.int .i64 N)).setCell ⟨bq, 0, none⟩ ev).heap[bq]? = some (.cells #[ev] 98 (0, 0))) := by
  obtain ⟨O2, ⟨O3, ⟨of, tk, mo, got, left, hr⟩, k2, k3, k4⟩, m2, m3, m4⟩ := h
  rw [List.drop_length] at hr
  have hloO3 : ∀ y, O3 y → w0.heap.size ≤ y := fun y hy => hlo y ((m4 y).2 (Or.inl ((k4 y).2 (Or.inl hy))))
  have hbr := (Array.getElem?_eq_some_iff.1 k2).1
  have hbq := (Array.getElem?_eq_some_iff.1 m2).1
  have nbq3 : ¬ O3 bq := fun h => m3 ((k4 bq).2 (Or.inl h))
  refine (while_any hS hu hps hr hb hloO3 1 (by omega) (by omega)).mono ?_
  rintro e w' ⟨O', hf, hc⟩
  have z2 := hf.size
  have br' := (hf.block br hbr k3).trans k2
  have bq' := (hf.block bq hbq nbq3).trans m2
  have nbr : ¬ O' br := fun h => by
    rcases hf.grow br h with h | h
    · exact k3 h
    · omega
  have nbq : ¬ O' bq := fun h => by
    rcases hf.grow bq h with h | h
    · exact nbq3 h
    · omega
  have gr3 : ∀ y, O3 y → O y := fun y hy => (m4 y).2 (Or.inl ((k4 y).2 (Or.inl hy)))
  have obr : O br := (m4 br).2 (Or.inl ((k4 br).2 (Or.inr rfl)))
  have obq : O bq := (m4 bq).2 (Or.inr rfl)
  have fin : ∀ (ev : Value) (N : Nat), (ev = .nilIface ∨ ∃ t x, ev = .iface t x) → e = .returned ev → w'.cell? ⟨bo, 2, none⟩ = some (.int .i64 N) → AllEnd aS s bk ps.flatten O' (.returned (.tuple #[.int .i64 N, ev])) w' → ∃ (ev : Value) (N : Nat), e = .returned ev ∧ Hid (ev = .nilIface ∨ ∃ t x, ev = .iface t x) ∧ w'.cell? ⟨bo, 2, none⟩ = some (.int .i64 N) ∧ w'.cell? ⟨br, 0, none⟩ = some (.int .i64 0) ∧ w'.frozen? ⟨br, 0, none⟩ = false ∧ w'.cell? ⟨bq, 0, none⟩ = some .nilIface ∧ w'.frozen? ⟨bq, 0, none⟩ = false ∧
        Hid (∃ OE, Fp O OE W ((w'.setCell ⟨br, 0, none⟩ (.int .i64 N)).setCell ⟨bq, 0, none⟩ ev) ∧ AllEnd aS s bk ps.flatten OE (.returned (.tuple #[.int .i64 N, ev])) ((w'.setCell ⟨br, 0, none⟩ (.int .i64 N)).setCell ⟨bq, 0, none⟩ ev) ∧ ((w'.setCell ⟨br, 0, none⟩ (.int .i64 N)).setCell ⟨bq, 0, none⟩ ev).heap[br]? = some (.cells #[.int .i64 N] 3 (0, 0)) ∧ ((w'.setCell ⟨br, 0, none⟩ (.int .i64 N)).setCell ⟨bq, 0, none⟩ ev).heap[bq]? = some (.cells #[ev] 98 (0, 0))) := by
    intro ev N h1 h2 h3 h4
    refine ⟨ev, N, h2, h1, h3, cell_of_one br', row_free (i := 0) br', cell_of_one bq', row_free (i := 0) bq', O', ⟨hf.os, hf.tape, hf.output, by simp; omega, fun y hy ho => ?_, fun y hy => (hf.grow y hy).imp (gr3 y) id⟩, h4.keep (fun y hy => ?_) (by simp), ?_, ?_⟩
    · rw [Below.heap_setCell _ _ _ _ (fun e => ho (by rw [e]; exact obq)), Below.heap_setCell _ _ _ _ (fun e => ho (by rw [e]; exact obr))]
      exact hf.block y hy fun h => ho (gr3 y h)
    · rw [Below.heap_setCell _ _ _ _ (fun e => nbq (by have e : y = bq := e; rw [← e]; exact hy)), Below.heap_setCell _ _ _ _ (fun e => nbr (by have e : y = br := e; rw [← e]; exact hy))]
    · rw [Below.heap_setCell _ _ _ _ hne.1]
      exact set_row (cur := #[.int .i64 0]) br'
    · refine set_row (cur := #[.nilIface]) ?_
      rw [Below.heap_setCell _ _ _ _ (Ne.symm hne.1)]
      exact bq'
  rcases hc with ⟨rfl, of', tk', mo', got', left', r3, hl⟩ | ⟨ev, u, of', N, mo', got', left', rfl, ⟨t, x, rfl⟩, hsu, _, hb3, ob3, hF⟩
  · have hl0 : left' = [] := List.eq_nil_of_length_eq_zero (by have hl : left'.length < 1 := hl; omega)
    subst hl0
    exact fin .nilIface tk' (Or.inl rfl) rfl (row_cell (i := 2) r3.box rfl) (Or.inl ⟨bo, of', tk', mo', got', rfl, r3⟩)
  · exact fin (.iface t x) N (Or.inr ⟨t, x, rfl⟩) rfl (row_cell (i := 2) hb3 rfl) (Or.inr ⟨t, x, u, of', N, mo', got', rfl, hsu, hF⟩)

set_option maxRecDepth 100000 in
set_option maxHeartbeats 4000000 in
/-- All pieces are offered. -/
theorem offers_all {w0 : World} {aS : Addr} (hS : w0.cell? ⟨0, 0, none⟩ = some (sinkV aS)) {s : Option Ou} (hu : ∀ u, s = some u → u.Ok w0) {gf : Nat} {lb : Array Value} (eg : ∀ args w, (callFunc gf args).run Tryz.prog w = .ok (.enter gf args) w) {ps : List (List UInt8)} (hps : ps.flatten.length ≤ 68719476736)
    {R R' : (Nat → Prop) → World → Prop} (kR : OwnS fun (_ : Unit) => R) (kR' : OwnS fun (_ : Unit) => R') (hseq : SeqF Tryz.prog w0 gf lb (fun p : List UInt8 => #[.string ⟨p.toArray⟩]) ps R R') {bk : Nat} {OI OK : Nat → Prop} {W : World} (hW : Below w0.heap.size w0 W) (hlow : ∀ x, OI x ∨ OK x → w0.heap.size ≤ x) (hR : R OI W) (hK : ∀ u, s = some u → SkAt u bk 0 0 [] OK W) (hKlt : ∀ x, OK x → x < W.heap.size) (hd : ∀ x, OI x → ¬ OK x) :
    Calls Tryz.prog 75 #[svOf s bk, .func (.func gf) #[] lb] W (AllOut aS s bk ps.flatten R' OI OK W) := by
  refine (callsIn_wide (n := 3)).1 ?_
  refine callsIn_of_wp_marks Tryz.func75 rfl trivial ?_
  simp only [Tryz.ntmps75, List.size_toArray, List.length_cons, List.length_nil, Nat.reduceAdd, Nat.reduceSub, Array.replicate_succ, Array.replicate_zero, List.push_toArray, List.append_toArray, List.nil_append, List.cons_append]
  have hsv := svOf_ie s bk
  obtain ⟨sv, hsve⟩ : ∃ sv, svOf s bk = sv := ⟨_, rfl⟩
  rw [hsve] at hsv ⊢
  have HSV : Hid (svOf s bk = sv) := hsve
  clear hsve
  have kA := AllSt.own s bk W.heap.size (W.heap.size + 1) (W.heap.size + 1 + 1) ps.flatten ps
  have kF := FailSt.own aS s bk W.heap.size (W.heap.size + 1) ps.flatten
  have hz0 := hW.size
  have hRlt := kR.lt () _ _ hR
  obtain ⟨W3, hW3⟩ : ∃ W3, ((W.alloc (.cells #[.int .i64 0] 3)).alloc (.cells #[.nilIface] 98)).alloc (.cells #[sv, .string ⟨#[]⟩, .int .i64 0] 184) = W3 := ⟨_, rfl⟩
  have b3 : Below W.heap.size W W3 := by rw [← hW3]; exact (((Below.refl _ W).alloc (Nat.le_refl _) _).alloc (by simp) _).alloc (by simp; omega) _
  have z3 : W3.heap.size = W.heap.size + 3 := by rw [← hW3]; simp
  have n0 : W3.heap[W.heap.size]? = some obInt := by
    rw [← hW3, Below.heap_alloc _ _ _ (by simp; omega), Below.heap_alloc _ _ _ (by simp)]
    exact heap_new _ _ rfl
  have n1 : W3.heap[W.heap.size + 1]? = some obErr := by
    rw [← hW3, Below.heap_alloc _ _ _ (by simp)]
    exact heap_new _ _ (by simp)
  have n2 : W3.heap[W.heap.size + 1 + 1]? = some (.cells #[sv, .string ⟨#[]⟩, .int .i64 0] 184 (0, 0)) := by
    rw [← hW3]
    exact heap_new _ _ (by simp)
  have hbW3 : Below w0.heap.size w0 W3 := hW.trans (b3.mono hz0)
  have run0 : RunAt s bk (W.heap.size + 1 + 1) ps.flatten 0 0 0 [] [] (ps.drop ([] : List (List UInt8)).length).flatten (fun x => OK x ∨ x = W.heap.size + 1 + 1) W3 := by
    refine ⟨by rw [HSV.out]; exact n2, Or.inr rfl, fun u hu' => ⟨OK, (hK u hu').keep (fun x hx => b3.block x (hKlt x hx)) b3.size, fun x hx => Or.inl hx, fun h => by have := hKlt _ h; omega⟩, Run.start _ _ _ _ _, Nat.zero_le _, fun x hx => ?_⟩
    rcases hx with hx | rfl
    · have := hKlt x hx; omega
    · omega
  have st0 : AllSt s bk W.heap.size (W.heap.size + 1) (W.heap.size + 1 + 1) ps.flatten ps [] (fun x => ((OK x ∨ x = W.heap.size + 1 + 1) ∨ x = W.heap.size) ∨ x = W.heap.size + 1) W3 := by
    refine ⟨_, ⟨_, ⟨0, 0, 0, [], [], run0⟩, n0, ?_, fun x => Iff.rfl⟩, n1, ?_, fun x => Iff.rfl⟩
    · rintro (h | h)
      · have := hKlt _ h; omega
      · omega
    · rintro ((h | h) | h)
      · have := hKlt _ h; omega
      · omega
      · omega
  have cRnd := fun {pre rest : List (List UInt8)} {p : List UInt8} {O : Nat → Prop} {W : World} (hx : pre ++ p :: rest = ps) (hb : Below w0.heap.size w0 W) (hlo : ∀ y, O y → w0.heap.size ≤ y) h => all_round hS hu hps (bk := bk) (br := W3.heap.size - 3) (bq := W3.heap.size - 2) (bo := W3.heap.size - 1) (by omega) hx hb hlo h
  rw [show W3.heap.size - 3 = W.heap.size by omega, show W3.heap.size - 2 = W.heap.size + 1 by omega, show W3.heap.size - 1 = W.heap.size + 1 + 1 by omega] at cRnd
  have hr3 : R OI W3 := kR.keep () _ _ _ hR (fun x hx => b3.block x (hRlt x hx)) b3.size
  have CR : Hid _ := @cRnd
  have fin : ∀ (D : Nat) (OI' O' : Nat → Prop) (W4 : World) (OE : Nat → Prop) (w2 : World) (ev : Value) (N : Nat), R' OI' W4 → (∀ x, OI' x → ¬ O' x) → Fp (fun x => OI x ∨ (((OK x ∨ x = W.heap.size + 1 + 1) ∨ x = W.heap.size) ∨ x = W.heap.size + 1)) (fun x => OI' x ∨ O' x) W3 W4 → W4.heap[D]? = some (.deferred (some [])) → W3.heap.size ≤ D → ¬ OI' D → ¬ O' D → Fp O' OE W4 w2 → AllEnd aS s bk ps.flatten OE (.returned (.tuple #[.int .i64 N, ev])) w2 → w2.heap[W.heap.size]? = some (.cells #[.int .i64 N] 3 (0, 0)) → w2.heap[W.heap.size + 1]? = some (.cells #[ev] 98 (0, 0)) →
      w2.heap[D]? = some (.deferred (some [])) ∧ (w2.putObj D (.deferred none)).cell? ⟨W.heap.size, 0, none⟩ = some (.int .i64 N) ∧ (w2.putObj D (.deferred none)).cell? ⟨W.heap.size + 1, 0, none⟩ = some ev ∧ AllOut aS s bk ps.flatten R' OI OK W (.returned (.tuple #[.int .i64 N, ev])) (w2.putObj D (.deferred none)) := by
    intro D OI' O' W4 OE w2 ev N hR' hdis hf hD hDl nD1 nD2 fE aE h1 h2
    have hDlt := (Array.getElem?_eq_some_iff.1 hD).1
    have hR'lt := kR'.lt () _ _ hR'
    have zf := hf.size
    have zE := fE.size
    have nDE : ¬ OE D := fun h => by
      rcases fE.grow D h with h | h
      · exact nD2 h
      · omega
    have kOI : ∀ x, OI' x → w2.heap[x]? = W4.heap[x]? := fun x hx => fE.block x (hR'lt x hx) fun h => hdis x hx h
    have hdis' : ∀ x, OI' x → ¬ OE x := fun x hx ho => by
      rcases fE.grow x ho with h | h
      · exact hdis x hx h
      · have := hR'lt x hx; omega
    refine ⟨(fE.block D hDlt nD2).trans hD, (World.cell?_of_block (World.putObj_heap_other (show (⟨W.heap.size, 0, none⟩ : Addr).block ≠ D by show W.heap.size ≠ D; omega))).trans (cell_of_one h1), (World.cell?_of_block (World.putObj_heap_other (show (⟨W.heap.size + 1, 0, none⟩ : Addr).block ≠ D by show W.heap.size + 1 ≠ D; omega))).trans (cell_of_one h2), OI', OE, kR'.keep () _ _ _ hR' (fun x hx => (World.putObj_heap_other (show x ≠ D from fun e => nD1 (e ▸ hx))).trans (kOI x hx)) (by simp; omega), hdis', ⟨fE.os.trans (hf.os.trans b3.os), fE.tape.trans (hf.tape.trans b3.tape), fE.output.trans (hf.output.trans b3.output), by simp; omega, fun x hx ho => ?_, fun x hx => ?_⟩, aE.keep (fun x hx => World.putObj_heap_other (fun e => nDE (e ▸ hx))) (by simp)⟩
    · have nx : ¬ (OI x ∨ (((OK x ∨ x = W.heap.size + 1 + 1) ∨ x = W.heap.size) ∨ x = W.heap.size + 1)) := by
        rintro (h | (((h | h) | h) | h))
        · exact ho (Or.inl h)
        · exact ho (Or.inr h)
        · omega
        · omega
        · omega
      have nx' : ¬ O' x := fun h => by
        rcases hf.grow x (Or.inr h) with h | h
        · exact nx h
        · omega
      exact (World.putObj_heap_other (by omega)).trans ((fE.block x (by omega) nx').trans ((hf.block x (by omega) nx).trans (b3.block x hx)))
    · have key : OI' x ∨ O' x → (OI x ∨ OK x) ∨ W.heap.size ≤ x := fun h => by
        rcases hf.grow x h with (h | (((h | h) | h) | h)) | h
        · exact Or.inl (Or.inl h)
        · exact Or.inl (Or.inr h)
        · exact Or.inr (by omega)
        · exact Or.inr (by omega)
        · exact Or.inr (by omega)
        · exact Or.inr (by omega)
      rcases hx with hx | hx
      · exact key (Or.inl hx)
      · rcases fE.grow x hx with h | h
        · exact key (Or.inr h)
        · exact Or.inr (by omega)
  have cLst := fun {O : Nat → Prop} {W4 : World} (hb : Below w0.heap.size w0 W4) (hlo : ∀ y, O y → w0.heap.size ≤ y) h => all_last hS hu hps (bk := bk) (br := W.heap.size) (bq := W.heap.size + 1) (bo := W.heap.size + 1 + 1) (by omega) hb hlo h
  have CL : Hid _ := @cLst
  have FIN : Hid _ := fin
  have Z3 : Hid (w0.heap.size ≤ W3.heap.size) := hbW3.size
  clear fin cLst
  have HW3 : Hid (((W.alloc (.cells #[.int .i64 0] 3)).alloc (.cells #[.nilIface] 98)).alloc (.cells #[sv, .string ⟨#[]⟩, .int .i64 0] 184) = W3) := hW3
  clear cRnd hW3 n0 n1 n2 b3 z3
  rcases hsv with rfl | ⟨us, xs, rfl⟩
  all_goals
    gi_wp2
    rw [HW3.out]
    first
    | refine rangeF (gf := gf) (lb := lb) rfl eg hseq (fun _ => rfl) kR kR' (AllSt s bk W.heap.size (W.heap.size + 1) (W.heap.size + 1 + 1) ps.flatten ps) (FailSt aS s bk W.heap.size (W.heap.size + 1) ps.flatten) kA kF (OI := OI) hbW3 ?low hr3 st0 ?apart (Framed (AllSt s bk W.heap.size (W.heap.size + 1) (W.heap.size + 1 + 1) ps.flatten ps) (fun p => #[(.iface us xs), .func (.func gf) #[] lb, undef, undef, .pointer (some ⟨W.heap.size, 0, none⟩), .pointer (some ⟨W.heap.size + 1, 0, none⟩), .pointer (some ⟨W.heap.size + 1 + 1, 0, none⟩), .string ⟨p.toArray⟩, undef, undef, (.iface us xs), .agg #[(.iface us xs), .string ⟨#[]⟩, .int .i64 0], .func (.func gf) #[] lb, .string ⟨p.toArray⟩, undef, undef, undef, undef, undef, undef, undef, undef, undef, undef, undef, undef, undef, undef, undef])) (Framed.own kA _) ?assign ?body ?done ?stop
    | refine rangeF (gf := gf) (lb := lb) rfl eg hseq (fun _ => rfl) kR kR' (AllSt s bk W.heap.size (W.heap.size + 1) (W.heap.size + 1 + 1) ps.flatten ps) (FailSt aS s bk W.heap.size (W.heap.size + 1) ps.flatten) kA kF (OI := OI) hbW3 ?low hr3 st0 ?apart (Framed (AllSt s bk W.heap.size (W.heap.size + 1) (W.heap.size + 1 + 1) ps.flatten ps) (fun p => #[.nilIface, .func (.func gf) #[] lb, undef, undef, .pointer (some ⟨W.heap.size, 0, none⟩), .pointer (some ⟨W.heap.size + 1, 0, none⟩), .pointer (some ⟨W.heap.size + 1 + 1, 0, none⟩), .string ⟨p.toArray⟩, undef, undef, .nilIface, .agg #[.nilIface, .string ⟨#[]⟩, .int .i64 0], .func (.func gf) #[] lb, .string ⟨p.toArray⟩, undef, undef, undef, undef, undef, undef, undef, undef, undef, undef, undef, undef, undef, undef, undef])) (Framed.own kA _) ?assign ?body ?done ?stop
    case low =>
      rintro x (h | (((h | h) | h) | h))
      · exact hlow x (Or.inl h)
      · exact hlow x (Or.inr h)
      · omega
      · omega
      · omega
    case apart =>
      rintro x h (((h1 | h1) | h1) | h1)
      · exact hd x h h1
      · have := hRlt _ h; omega
      · have := hRlt _ h; omega
      · have := hRlt _ h; omega
    case assign =>
      intro l' pre p rest O W2 K hx hb2 hlo hI hK'
      have hsem := @Oper.semAt_some
      have FI : Hid (AllSt s bk W.heap.size (W.heap.size + 1) (W.heap.size + 1 + 1) ps.flatten ps pre O W2) := hI
      have HK : Hid _ := hK'
      clear hI hK' hseq
      gi_wp2
      exact HK.out _ O _ (Fp.refl O W2) ⟨rfl, FI.out⟩
    case body =>
      rintro l' pre p rest a' O W2 hx hb2 hlo ⟨e0, hI⟩
      simp only at e0
      rw [e0]
      have hsem := @Oper.semAt_some
      obtain ⟨left, ⟨hl1, hl2⟩, c1, f1, cW⟩ := CR.out hx hb2 hlo hI
      have hz1 := size_of left
      have hz2 := size_of p
      have hba := ba_app left p
      obtain ⟨P, hP⟩ : ∃ P, fpPost (AllSt s bk W.heap.size (W.heap.size + 1) (W.heap.size + 1 + 1) ps.flatten ps) (FailSt aS s bk W.heap.size (W.heap.size + 1) ps.flatten) (pre ++ [p]) O W2 = P := ⟨_, rfl⟩
      rw [hP]
      have HP : Hid _ := hP
      clear hP e0 hI hx hb2 hlo CR hseq hr3 st0 run0 hbW3 kA kF hRlt hK hKlt hd hR hlow hW HSV HW3 kR kR' eg hu hS hz0
      gi_wp2_with (refine ⟨trivial, rfl, ?_⟩; gi_at_call 95; refine (CallsIn.inRound l' (callsIn_wide.2 cW)).mono ?_; rintro e w1 (⟨rfl, HG⟩ | ⟨t, x, N, rfl, x2, y0, y1, z0, z1, HG⟩))
      · rw [← HP.out]
        exact HG.out
      · rw [← HP.out]
        exact HG.out
    case done =>
      rintro D OI' O' W4 hR' hI hdis hf hD hDl nD1 nD2
      have hlow3 : ∀ x, (OI x ∨ (((OK x ∨ x = W.heap.size + 1 + 1) ∨ x = W.heap.size) ∨ x = W.heap.size + 1)) → w0.heap.size ≤ x := by
        rintro x (h | (((h | h) | h) | h))
        · exact hlow x (Or.inl h)
        · exact hlow x (Or.inr h)
        · omega
        · omega
        · omega
      have cL := CL.out (hbW3.trans (hf.under Z3.out hlow3)) (fun y hy => hf.low Z3.out hlow3 y (Or.inr hy)) hI
      have HH : Hid _ := And.intro hR' (And.intro hdis (And.intro hf (And.intro hD (And.intro hDl (And.intro nD1 nD2)))))
      clear hR' hI hdis hf hD hDl nD1 nD2 hlow3 CL CR hseq hr3 st0 run0 hbW3 kA kF hRlt hK hKlt hd hR hlow hW HSV HW3 kR kR' eg hu hS hz0 Z3
      gi_wp2_with (refine ⟨trivial, ?_⟩; gi_at_call 95; refine (callsIn_wide.2 cL).mono ?_; rintro e w1 ⟨ev, N, rfl, HE, x2, y0, y1, z0, z1, HG⟩; rcases HE.out with rfl | ⟨t, x, rfl⟩)
      all_goals
        obtain ⟨OE, g1, g2, g3, g4⟩ := HG.out
        obtain ⟨hR', hdis, hf, hD, hDl, nD1, nD2⟩ := HH.out
        obtain ⟨d1, d2, d3, d4⟩ := FIN.out D OI' O' W4 OE _ _ N hR' hdis hf hD hDl nD1 nD2 g1 g2 g3 g4
        refine ⟨by simp, .inl ⟨_, _, rfl, run_takeDeferred d1, ?_⟩⟩
        refine ⟨_, ?_, d4⟩
        simp [results, Tryz.results75, go_sem, d2, d3]
    case stop =>
      rintro D pre OI' O' W4 hR' ⟨O1, t, x, u, of, N, mo, got, f1, f2, f3, f4, f5, f6, f7⟩ hdis hf hD hDl nD1 nD2
      obtain ⟨d1, d2, d3, d4⟩ := FIN.out D OI' O' W4 O1 W4 (.iface t x) N hR' hdis hf hD hDl nD1 nD2 ⟨rfl, rfl, rfl, Nat.le_refl _, fun _ _ _ => rfl, fun y hy => Or.inl ((f7 y).2 (Or.inl hy))⟩ (Or.inr ⟨t, x, u, of, N, mo, got, rfl, f1, f2⟩) f3 f4
      clear hR' hdis hf hDl nD1 nD2 CL CR hseq hr3 st0 run0 hbW3 kA kF hRlt hK hKlt hd hR hlow hW HSV HW3 kR kR' eg hu hS hz0 Z3 FIN
      gi_wp2
      refine ⟨by simp, .inl ⟨_, _, rfl, run_takeDeferred d1, ?_⟩⟩
      refine ⟨_, ?_, d4⟩
      simp [results, Tryz.results75, go_sem, d2, d3]

end Go.Proofs.YtljcljipppjnoaaGreatDoor

namespace Go.Proofs.YtljcljipppjnoaaGreatDoor
open Go.RowKit Go.Shelf

theorem hof_any (f : Fn) (a b : Array Value) (W : World) :
    Calls Tryz.prog 76 #[.func f a b] W fun e w' => e = .returned (.func (.func 96) #[] #[.pointer (some ⟨W.heap.size, 0, none⟩)]) ∧ w' = W.alloc (.cells #[.func f a b] 145) := by
  have hmf : ∀ (fn : Fn) (first cap : Array Value) (w : World), (Instr.makeFunc fn first cap).run Tryz.prog w = .ok (.func fn first cap) w := fun _ _ _ _ => rfl
  go_enter Tryz.func76, Tryz.ntmps76
  go_wp2
  go_ret
  exact ⟨rfl, rfl⟩

theorem evq_tells {q : Gh} (hq : q.Ok) : TellsH (evq q) := by
  intro ev he
  have h1 := outText_small hq
  have hu : Utf (outText q.o).data.toList := by
    cases q.o with
    | fine s => show Utf (reg s); exact reg_utf s
    | long => exact Utf.nil
    | idle => exact Utf.nil
    | fail k => exact Utf.nil
  have h2 := events_facts (outText q.o).data.toList ev he
  have h3 := events_utf _ hu ev he
  exact ⟨h2.1.2, h2.1.1, h3, by omega⟩
theorem page_flat (l : List Ev) : (htmls l).flatten = pageS l := by
  unfold htmls pageS
  rw [List.flatMap_def]
theorem pageq_len {q : Gh} (hq : q.Ok) : (pageS (evq q)).length ≤ 68719476736 := by
  have h1 := outText_small hq
  have h2 := evq_len hq
  have h3 := page_len (evq q) 2000 (fun e he => by have := (events_facts (outText q.o).data.toList e he).2; omega)
  have : (6 * 2000 + 32) * (evq q).length ≤ (6 * 2000 + 32) * 4804 := Nat.mul_le_mul_left _ h2
  omega

/-- What a writing comes to. -/
def WrOut (aL aI aS : Addr) (q : Gh) (s : Option Ou) (bs bk : Nat) (OS OK : Nat → Prop) (W : World) (e : Ending) (w' : World) : Prop :=
  ∃ OI' OK', (∀ x, OI' x → ¬ OK' x) ∧ Fp (fun x => OS x ∨ OK x) (fun x => OI' x ∨ OK' x) W w' ∧ (∃ tx' cv' ov', SrcAt bs tx' cv' q.fa q.wt q.n ov' w') ∧ OI' bs ∧ (∀ x, OI' x → x < w'.heap.size) ∧ (∀ x, OK' x → x < w'.heap.size) ∧
    ((∃ t, q.o = .fine t) → AllEnd aS s bk (pageS (evq q)) OK' e w') ∧ ((¬ ∃ t, q.o = .fine t) → (∃ t a, e = .returned (.tuple #[.int .i64 0, .iface t (.pointer (some a))]) ∧ ErrAt aL aI q.o (.iface t (.pointer (some a))) OI' w') ∧ ∀ u, s = some u → SkAt u bk 0 0 [] OK' w')

theorem pit_own1 (aL aI : Addr) (q : Gh) (bp bs bb : Nat) (r : List Ev) : OwnS fun (_ : Unit) => PIt aL aI q bp bs bb r := ⟨fun _ => (PIt.own aL aI q bp bs bb).keep r, fun _ => (PIt.own aL aI q bp bs bb).lt r⟩
theorem pit_own2 (aL aI : Addr) (q : Gh) (bp bs bb : Nat) : OwnS fun (_ : Unit) OI W => ∃ r, PIt aL aI q bp bs bb r OI W := by
  refine ⟨?_, ?_⟩
  · rintro _ O W w' ⟨r, h⟩ hk hz
    exact ⟨r, (PIt.own aL aI q bp bs bb).keep r _ _ _ h hk hz⟩
  · rintro _ O W ⟨r, h⟩
    exact (PIt.own aL aI q bp bs bb).lt r _ _ h

/-- What is offered of a parser that has been asked. -/
theorem offers_parser {w0 : World} {aL aI : Addr} {m : Int} {aS : Addr} (B : Base w0 aL aI m) (hS : w0.cell? ⟨0, 0, none⟩ = some (sinkV aS)) {q : Gh} (hq : q.Ok) (hfine : ∃ t, q.o = .fine t) {s : Option Ou} (hu : ∀ u, s = some u → u.Ok w0) {bp bs bk : Nat} {O OK : Nat → Prop} {W : World} (hW : Below w0.heap.size w0 W) (hlow : ∀ x, O x ∨ OK x → w0.heap.size ≤ x) (hP : PaDone aL aI q bp bs (evq q) O W) (hK : ∀ u, s = some u → SkAt u bk 0 0 [] OK W) (hKlt : ∀ x, OK x → x < W.heap.size) (hd : ∀ x, O x → ¬ OK x) :
    Calls Tryz.prog 75 #[svOf s bk, .func (.func 96) #[] #[.pointer (some ⟨W.heap.size + 1, 0, none⟩)]] ((W.alloc (.cells #[.pointer (some ⟨bp, 0, none⟩)] 86)).alloc (.cells #[.func (.func 93) #[] #[.pointer (some ⟨W.heap.size, 0, none⟩)]] 145)) (WrOut aL aI aS q s bs bk O OK W) := by
  obtain ⟨W2, hW2⟩ : ∃ W2, (W.alloc (.cells #[.pointer (some ⟨bp, 0, none⟩)] 86)).alloc (.cells #[.func (.func 93) #[] #[.pointer (some ⟨W.heap.size, 0, none⟩)]] 145) = W2 := ⟨_, rfl⟩
  have b2 : Below W.heap.size W W2 := by rw [← hW2]; exact ((Below.refl _ W).alloc (Nat.le_refl _) _).alloc (by simp) _
  have z2 : W2.heap.size = W.heap.size + 2 := by rw [← hW2]; simp
  have n0 : W2.heap[W.heap.size]? = some (.cells #[.pointer (some ⟨bp, 0, none⟩)] 86 (0, 0)) := by
    rw [← hW2, Below.heap_alloc _ _ _ (by simp)]
    exact heap_new _ _ rfl
  have n1 : W2.heap[W.heap.size + 1]? = some (.cells #[.func (.func 93) #[] #[.pointer (some ⟨W.heap.size, 0, none⟩)]] 145 (0, 0)) := by
    rw [← hW2]
    exact heap_new _ _ (by simp)
  rw [hW2]
  have hz := hW.size
  have hPlt : ∀ x, O x → x < W.heap.size := PaAt.lt (st := some (evq q)) hP
  have hseq := html_seq (w0 := w0) (enters_of Tryz.func93 (by kernel_rfl) rfl) (evq_tells hq) (pit_own1 aL aI q bp bs W.heap.size (evq q)) (pit_own2 aL aI q bp bs W.heap.size) (all_seq B hq bp bs W.heap.size (evq q)) (W.heap.size + 1)
  have hb2 : Below w0.heap.size w0 W2 := hW.trans (b2.mono hz)
  have hr : With (fun (_ : Unit) => PIt aL aI q bp bs W.heap.size (evq q)) (W.heap.size + 1) (.cells #[.func (.func 93) #[] #[.pointer (some ⟨W.heap.size, 0, none⟩)]] 145 (0, 0)) () (fun x => (O x ∨ x = W.heap.size) ∨ x = W.heap.size + 1) W2 := by
    refine ⟨_, ⟨O, PaAt.keep (st := some (evq q)) hP (fun x hx => b2.block x (hPlt x hx)) b2.size, n0, fun h => ?_, fun x => Iff.rfl⟩, n1, ?_, fun x => Iff.rfl⟩
    · have := hPlt _ h; omega
    · rintro (h | h)
      · have := hPlt _ h; omega
      · omega
  have hflat : (htmls (evq q)).flatten = pageS (evq q) := page_flat _
  refine (offers_all hS hu (enters_of Tryz.func96 (by kernel_rfl) rfl) (by rw [hflat]; exact pageq_len hq) ⟨fun _ => (With.own (pit_own1 aL aI q bp bs W.heap.size (evq q)) _ _).keep (), fun _ => (With.own (pit_own1 aL aI q bp bs W.heap.size (evq q)) _ _).lt ()⟩ ⟨fun _ => (With.own (pit_own2 aL aI q bp bs W.heap.size) _ _).keep (), fun _ => (With.own (pit_own2 aL aI q bp bs W.heap.size) _ _).lt ()⟩ hseq (bk := bk) (OK := OK) hb2 ?_ hr (fun u hu' => (hK u hu').keep (fun x hx => b2.block x (hKlt x hx)) b2.size) (fun x hx => by have := hKlt x hx; omega) ?_).mono ?_
  · rintro x (((h | h) | h) | h)
    · exact hlow x (Or.inl h)
    · omega
    · omega
    · exact hlow x (Or.inr h)
  · rintro x ((h | h) | h) h1
    · exact hd x h h1
    · have := hKlt x h1; omega
    · have := hKlt x h1; omega
  · rintro e w' ⟨OI', OK', r1, r2, r3, r4⟩
    have hlt := (With.own (pit_own2 aL aI q bp bs W.heap.size) (W.heap.size + 1) (.cells #[.func (.func 93) #[] #[.pointer (some ⟨W.heap.size, 0, none⟩)]] 145 (0, 0))).lt () _ _ r1
    obtain ⟨O5, ⟨r, O6, p1, p2, p3, p4⟩, q2, q3, q4⟩ := r1
    have hsrc := (show PaDone aL aI q bp bs r O6 w' from p1).src
    have hos := (show PaDone aL aI q bp bs r O6 w' from p1).os
    rw [hflat] at r4
    refine ⟨OI', OK', r2, ⟨r3.os.trans b2.os, r3.tape.trans b2.tape, r3.output.trans b2.output, Nat.le_trans b2.size r3.size, fun x hx ho => ?_, fun x hx => ?_⟩, hsrc, (q4 bs).2 (Or.inl ((p4 bs).2 (Or.inl hos))), hlt, r4.lt, fun _ => r4, fun hn => absurd hfine hn⟩
    · refine (r3.block x (by omega) ?_).trans (b2.block x hx)
      rintro (((h | h) | h) | h)
      · exact ho (Or.inl h)
      · omega
      · omega
      · exact ho (Or.inr h)
    · rcases r3.grow x hx with (((h | h) | h) | h) | h
      · exact Or.inl (Or.inl h)
      · exact Or.inr (by omega)
      · exact Or.inr (by omega)
      · exact Or.inl (Or.inr h)
      · exact Or.inr (by omega)

set_option maxRecDepth 100000 in
set_option maxHeartbeats 2000000 in
/-- Write. -/
theorem write_any {w0 : World} {aL aI : Addr} {m : Int} {aS : Addr} (B : Base w0 aL aI m) (hS : w0.cell? ⟨0, 0, none⟩ = some (sinkV aS)) {q : Gh} (hq : q.Ok) {s : Option Ou} (hu : ∀ u, s = some u → u.Ok w0) {bs bk : Nat} {cv : Value} {OS OK : Nat → Prop} {W : World} (hW : Below w0.heap.size w0 W) (hlow : ∀ x, OS x ∨ OK x → w0.heap.size ≤ x) (s1 : SrcAt bs q.tx cv q.fa q.wt 0 false W) (s2 : CutsOK bs cv q.cs W) (s3 : ∀ g o l c, cv = .slice (some ⟨g, o, none⟩) l c → OS g) (os : OS bs) (oslt : ∀ x, OS x → x < W.heap.size) (hK : ∀ u, s = some u → SkAt u bk 0 0 [] OK W) (hKlt : ∀ x, OK x → x < W.heap.size) (hd : ∀ x, OS x → ¬ OK x) :
    Calls Tryz.prog 54 #[srcV q bs, svOf s bk] W (WrOut aL aI aS q s bs bk OS OK W) := by
  obtain ⟨W1, hW1⟩ : ∃ W1, W.alloc (.cells #[srcV q bs, .bool false, .nilIface, .slice none 0 0, .int .i64 0, .map none] 132) = W1 := ⟨_, rfl⟩
  have hz := hW.size
  have b1 : Below W.heap.size W W1 := by rw [← hW1]; exact (Below.refl _ W).alloc (Nat.le_refl _) _
  have z1 : W1.heap.size = W.heap.size + 1 := by rw [← hW1]; simp
  have n0 : W1.heap[W.heap.size]? = some (.cells #[srcV q bs, .bool false, .nilIface, .slice none 0 0, .int .i64 0, .map none] 132 (0, 0)) := by rw [← hW1]; exact heap_new _ _ rfl
  have hsv : srcV q bs = .nilIface ∨ ∃ t a, srcV q bs = .iface t (.pointer (some a)) := by
    unfold srcV
    split
    · exact Or.inr ⟨_, _, rfl⟩
    · exact Or.inl rfl
  have hbs := oslt bs os
  have fresh : PaAt aL aI q W.heap.size bs none (fun x => OS x ∨ x = W.heap.size) W1 := by
    refine (show PaFresh q W.heap.size bs _ W1 from ⟨n0, ⟨cv, (b1.block bs hbs).trans s1, ?_, fun g o l c e => ⟨Or.inl (s3 g o l c e), ?_⟩⟩, Or.inr rfl, Or.inl os, fun x hx => ?_⟩)
    · obtain ⟨g, o, cap, hcv, a1, a2, a3, a4, a5⟩ := s2
      exact ⟨g, o, cap, hcv, a1, a2, a3, by omega, fun i c hi => (b1.cell (p := ⟨g, o + i, none⟩) (oslt g (s3 g o _ _ hcv))).trans (a5 i c hi)⟩
    · have := oslt g (s3 g o l c e); omega
    · rcases hx with hx | hx
      · have := oslt x hx; omega
      · omega
  have hbW1 : Below w0.heap.size w0 W1 := hW.trans (b1.mono hz)
  have hlow1 : ∀ x, (OS x ∨ x = W.heap.size) → w0.heap.size ≤ x := by
    rintro x (h | h)
    · exact hlow x (Or.inl h)
    · omega
  have cN := new_any (srcV q bs) hsv W
  rw [hW1] at cN
  have cE := perr_any B hq hbW1 hlow1 fresh
  have hdK : ∀ x, (OS x ∨ x = W.heap.size) → ¬ OK x := by
    rintro x (h | h) h1
    · exact hd x h h1
    · have := hKlt x h1; omega
  have hK1 : ∀ u, s = some u → SkAt u bk 0 0 [] OK W1 := fun u hu' => (hK u hu').keep (fun x hx => b1.block x (hKlt x hx)) b1.size
  have hsk := svOf_ie s bk
  obtain ⟨v1, hv1⟩ : ∃ v1, srcV q bs = v1 := ⟨_, rfl⟩
  obtain ⟨v2, hv2⟩ : ∃ v2, svOf s bk = v2 := ⟨_, rfl⟩
  by_cases hfine : ∃ t, q.o = .fine t
  · have cE2 : Calls Tryz.prog 50 #[.pointer (some ⟨W.heap.size, 0, none⟩)] W1 fun e w' => e = .returned .nilIface ∧ Hid (∃ O', PaDone aL aI q W.heap.size bs (evq q) O' w' ∧ Fp (fun x => OS x ∨ x = W.heap.size) O' W1 w') := by
      refine cE.mono ?_
      rintro e w' ⟨O', v, rfl, e1, e2, e3⟩
      obtain ⟨t, ht⟩ := hfine
      rw [ht] at e1
      have e1 : v = .nilIface := e1
      exact ⟨by rw [e1], O', e2, e3⟩
    have cA : ∀ w2, (∃ O', PaDone aL aI q W.heap.size bs (evq q) O' w2 ∧ Fp (fun x => OS x ∨ x = W.heap.size) O' W1 w2) → Calls Tryz.prog 75 #[v2, .func (.func 96) #[] #[.pointer (some ⟨w2.heap.size + 1, 0, none⟩)]] ((w2.alloc (.cells #[.pointer (some ⟨W.heap.size, 0, none⟩)] 86)).alloc (.cells #[.func (.func 93) #[] #[.pointer (some ⟨w2.heap.size, 0, none⟩)]] 145)) fun e w' => ∃ n t, e = .returned (.tuple #[.int .i64 n, t]) ∧ Hid (WrOut aL aI aS q s bs bk OS OK W (.returned (.tuple #[.int .i64 n, t])) w') := by
      rintro w2 ⟨O', hP, hf⟩
      have h1 := hf.size
      have hz1 : w0.heap.size ≤ W1.heap.size := hbW1.size
      rw [← hv2]
      refine (offers_parser B hS hq hfine hu (hbW1.trans (hf.under hz1 hlow1)) (O := O') (OK := OK) ?_ hP (fun u hu' => (hK1 u hu').keep (hf.other hdK (fun x hx => by have := hKlt x hx; omega)) hf.size) (fun x hx => by have := hKlt x hx; omega) (hf.apart hdK (fun x hx => by have := hKlt x hx; omega))).mono ?_
      · rintro x (h | h)
        · exact hf.low hz1 hlow1 x h
        · exact hlow x (Or.inr h)
      · rintro e w' ⟨OI', OK', r1, r2, r3, r4, r5, r6, r7, r8⟩
        have hend := r7 hfine
        have hform : ∃ (n : Int) (t : Value), e = .returned (.tuple #[.int .i64 n, t]) := by
          rcases hend with ⟨_, _, _, _, _, h, _⟩ | ⟨_, _, _, _, _, _, _, h, _⟩
          · exact ⟨_, _, h⟩
          · exact ⟨_, _, h⟩
        obtain ⟨n, t, rfl⟩ := hform
        refine ⟨n, t, rfl, OI', OK', r1, ⟨r2.os.trans (hf.os.trans b1.os), r2.tape.trans (hf.tape.trans b1.tape), r2.output.trans (hf.output.trans b1.output), by have := r2.size; omega, fun x hx ho => ?_, fun x hx => ?_⟩, r3, r4, r5, r6, r7, r8⟩
        · have n1 : ¬ (OS x ∨ x = W.heap.size) := by
            rintro (h | h)
            · exact ho (Or.inl h)
            · omega
          have n2 : ¬ (O' x ∨ OK x) := by
            rintro (h | h)
            · rcases hf.grow x h with h | h
              · exact n1 h
              · omega
            · exact ho (Or.inr h)
          exact (r2.block x (by omega) n2).trans ((hf.block x (by omega) n1).trans (b1.block x hx))
        · rcases r2.grow x hx with (h | h) | h
          · rcases hf.grow x h with (h | h) | h
            · exact Or.inl (Or.inl h)
            · exact Or.inr (by omega)
            · exact Or.inr (by omega)
          · exact Or.inl (Or.inr h)
          · exact Or.inr (by omega)
    have cP := fun (w : World) => pall_any W.heap.size w
    have cH := fun (w : World) => hof_any (.func 93) #[] #[.pointer (some ⟨w.heap.size, 0, none⟩)] (w.alloc (.cells #[.pointer (some ⟨W.heap.size, 0, none⟩)] 86))
    have CA : Hid _ := cA
    rw [hv1] at cN hsv ⊢
    rw [hv2] at hsk ⊢
    clear cE cA fresh hbW1 hlow1 hdK hK1 hfine n0 b1 z1 hW1 s1 s2 s3 os oslt hK hKlt hd hlow hW B hS hq hu hbs hv1 hv2
    go_enter Tryz.func54, Tryz.ntmps54
    go_wp2_with (first
      | (go_at_call 46; refine cN.mono ?_; rintro e w1 ⟨rfl, hw⟩; rw [hw]; clear hw)
      | (go_at_call 50; refine cE2.mono ?_; rintro e w2 ⟨rfl, HD⟩)
      | (go_at_call 71; refine (cP _).mono ?_; rintro e w3 ⟨rfl, hw⟩; rw [hw]; clear hw)
      | (go_at_call 76; refine (cH _).mono ?_; rintro e w4 ⟨rfl, hw⟩; rw [hw]; clear hw)
      | (go_at_call 75; refine (CA.out w2 HD.out).mono ?_; rintro e w5 ⟨n, t, rfl, HF⟩))
    go_ret2
    exact HF.out
  · have cE2 : Calls Tryz.prog 50 #[.pointer (some ⟨W.heap.size, 0, none⟩)] W1 fun e w' => ∃ t a, e = .returned (.iface t (.pointer (some a))) ∧ Hid (WrOut aL aI aS q s bs bk OS OK W (.returned (.tuple #[.int .i64 0, .iface t (.pointer (some a))])) w') := by
      refine cE.mono ?_
      rintro e w' ⟨O', v, rfl, e1, e2, hf⟩
      have hform : ∃ t a, v = .iface t (.pointer (some a)) := by
        rcases e1.forms with h | h
        · exfalso
          rw [h] at e1
          cases ho : q.o with
          | fine t => exact hfine ⟨t, ho⟩
          | long => rw [ho] at e1; cases e1
          | idle => rw [ho] at e1; cases e1
          | fail k =>
            rw [ho] at e1
            obtain ⟨gE, gO, h1, _⟩ := e1
            cases h1
        · exact h
      obtain ⟨t, a, rfl⟩ := hform
      have h1 := hf.size
      have hPlt : ∀ x, O' x → x < w'.heap.size := PaAt.lt (st := some (leftOf q none)) e2
      refine ⟨t, a, rfl, O', OK, hf.apart hdK (fun x hx => by have := hKlt x hx; omega), ⟨hf.os.trans b1.os, hf.tape.trans b1.tape, hf.output.trans b1.output, by omega, fun x hx ho => ?_, fun x hx => ?_⟩, e2.src, e2.os, hPlt, fun x hx => by have := hKlt x hx; omega, fun hn => absurd hn hfine, fun _ => ⟨⟨t, a, rfl, e1⟩, fun u hu' => (hK1 u hu').keep (hf.other hdK (fun x hx => by have := hKlt x hx; omega)) hf.size⟩⟩
      · refine (hf.block x (by omega) ?_).trans (b1.block x hx)
        rintro (h | h)
        · exact ho (Or.inl h)
        · omega
      · rcases hx with hx | hx
        · rcases hf.grow x hx with (h | h) | h
          · exact Or.inl (Or.inl h)
          · exact Or.inr (by omega)
          · exact Or.inr (by omega)
        · exact Or.inl (Or.inr hx)
    rw [hv1] at cN hsv ⊢
    rw [hv2] at hsk ⊢
    clear cE fresh hbW1 hlow1 hdK hK1 hfine n0 b1 z1 hW1 s1 s2 s3 os oslt hK hKlt hd hlow hW B hS hq hu hbs hv1 hv2
    go_enter Tryz.func54, Tryz.ntmps54
    go_wp2_with (first
      | (go_at_call 46; refine cN.mono ?_; rintro e w1 ⟨rfl, hw⟩; rw [hw]; clear hw)
      | (go_at_call 50; refine cE2.mono ?_; rintro e w2 ⟨t, a, rfl, HF⟩))
    go_ret2
    exact HF.out

end Go.Proofs.YtljcljipppjnoaaGreatDoor
