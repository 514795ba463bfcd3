import Derived.Test.YtljcljipppjnoabGreatDoorJL06
import Derived.Test.YtljcljipppjnoabGreatDoorJL12
import Derived.Test.YtljcljipppjnoabGreatDoorJL22
import Derived.Test.YtljcljipppjnoabGreatDoorJL28
import Derived.Test.YtljcljipppjnoabGreatDoorJL33
import Derived.Test.YtljcljipppjnoabGreatDoorJL37
import Derived.Test.YtljcljipppjnoabGreatDoorJL39
import Derived.Test.YtljcljipppjnoabGreatDoorJL43
import Derived.Test.YtljcljipppjnoabGreatDoorJL44
import Derived.Test.YtljcljipppjnoabGreatDoorJL45
import Derived.Laws.IdiomStrings
import Derived.Shelf.Bytes.SlSmallAll
import Derived.Deep.RegionHeld3
import Derived.Deep.CutBlock
import Derived.Deep.DeepCutAuto
namespace Go.Proofs.YtljcljipppjnoabGreatDoor
open Go.RowKit Go.Shelf
def RunSt (s : Option Ou) (bk bo : Nat) (page : List UInt8) (ps pre : List (List UInt8)) (O : Nat → Prop) (W : World) : Prop :=
  ∃ of tk mo got left, RunAt s bk bo page of tk mo got left (ps.drop pre.length).flatten O W
theorem RunSt.own (s : Option Ou) (bk bo : Nat) (page : List UInt8) (ps : List (List UInt8)) : OwnS (RunSt s bk bo page ps) := by
  refine ⟨?_, ?_⟩
  · rintro pre O W w' ⟨of, tk, mo, got, left, h⟩ hk hz
    exact ⟨of, tk, mo, got, left, h.keep hk hz⟩
  · rintro pre O W ⟨of, tk, mo, got, left, h⟩
    exact h.lt
def FailSt (aS : Addr) (s : Option Ou) (bk br bq : Nat) (page : List UInt8) (_pre : List (List UInt8)) (O : Nat → Prop) (W : World) : Prop :=
  ∃ (O1 : Nat → Prop) (t : TypeId) (x : Value) (u : Ou) (of N mo : Nat) (got : List UInt8), s = some u ∧ FailS aS u bk page of N mo got (.iface t x) O1 W ∧ W.heap[br]? = some (.cells #[.int .i64 N] 3 (0, 0)) ∧ W.heap[bq]? = some (.cells #[.iface t x] 41 (0, 0)) ∧ ¬ O1 br ∧ ¬ O1 bq ∧ ∀ y, O y ↔ (O1 y ∨ y = br ∨ y = bq)
theorem FailSt.own (aS : Addr) (s : Option Ou) (bk br bq : Nat) (page : List UInt8) : OwnS (FailSt aS s bk br bq page) := by
  refine ⟨?_, ?_⟩
  · rintro pre O W w' ⟨O1, t, x, u, of, N, mo, got, h1, h2, h3, h4, h5, h6, h7⟩ hk hz
    exact ⟨O1, t, x, u, of, N, mo, got, h1, h2.keep (fun y hy => hk y ((h7 y).2 (Or.inl hy))) hz, (hk br ((h7 br).2 (Or.inr (Or.inl rfl)))).trans h3, (hk bq ((h7 bq).2 (Or.inr (Or.inr rfl)))).trans h4, h5, h6, h7⟩
  · rintro pre O W ⟨O1, t, x, u, of, N, mo, got, h1, h2, h3, h4, h5, h6, h7⟩ y hy
    rcases (h7 y).1 hy with h | rfl | rfl
    · exact h2.lt y h
    · exact (Array.getElem?_eq_some_iff.1 h3).1
    · exact (Array.getElem?_eq_some_iff.1 h4).1
def Framed {α : Type} (I : List α → (Nat → Prop) → World → Prop) (tm : α → Array Value) (s : List α × α × Act) (O : Nat → Prop) (W : World) : Prop := s.2.2 = { tmps := tm s.2.1, defers := [] } ∧ I s.1 O W
theorem Framed.own {α : Type} {I : List α → (Nat → Prop) → World → Prop} (kI : OwnS I) (tm : α → Array Value) : OwnS (Framed I tm) := by
  refine ⟨?_, ?_⟩
  · rintro s O W w' ⟨e, h⟩ hk hz
    exact ⟨e, kI.keep _ _ _ _ h hk hz⟩
  · rintro s O W ⟨e, h⟩
    exact kI.lt _ _ _ h
def AllEnd (aS : Addr) (s : Option Ou) (bk : Nat) (page : List UInt8) (OK : Nat → Prop) (e : Ending) (W : World) : Prop :=
  (∃ bo of tk mo got, e = .returned (.tuple #[.int .i64 (tk : Nat), .nilIface]) ∧ RunAt s bk bo page of tk mo got [] [] OK W) ∨
  (∃ (t : TypeId) (x : Value) (u : Ou) (of N mo : Nat) (got : List UInt8), e = .returned (.tuple #[.int .i64 N, .iface t x]) ∧ s = some u ∧ FailS aS u bk page of N mo got (.iface t x) OK W)
def AllOut (aS : Addr) (s : Option Ou) (bk : Nat) (page : List UInt8) (R' : (Nat → Prop) → World → Prop) (OI OK : Nat → Prop) (W : World) (e : Ending) (w' : World) : Prop :=
  ∃ OI' OK', R' OI' w' ∧ (∀ x, OI' x → ¬ OK' x) ∧ Fp (fun x => OI x ∨ OK x) (fun x => OI' x ∨ OK' x) W w' ∧ AllEnd aS s bk page OK' e w'
theorem RunAt.piece {s : Option Ou} {bk bo : Nat} {page : List UInt8} {of tk mo : Nat} {got left p rest : List UInt8} {O : Nat → Prop} {W : World} (h : RunAt s bk bo page of tk mo got left (p ++ rest) O W) : RunAt s bk bo page of tk mo got (left ++ p) rest O (W.setCell ⟨bo, 1, none⟩ (.string ⟨(left ++ p).toArray⟩)) := by
  have e1 := Joins.block_setCell (i := 1) h.box (.string ⟨(left ++ p).toArray⟩)
  refine ⟨by simpa using e1, h.ob, fun u hu => ?_, h.run.piece, h.mo, fun x hx => by have := h.lt x hx; simpa using this⟩
  obtain ⟨O1, s1, s2, s3⟩ := h.snk u hu
  exact ⟨O1, s1.keep (fun x hx => Below.heap_setCell _ _ _ _ (fun e => s3 (by have e : x = bo := e; rw [← e]; exact hx))) (by simp), s2, s3⟩
abbrev obInt : Obj := .cells #[.int .i64 0] 3 (0, 0)
abbrev obErr : Obj := .cells #[.nilIface] 41 (0, 0)
def AllSt (s : Option Ou) (bk br bq bo : Nat) (page : List UInt8) (ps : List (List UInt8)) : List (List UInt8) → (Nat → Prop) → World → Prop := With (With (RunSt s bk bo page ps) br obInt) bq obErr
theorem AllSt.own (s : Option Ou) (bk br bq bo : Nat) (page : List UInt8) (ps : List (List UInt8)) : OwnS (AllSt s bk br bq bo page ps) := With.own (With.own (RunSt.own s bk bo page ps) br obInt) bq obErr
theorem all_round {w0 : World} {aS : Addr} (hS : w0.cell? ⟨0, 0, none⟩ = some (sinkV aS)) {s : Option Ou} (hu : ∀ u, s = some u → u.Ok w0) {bk br bq bo : Nat} {ps : List (List UInt8)} (hps : ps.flatten.length ≤ 68719476736) (hne : br ≠ bq ∧ br ≠ bo ∧ bq ≠ bo) {pre rest : List (List UInt8)} {p : List UInt8} {O : Nat → Prop} {W : World} (hx : pre ++ p :: rest = ps) (hb : Below w0.heap.size w0 W) (hlo : ∀ y, O y → w0.heap.size ≤ y) (h : AllSt s bk br bq bo ps.flatten ps pre O W) :
    ∃ left : List UInt8, (left.length ≤ 68719476736 ∧ p.length ≤ 68719476736) ∧ W.cell? ⟨bo, 1, none⟩ = some (.string ⟨left.toArray⟩) ∧ W.frozen? ⟨bo, 1, none⟩ = false ∧
      Calls Tryz.prog 17 #[.pointer (some ⟨bo, 0, none⟩), .int .i64 16] (W.setCell ⟨bo, 1, none⟩ (.string ⟨(left ++ p).toArray⟩)) fun e w' =>
        (e = .returned .nilIface ∧ Hid (∃ O', Fp O O' W w' ∧ AllSt s bk br bq bo ps.flatten ps (pre ++ [p]) O' w')) ∨
        (∃ (t : TypeId) (x : Value) (N : Nat), e = .returned (.iface t x) ∧ w'.cell? ⟨bo, 2, none⟩ = some (.int .i64 N) ∧ w'.cell? ⟨br, 0, none⟩ = some (.int .i64 0) ∧ w'.frozen? ⟨br, 0, none⟩ = false ∧ w'.cell? ⟨bq, 0, none⟩ = some .nilIface ∧ w'.frozen? ⟨bq, 0, none⟩ = false ∧ Hid (∃ O', Fp O O' W ((w'.setCell ⟨br, 0, none⟩ (.int .i64 N)).setCell ⟨bq, 0, none⟩ (.iface t x)) ∧ FailSt aS s bk br bq ps.flatten (pre ++ [p]) O' ((w'.setCell ⟨br, 0, none⟩ (.int .i64 N)).setCell ⟨bq, 0, none⟩ (.iface t x)))) := by
  obtain ⟨O2, ⟨O3, ⟨of, tk, mo, got, left, hr⟩, k2, k3, k4⟩, m2, m3, m4⟩ := h
  have hrest : (ps.drop pre.length).flatten = p ++ (ps.drop (pre ++ [p]).length).flatten := by
    rw [← hx]
    simp
  rw [hrest] at hr
  have hsum := hr.run.sum
  rw [List.length_append] at hsum
  have hloO3 : ∀ y, O3 y → w0.heap.size ≤ y := fun y hy => hlo y ((m4 y).2 (Or.inl ((k4 y).2 (Or.inl hy))))
  have hz := hb.size
  have hbo := hr.lt bo hr.ob
  have hbr := (Array.getElem?_eq_some_iff.1 k2).1
  have hbq := (Array.getElem?_eq_some_iff.1 m2).1
  have nbq3 : ¬ O3 bq := fun h => m3 ((k4 bq).2 (Or.inl h))
  have r2 := hr.piece
  obtain ⟨W1, hW1⟩ : ∃ W1, W.setCell ⟨bo, 1, none⟩ (.string ⟨(left ++ p).toArray⟩) = W1 := ⟨_, rfl⟩
  have z1 : W1.heap.size = W.heap.size := by rw [← hW1]; simp
  have o1 : ∀ y, y ≠ bo → W1.heap[y]? = W.heap[y]? := fun y hy => by rw [← hW1]; exact Below.heap_setCell _ _ _ _ hy
  have f1 : W1.os = W.os ∧ W1.tape = W.tape ∧ W1.output = W.output := by rw [← hW1]; exact ⟨rfl, rfl, rfl⟩
  rw [hW1] at r2
  have lob := hloO3 bo hr.ob
  have b1 : Below w0.heap.size w0 W1 := hb.trans ⟨f1.1, f1.2.1, f1.2.2, by omega, fun y hy => o1 y (by omega)⟩
  refine ⟨left, ⟨by omega, by omega⟩, row_cell (i := 1) hr.box rfl, row_free (i := 1) hr.box, ?_⟩
  rw [hW1]
  refine (while_any hS hu hps r2 b1 hloO3 16 (by omega) (by omega)).mono ?_
  rintro e w' ⟨O', hf, hc⟩
  have z2 := hf.size
  have fpW : ∀ y, y < W.heap.size → ¬ O3 y → w'.heap[y]? = W.heap[y]? := fun y hy ho => (hf.block y (by omega) ho).trans (o1 y (fun e => ho (e ▸ hr.ob)))
  have hgrow : ∀ y, O' y → O3 y ∨ W.heap.size ≤ y := fun y hy => (hf.grow y hy).imp id (fun h => by omega)
  have br' := (fpW br hbr k3).trans k2
  have bq' := (fpW bq hbq nbq3).trans m2
  have nbr : ¬ O' br := fun h => by
    rcases hgrow br h with h | h
    · exact k3 h
    · omega
  have nbq : ¬ O' bq := fun h => by
    rcases hgrow bq h with h | h
    · exact nbq3 h
    · omega
  have gr3 : ∀ y, O3 y → O y := fun y hy => (m4 y).2 (Or.inl ((k4 y).2 (Or.inl hy)))
  have obr : O br := (m4 br).2 (Or.inl ((k4 br).2 (Or.inr rfl)))
  have obq : O bq := (m4 bq).2 (Or.inr rfl)
  rcases hc with ⟨rfl, of', tk', mo', got', left', r3, _⟩ | ⟨ev, u, of', N, mo', got', left', rfl, ⟨t, x, rfl⟩, hsu, _, hb3, ob3, hF⟩
  · refine Or.inl ⟨rfl, fun y => (O' y ∨ y = br) ∨ y = bq, ⟨hf.os.trans f1.1, hf.tape.trans f1.2.1, hf.output.trans f1.2.2, by omega, fun y hy ho => fpW y hy fun h => ho (gr3 y h), fun y hy => ?_⟩, fun y => O' y ∨ y = br, ⟨O', ⟨of', tk', mo', got', left', r3⟩, br', nbr, fun y => Iff.rfl⟩, bq', ?_, fun y => Iff.rfl⟩
    · rcases hy with (hy | rfl) | rfl
      · exact (hgrow y hy).imp (gr3 y) id
      · exact Or.inl obr
      · exact Or.inl obq
    · rintro (h | h)
      · exact nbq h
      · exact hne.1 h.symm
  · refine Or.inr ⟨t, x, N, rfl, row_cell (i := 2) hb3 rfl, cell_of_one br', row_free (i := 0) br', cell_of_one bq', row_free (i := 0) bq', fun y => O' y ∨ y = br ∨ y = bq, ⟨hf.os.trans f1.1, hf.tape.trans f1.2.1, hf.output.trans f1.2.2, by simp; omega, fun y hy ho => ?_, fun y hy => ?_⟩, O', t, x, u, of', N, mo', got', hsu, hF.keep (fun y hy => ?_) (by simp), ?_, ?_, nbr, nbq, fun y => Iff.rfl⟩
    · rw [Below.heap_setCell _ _ _ _ (fun e => ho (by rw [e]; exact obq)), Below.heap_setCell _ _ _ _ (fun e => ho (by rw [e]; exact obr))]
      exact fpW y hy fun h => ho (gr3 y h)
    · rcases hy with hy | rfl | rfl
      · exact (hgrow y hy).imp (gr3 y) id
      · exact Or.inl obr
      · exact Or.inl obq
    · rw [Below.heap_setCell _ _ _ _ (fun e => nbq (by have e : y = bq := e; rw [← e]; exact hy)), Below.heap_setCell _ _ _ _ (fun e => nbr (by have e : y = br := e; rw [← e]; exact hy))]
    · rw [Below.heap_setCell _ _ _ _ hne.1]
      exact set_row (cur := #[.int .i64 0]) br'
    · refine set_row (cur := #[.nilIface]) ?_
      rw [Below.heap_setCell _ _ _ _ (Ne.symm hne.1)]
      exact bq'
theorem AllEnd.keep {aS : Addr} {s : Option Ou} {bk : Nat} {page : List UInt8} {OK : Nat → Prop} {e : Ending} {W w' : World} (h : AllEnd aS s bk page OK e W) (hk : ∀ x, OK x → w'.heap[x]? = W.heap[x]?) (hz : W.heap.size ≤ w'.heap.size) : AllEnd aS s bk page OK e w' := by
  rcases h with ⟨bo, of, tk, mo, got, h1, h2⟩ | ⟨t, x, u, of, N, mo, got, h1, h2, h3⟩
  · exact Or.inl ⟨bo, of, tk, mo, got, h1, h2.keep hk hz⟩
  · exact Or.inr ⟨t, x, u, of, N, mo, got, h1, h2, h3.keep hk hz⟩
theorem AllEnd.lt {aS : Addr} {s : Option Ou} {bk : Nat} {page : List UInt8} {OK : Nat → Prop} {e : Ending} {W : World} (h : AllEnd aS s bk page OK e W) : ∀ x, OK x → x < W.heap.size := by
  rcases h with ⟨bo, of, tk, mo, got, h1, h2⟩ | ⟨t, x, u, of, N, mo, got, h1, h2, h3⟩
  · exact h2.lt
  · exact h3.lt
theorem all_last {w0 : World} {aS : Addr} (hS : w0.cell? ⟨0, 0, none⟩ = some (sinkV aS)) {s : Option Ou} (hu : ∀ u, s = some u → u.Ok w0) {bk br bq bo : Nat} {ps : List (List UInt8)} (hps : ps.flatten.length ≤ 68719476736) (hne : br ≠ bq ∧ br ≠ bo ∧ bq ≠ bo) {O : Nat → Prop} {W : World} (hb : Below w0.heap.size w0 W) (hlo : ∀ y, O y → w0.heap.size ≤ y) (h : AllSt s bk br bq bo ps.flatten ps ps O W) :
    Calls Tryz.prog 17 #[.pointer (some ⟨bo, 0, none⟩), .int .i64 1] W fun e w' =>
      ∃ (ev : Value) (N : Nat), e = .returned ev ∧ Hid (ev = .nilIface ∨ ∃ t x, ev = .iface t x) ∧ w'.cell? ⟨bo, 2, none⟩ = some (.int .i64 N) ∧ w'.cell? ⟨br, 0, none⟩ = some (.int .i64 0) ∧ w'.frozen? ⟨br, 0, none⟩ = false ∧ w'.cell? ⟨bq, 0, none⟩ = some .nilIface ∧ w'.frozen? ⟨bq, 0, none⟩ = false ∧
        Hid (∃ OE, Fp O OE W ((w'.setCell ⟨br, 0, none⟩ (.int .i64 N)).setCell ⟨bq, 0, none⟩ ev) ∧ AllEnd aS s bk ps.flatten OE (.returned (.tuple #[.int .i64 N, ev])) ((w'.setCell ⟨br, 0, none⟩ (.int .i64 N)).setCell ⟨bq, 0, none⟩ ev) ∧ ((w'.setCell ⟨br, 0, none⟩ (.int .i64 N)).setCell ⟨bq, 0, none⟩ ev).heap[br]? = some (.cells #[.int .i64 N] 3 (0, 0)) ∧ ((w'.setCell ⟨br, 0, none⟩ (.int .i64 N)).setCell ⟨bq, 0, none⟩ ev).heap[bq]? = some (.cells #[ev] 41 (0, 0))) := by
  obtain ⟨O2, ⟨O3, ⟨of, tk, mo, got, left, hr⟩, k2, k3, k4⟩, m2, m3, m4⟩ := h
  rw [List.drop_length] at hr
  have hloO3 : ∀ y, O3 y → w0.heap.size ≤ y := fun y hy => hlo y ((m4 y).2 (Or.inl ((k4 y).2 (Or.inl hy))))
  have hbr := (Array.getElem?_eq_some_iff.1 k2).1
  have hbq := (Array.getElem?_eq_some_iff.1 m2).1
  have nbq3 : ¬ O3 bq := fun h => m3 ((k4 bq).2 (Or.inl h))
  refine (while_any hS hu hps hr hb hloO3 1 (by omega) (by omega)).mono ?_
  rintro e w' ⟨O', hf, hc⟩
  have z2 := hf.size
  have br' := (hf.block br hbr k3).trans k2
  have bq' := (hf.block bq hbq nbq3).trans m2
  have nbr : ¬ O' br := fun h => by
    rcases hf.grow br h with h | h
    · exact k3 h
    · omega
  have nbq : ¬ O' bq := fun h => by
    rcases hf.grow bq h with h | h
    · exact nbq3 h
    · omega
  have gr3 : ∀ y, O3 y → O y := fun y hy => (m4 y).2 (Or.inl ((k4 y).2 (Or.inl hy)))
  have obr : O br := (m4 br).2 (Or.inl ((k4 br).2 (Or.inr rfl)))
  have obq : O bq := (m4 bq).2 (Or.inr rfl)
  have fin : ∀ (ev : Value) (N : Nat), (ev = .nilIface ∨ ∃ t x, ev = .iface t x) → e = .returned ev → w'.cell? ⟨bo, 2, none⟩ = some (.int .i64 N) → AllEnd aS s bk ps.flatten O' (.returned (.tuple #[.int .i64 N, ev])) w' → ∃ (ev : Value) (N : Nat), e = .returned ev ∧ Hid (ev = .nilIface ∨ ∃ t x, ev = .iface t x) ∧ w'.cell? ⟨bo, 2, none⟩ = some (.int .i64 N) ∧ w'.cell? ⟨br, 0, none⟩ = some (.int .i64 0) ∧ w'.frozen? ⟨br, 0, none⟩ = false ∧ w'.cell? ⟨bq, 0, none⟩ = some .nilIface ∧ w'.frozen? ⟨bq, 0, none⟩ = false ∧
        Hid (∃ OE, Fp O OE W ((w'.setCell ⟨br, 0, none⟩ (.int .i64 N)).setCell ⟨bq, 0, none⟩ ev) ∧ AllEnd aS s bk ps.flatten OE (.returned (.tuple #[.int .i64 N, ev])) ((w'.setCell ⟨br, 0, none⟩ (.int .i64 N)).setCell ⟨bq, 0, none⟩ ev) ∧ ((w'.setCell ⟨br, 0, none⟩ (.int .i64 N)).setCell ⟨bq, 0, none⟩ ev).heap[br]? = some (.cells #[.int .i64 N] 3 (0, 0)) ∧ ((w'.setCell ⟨br, 0, none⟩ (.int .i64 N)).setCell ⟨bq, 0, none⟩ ev).heap[bq]? = some (.cells #[ev] 41 (0, 0))) := by
    intro ev N h1 h2 h3 h4
    refine ⟨ev, N, h2, h1, h3, cell_of_one br', row_free (i := 0) br', cell_of_one bq', row_free (i := 0) bq', O', ⟨hf.os, hf.tape, hf.output, by simp; omega, fun y hy ho => ?_, fun y hy => (hf.grow y hy).imp (gr3 y) id⟩, h4.keep (fun y hy => ?_) (by simp), ?_, ?_⟩
    · rw [Below.heap_setCell _ _ _ _ (fun e => ho (by rw [e]; exact obq)), Below.heap_setCell _ _ _ _ (fun e => ho (by rw [e]; exact obr))]
      exact hf.block y hy fun h => ho (gr3 y h)
    · rw [Below.heap_setCell _ _ _ _ (fun e => nbq (by have e : y = bq := e; rw [← e]; exact hy)), Below.heap_setCell _ _ _ _ (fun e => nbr (by have e : y = br := e; rw [← e]; exact hy))]
    · rw [Below.heap_setCell _ _ _ _ hne.1]
      exact set_row (cur := #[.int .i64 0]) br'
    · refine set_row (cur := #[.nilIface]) ?_
      rw [Below.heap_setCell _ _ _ _ (Ne.symm hne.1)]
      exact bq'
  rcases hc with ⟨rfl, of', tk', mo', got', left', r3, hl⟩ | ⟨ev, u, of', N, mo', got', left', rfl, ⟨t, x, rfl⟩, hsu, _, hb3, ob3, hF⟩
  · have hl0 : left' = [] := List.eq_nil_of_length_eq_zero (by have hl : left'.length < 1 := hl; omega)
    subst hl0
    exact fin .nilIface tk' (Or.inl rfl) rfl (row_cell (i := 2) r3.box rfl) (Or.inl ⟨bo, of', tk', mo', got', rfl, r3⟩)
  · exact fin (.iface t x) N (Or.inr ⟨t, x, rfl⟩) rfl (row_cell (i := 2) hb3 rfl) (Or.inr ⟨t, x, u, of', N, mo', got', rfl, hsu, hF⟩)
set_option maxRecDepth 100000 in
set_option maxHeartbeats 4000000 in
theorem offers_all {w0 : World} {aS : Addr} (hS : w0.cell? ⟨0, 0, none⟩ = some (sinkV aS)) {s : Option Ou} (hu : ∀ u, s = some u → u.Ok w0) {gf : Nat} {lb : Array Value} (eg : ∀ args w, (callFunc gf args).run Tryz.prog w = .ok (.enter gf args) w) {ps : List (List UInt8)} (hps : ps.flatten.length ≤ 68719476736)
    {R R' : (Nat → Prop) → World → Prop} (kR : OwnS fun (_ : Unit) => R) (kR' : OwnS fun (_ : Unit) => R') (hseq : SeqF Tryz.prog w0 gf lb (fun p : List UInt8 => #[.string ⟨p.toArray⟩]) ps R R') {bk : Nat} {OI OK : Nat → Prop} {W : World} (hW : Below w0.heap.size w0 W) (hlow : ∀ x, OI x ∨ OK x → w0.heap.size ≤ x) (hR : R OI W) (hK : ∀ u, s = some u → SkAt u bk 0 0 [] OK W) (hKlt : ∀ x, OK x → x < W.heap.size) (hd : ∀ x, OI x → ¬ OK x) :
    Calls Tryz.prog 11 #[svOf s bk, .func (.func gf) #[] lb] W (AllOut aS s bk ps.flatten R' OI OK W) := by
  refine (callsIn_wide (n := 3)).1 ?_
  refine callsIn_of_wp_marks Tryz.func11 rfl trivial ?_
  simp only [Tryz.ntmps11, List.size_toArray, List.length_cons, List.length_nil, Nat.reduceAdd, Nat.reduceSub, Array.replicate_succ, Array.replicate_zero, List.push_toArray, List.append_toArray, List.nil_append, List.cons_append]
  have hsv := svOf_ie s bk
  obtain ⟨sv, hsve⟩ : ∃ sv, svOf s bk = sv := ⟨_, rfl⟩
  rw [hsve] at hsv ⊢
  have HSV : Hid (svOf s bk = sv) := hsve
  clear hsve
  have kA := AllSt.own s bk W.heap.size (W.heap.size + 1) (W.heap.size + 1 + 1) ps.flatten ps
  have kF := FailSt.own aS s bk W.heap.size (W.heap.size + 1) ps.flatten
  have hz0 := hW.size
  have hRlt := kR.lt () _ _ hR
  obtain ⟨W3, hW3⟩ : ∃ W3, ((W.alloc (.cells #[.int .i64 0] 3)).alloc (.cells #[.nilIface] 41)).alloc (.cells #[sv, .string ⟨#[]⟩, .int .i64 0] 79) = W3 := ⟨_, rfl⟩
  have b3 : Below W.heap.size W W3 := by rw [← hW3]; exact (((Below.refl _ W).alloc (Nat.le_refl _) _).alloc (by simp) _).alloc (by simp; omega) _
  have z3 : W3.heap.size = W.heap.size + 3 := by rw [← hW3]; simp
  have n0 : W3.heap[W.heap.size]? = some obInt := by
    rw [← hW3, Below.heap_alloc _ _ _ (by simp; omega), Below.heap_alloc _ _ _ (by simp)]
    exact heap_new _ _ rfl
  have n1 : W3.heap[W.heap.size + 1]? = some obErr := by
    rw [← hW3, Below.heap_alloc _ _ _ (by simp)]
    exact heap_new _ _ (by simp)
  have n2 : W3.heap[W.heap.size + 1 + 1]? = some (.cells #[sv, .string ⟨#[]⟩, .int .i64 0] 79 (0, 0)) := by
    rw [← hW3]
    exact heap_new _ _ (by simp)
  have hbW3 : Below w0.heap.size w0 W3 := hW.trans (b3.mono hz0)
  have run0 : RunAt s bk (W.heap.size + 1 + 1) ps.flatten 0 0 0 [] [] (ps.drop ([] : List (List UInt8)).length).flatten (fun x => OK x ∨ x = W.heap.size + 1 + 1) W3 := by
    refine ⟨by rw [HSV.out]; exact n2, Or.inr rfl, fun u hu' => ⟨OK, (hK u hu').keep (fun x hx => b3.block x (hKlt x hx)) b3.size, fun x hx => Or.inl hx, fun h => by have := hKlt _ h; omega⟩, Run.start _ _ _ _ _, Nat.zero_le _, fun x hx => ?_⟩
    rcases hx with hx | rfl
    · have := hKlt x hx; omega
    · omega
  have st0 : AllSt s bk W.heap.size (W.heap.size + 1) (W.heap.size + 1 + 1) ps.flatten ps [] (fun x => ((OK x ∨ x = W.heap.size + 1 + 1) ∨ x = W.heap.size) ∨ x = W.heap.size + 1) W3 := by
    refine ⟨_, ⟨_, ⟨0, 0, 0, [], [], run0⟩, n0, ?_, fun x => Iff.rfl⟩, n1, ?_, fun x => Iff.rfl⟩
    · rintro (h | h)
      · have := hKlt _ h; omega
      · omega
    · rintro ((h | h) | h)
      · have := hKlt _ h; omega
      · omega
      · omega
  have cRnd := fun {pre rest : List (List UInt8)} {p : List UInt8} {O : Nat → Prop} {W : World} (hx : pre ++ p :: rest = ps) (hb : Below w0.heap.size w0 W) (hlo : ∀ y, O y → w0.heap.size ≤ y) h => all_round hS hu hps (bk := bk) (br := W3.heap.size - 3) (bq := W3.heap.size - 2) (bo := W3.heap.size - 1) (by omega) hx hb hlo h
  rw [show W3.heap.size - 3 = W.heap.size by omega, show W3.heap.size - 2 = W.heap.size + 1 by omega, show W3.heap.size - 1 = W.heap.size + 1 + 1 by omega] at cRnd
  have hr3 : R OI W3 := kR.keep () _ _ _ hR (fun x hx => b3.block x (hRlt x hx)) b3.size
  have CR : Hid _ := @cRnd
  have fin : ∀ (D : Nat) (OI' O' : Nat → Prop) (W4 : World) (OE : Nat → Prop) (w2 : World) (ev : Value) (N : Nat), R' OI' W4 → (∀ x, OI' x → ¬ O' x) → Fp (fun x => OI x ∨ (((OK x ∨ x = W.heap.size + 1 + 1) ∨ x = W.heap.size) ∨ x = W.heap.size + 1)) (fun x => OI' x ∨ O' x) W3 W4 → W4.heap[D]? = some (.deferred (some [])) → W3.heap.size ≤ D → ¬ OI' D → ¬ O' D → Fp O' OE W4 w2 → AllEnd aS s bk ps.flatten OE (.returned (.tuple #[.int .i64 N, ev])) w2 → w2.heap[W.heap.size]? = some (.cells #[.int .i64 N] 3 (0, 0)) → w2.heap[W.heap.size + 1]? = some (.cells #[ev] 41 (0, 0)) →
      w2.heap[D]? = some (.deferred (some [])) ∧ (w2.putObj D (.deferred none)).cell? ⟨W.heap.size, 0, none⟩ = some (.int .i64 N) ∧ (w2.putObj D (.deferred none)).cell? ⟨W.heap.size + 1, 0, none⟩ = some ev ∧ AllOut aS s bk ps.flatten R' OI OK W (.returned (.tuple #[.int .i64 N, ev])) (w2.putObj D (.deferred none)) := by
    intro D OI' O' W4 OE w2 ev N hR' hdis hf hD hDl nD1 nD2 fE aE h1 h2
    have hDlt := (Array.getElem?_eq_some_iff.1 hD).1
    have hR'lt := kR'.lt () _ _ hR'
    have zf := hf.size
    have zE := fE.size
    have nDE : ¬ OE D := fun h => by
      rcases fE.grow D h with h | h
      · exact nD2 h
      · omega
    have kOI : ∀ x, OI' x → w2.heap[x]? = W4.heap[x]? := fun x hx => fE.block x (hR'lt x hx) fun h => hdis x hx h
    have hdis' : ∀ x, OI' x → ¬ OE x := fun x hx ho => by
      rcases fE.grow x ho with h | h
      · exact hdis x hx h
      · have := hR'lt x hx; omega
    refine ⟨(fE.block D hDlt nD2).trans hD, (World.cell?_of_block (World.putObj_heap_other (show (⟨W.heap.size, 0, none⟩ : Addr).block ≠ D by show W.heap.size ≠ D; omega))).trans (cell_of_one h1), (World.cell?_of_block (World.putObj_heap_other (show (⟨W.heap.size + 1, 0, none⟩ : Addr).block ≠ D by show W.heap.size + 1 ≠ D; omega))).trans (cell_of_one h2), OI', OE, kR'.keep () _ _ _ hR' (fun x hx => (World.putObj_heap_other (show x ≠ D from fun e => nD1 (e ▸ hx))).trans (kOI x hx)) (by simp; omega), hdis', ⟨fE.os.trans (hf.os.trans b3.os), fE.tape.trans (hf.tape.trans b3.tape), fE.output.trans (hf.output.trans b3.output), by simp; omega, fun x hx ho => ?_, fun x hx => ?_⟩, aE.keep (fun x hx => World.putObj_heap_other (fun e => nDE (e ▸ hx))) (by simp)⟩
    · have nx : ¬ (OI x ∨ (((OK x ∨ x = W.heap.size + 1 + 1) ∨ x = W.heap.size) ∨ x = W.heap.size + 1)) := by
        rintro (h | (((h | h) | h) | h))
        · exact ho (Or.inl h)
        · exact ho (Or.inr h)
        · omega
        · omega
        · omega
      have nx' : ¬ O' x := fun h => by
        rcases hf.grow x (Or.inr h) with h | h
        · exact nx h
        · omega
      exact (World.putObj_heap_other (by omega)).trans ((fE.block x (by omega) nx').trans ((hf.block x (by omega) nx).trans (b3.block x hx)))
    · have key : OI' x ∨ O' x → (OI x ∨ OK x) ∨ W.heap.size ≤ x := fun h => by
        rcases hf.grow x h with (h | (((h | h) | h) | h)) | h
        · exact Or.inl (Or.inl h)
        · exact Or.inl (Or.inr h)
        · exact Or.inr (by omega)
        · exact Or.inr (by omega)
        · exact Or.inr (by omega)
        · exact Or.inr (by omega)
      rcases hx with hx | hx
      · exact key (Or.inl hx)
      · rcases fE.grow x hx with h | h
        · exact key (Or.inr h)
        · exact Or.inr (by omega)
  have cLst := fun {O : Nat → Prop} {W4 : World} (hb : Below w0.heap.size w0 W4) (hlo : ∀ y, O y → w0.heap.size ≤ y) h => all_last hS hu hps (bk := bk) (br := W.heap.size) (bq := W.heap.size + 1) (bo := W.heap.size + 1 + 1) (by omega) hb hlo h
  have CL : Hid _ := @cLst
  have FIN : Hid _ := fin
  have Z3 : Hid (w0.heap.size ≤ W3.heap.size) := hbW3.size
  clear fin cLst
  have HW3 : Hid (((W.alloc (.cells #[.int .i64 0] 3)).alloc (.cells #[.nilIface] 41)).alloc (.cells #[sv, .string ⟨#[]⟩, .int .i64 0] 79) = W3) := hW3
  clear cRnd hW3 n0 n1 n2 b3 z3
  rcases hsv with rfl | ⟨us, xs, rfl⟩
  all_goals
    gi_wp2
    rw [HW3.out]
    first
    | refine rangeF (gf := gf) (lb := lb) rfl eg hseq (fun _ => rfl) kR kR' (AllSt s bk W.heap.size (W.heap.size + 1) (W.heap.size + 1 + 1) ps.flatten ps) (FailSt aS s bk W.heap.size (W.heap.size + 1) ps.flatten) kA kF (OI := OI) hbW3 ?low hr3 st0 ?apart (Framed (AllSt s bk W.heap.size (W.heap.size + 1) (W.heap.size + 1 + 1) ps.flatten ps) (fun p => #[(.iface us xs), .func (.func gf) #[] lb, undef, undef, .pointer (some ⟨W.heap.size, 0, none⟩), .pointer (some ⟨W.heap.size + 1, 0, none⟩), .pointer (some ⟨W.heap.size + 1 + 1, 0, none⟩), .string ⟨p.toArray⟩, undef, undef, (.iface us xs), .agg #[(.iface us xs), .string ⟨#[]⟩, .int .i64 0], .func (.func gf) #[] lb, .string ⟨p.toArray⟩, undef, undef, undef, undef, undef, undef, undef, undef, undef, undef, undef, undef, undef, undef, undef])) (Framed.own kA _) ?assign ?body ?done ?stop
    | refine rangeF (gf := gf) (lb := lb) rfl eg hseq (fun _ => rfl) kR kR' (AllSt s bk W.heap.size (W.heap.size + 1) (W.heap.size + 1 + 1) ps.flatten ps) (FailSt aS s bk W.heap.size (W.heap.size + 1) ps.flatten) kA kF (OI := OI) hbW3 ?low hr3 st0 ?apart (Framed (AllSt s bk W.heap.size (W.heap.size + 1) (W.heap.size + 1 + 1) ps.flatten ps) (fun p => #[.nilIface, .func (.func gf) #[] lb, undef, undef, .pointer (some ⟨W.heap.size, 0, none⟩), .pointer (some ⟨W.heap.size + 1, 0, none⟩), .pointer (some ⟨W.heap.size + 1 + 1, 0, none⟩), .string ⟨p.toArray⟩, undef, undef, .nilIface, .agg #[.nilIface, .string ⟨#[]⟩, .int .i64 0], .func (.func gf) #[] lb, .string ⟨p.toArray⟩, undef, undef, undef, undef, undef, undef, undef, undef, undef, undef, undef, undef, undef, undef, undef])) (Framed.own kA _) ?assign ?body ?done ?stop
    case low =>
      rintro x (h | (((h | h) | h) | h))
      · exact hlow x (Or.inl h)
      · exact hlow x (Or.inr h)
      · omega
      · omega
      · omega
    case apart =>
      rintro x h (((h1 | h1) | h1) | h1)
      · exact hd x h h1
      · have := hRlt _ h; omega
      · have := hRlt _ h; omega
      · have := hRlt _ h; omega
    case assign =>
      intro l' pre p rest O W2 K hx hb2 hlo hI hK'
      have hsem := @Oper.semAt_some
      have FI : Hid (AllSt s bk W.heap.size (W.heap.size + 1) (W.heap.size + 1 + 1) ps.flatten ps pre O W2) := hI
      have HK : Hid _ := hK'
      clear hI hK' hseq
      gi_wp2
      exact HK.out _ O _ (Fp.refl O W2) ⟨rfl, FI.out⟩
    case body =>
      rintro l' pre p rest a' O W2 hx hb2 hlo ⟨e0, hI⟩
      simp only at e0
      rw [e0]
      have hsem := @Oper.semAt_some
      obtain ⟨left, ⟨hl1, hl2⟩, c1, f1, cW⟩ := CR.out hx hb2 hlo hI
      have hz1 := size_of left
      have hz2 := size_of p
      have hba := ba_app left p
      obtain ⟨P, hP⟩ : ∃ P, fpPost (AllSt s bk W.heap.size (W.heap.size + 1) (W.heap.size + 1 + 1) ps.flatten ps) (FailSt aS s bk W.heap.size (W.heap.size + 1) ps.flatten) (pre ++ [p]) O W2 = P := ⟨_, rfl⟩
      rw [hP]
      have HP : Hid _ := hP
      clear hP e0 hI hx hb2 hlo CR hseq hr3 st0 run0 hbW3 kA kF hRlt hK hKlt hd hR hlow hW HSV HW3 kR kR' eg hu hS hz0
      gi_wp2_with (refine ⟨trivial, rfl, ?_⟩; gi_at_call 17; refine (CallsIn.inRound l' (callsIn_wide.2 cW)).mono ?_; rintro e w1 (⟨rfl, HG⟩ | ⟨t, x, N, rfl, x2, y0, y1, z0, z1, HG⟩))
      · rw [← HP.out]
        exact HG.out
      · rw [← HP.out]
        exact HG.out
    case done =>
      rintro D OI' O' W4 hR' hI hdis hf hD hDl nD1 nD2
      have hlow3 : ∀ x, (OI x ∨ (((OK x ∨ x = W.heap.size + 1 + 1) ∨ x = W.heap.size) ∨ x = W.heap.size + 1)) → w0.heap.size ≤ x := by
        rintro x (h | (((h | h) | h) | h))
        · exact hlow x (Or.inl h)
        · exact hlow x (Or.inr h)
        · omega
        · omega
        · omega
      have cL := CL.out (hbW3.trans (hf.under Z3.out hlow3)) (fun y hy => hf.low Z3.out hlow3 y (Or.inr hy)) hI
      have HH : Hid _ := And.intro hR' (And.intro hdis (And.intro hf (And.intro hD (And.intro hDl (And.intro nD1 nD2)))))
      clear hR' hI hdis hf hD hDl nD1 nD2 hlow3 CL CR hseq hr3 st0 run0 hbW3 kA kF hRlt hK hKlt hd hR hlow hW HSV HW3 kR kR' eg hu hS hz0 Z3
      gi_wp2_with (refine ⟨trivial, ?_⟩; gi_at_call 17; refine (callsIn_wide.2 cL).mono ?_; rintro e w1 ⟨ev, N, rfl, HE, x2, y0, y1, z0, z1, HG⟩; rcases HE.out with rfl | ⟨t, x, rfl⟩)
      all_goals
        obtain ⟨OE, g1, g2, g3, g4⟩ := HG.out
        obtain ⟨hR', hdis, hf, hD, hDl, nD1, nD2⟩ := HH.out
        obtain ⟨d1, d2, d3, d4⟩ := FIN.out D OI' O' W4 OE _ _ N hR' hdis hf hD hDl nD1 nD2 g1 g2 g3 g4
        refine ⟨by simp, .inl ⟨_, _, rfl, run_takeDeferred d1, ?_⟩⟩
        refine ⟨_, ?_, d4⟩
        simp [results, Tryz.results11, go_sem, d2, d3]
    case stop =>
      rintro D pre OI' O' W4 hR' ⟨O1, t, x, u, of, N, mo, got, f1, f2, f3, f4, f5, f6, f7⟩ hdis hf hD hDl nD1 nD2
      obtain ⟨d1, d2, d3, d4⟩ := FIN.out D OI' O' W4 O1 W4 (.iface t x) N hR' hdis hf hD hDl nD1 nD2 ⟨rfl, rfl, rfl, Nat.le_refl _, fun _ _ _ => rfl, fun y hy => Or.inl ((f7 y).2 (Or.inl hy))⟩ (Or.inr ⟨t, x, u, of, N, mo, got, rfl, f1, f2⟩) f3 f4
      clear hR' hdis hf hDl nD1 nD2 CL CR hseq hr3 st0 run0 hbW3 kA kF hRlt hK hKlt hd hR hlow hW HSV HW3 kR kR' eg hu hS hz0 Z3 FIN
      gi_wp2
      refine ⟨by simp, .inl ⟨_, _, rfl, run_takeDeferred d1, ?_⟩⟩
      refine ⟨_, ?_, d4⟩
      simp [results, Tryz.results11, go_sem, d2, d3]
end Go.Proofs.YtljcljipppjnoabGreatDoor

namespace Go.Proofs.YtljcljipppjnoabGreatDoor
open Go.RowKit Go.Shelf
theorem hof_any (f : Fn) (a b : Array Value) (W : World) :
    Calls Tryz.prog 12 #[.func f a b] W fun e w' => e = .returned (.func (.func 18) #[] #[.pointer (some ⟨W.heap.size, 0, none⟩)]) ∧ w' = W.alloc (.cells #[.func f a b] 59) := by
  have hmf : ∀ (fn : Fn) (first cap : Array Value) (w : World), (Instr.makeFunc fn first cap).run Tryz.prog w = .ok (.func fn first cap) w := fun _ _ _ _ => rfl
  go_enter Tryz.func12, Tryz.ntmps12
  go_wp2
  go_ret
  exact ⟨rfl, rfl⟩
theorem evq_tells {q : Gh} (hq : q.Ok) : TellsH (evq q) := by
  intro ev he
  have h1 := outText_small hq
  have hu : Utf (outText q.o).data.toList := by
    cases q.o with
    | fine s => show Utf (reg s); exact reg_utf s
    | long => exact Utf.nil
    | idle => exact Utf.nil
    | fail k => exact Utf.nil
  have h2 := events_facts (outText q.o).data.toList ev he
  have h3 := events_utf _ hu ev he
  exact ⟨h2.1.2, h2.1.1, h3, by omega⟩
theorem page_flat (l : List Ev) : (htmls l).flatten = pageS l := by
  unfold htmls pageS
  rw [List.flatMap_def]
theorem pageq_len {q : Gh} (hq : q.Ok) : (pageS (evq q)).length ≤ 68719476736 := by
  have h1 := outText_small hq
  have h2 := evq_len hq
  have h3 := page_len (evq q) 2000 (fun e he => by have := (events_facts (outText q.o).data.toList e he).2; omega)
  have : (6 * 2000 + 32) * (evq q).length ≤ (6 * 2000 + 32) * 4804 := Nat.mul_le_mul_left _ h2
  omega
def WrOut (aL aI aS : Addr) (q : Gh) (s : Option Ou) (bs bk : Nat) (OS OK : Nat → Prop) (W : World) (e : Ending) (w' : World) : Prop :=
  ∃ OI' OK', (∀ x, OI' x → ¬ OK' x) ∧ Fp (fun x => OS x ∨ OK x) (fun x => OI' x ∨ OK' x) W w' ∧ (∃ tx' cv' ov', SrcAt bs tx' cv' q.fa q.wt q.n ov' w') ∧ OI' bs ∧ (∀ x, OI' x → x < w'.heap.size) ∧ (∀ x, OK' x → x < w'.heap.size) ∧
    ((∃ t, q.o = .fine t) → AllEnd aS s bk (pageS (evq q)) OK' e w') ∧ ((¬ ∃ t, q.o = .fine t) → (∃ t a, e = .returned (.tuple #[.int .i64 0, .iface t (.pointer (some a))]) ∧ ErrAt aL aI q.o (.iface t (.pointer (some a))) OI' w') ∧ ∀ u, s = some u → SkAt u bk 0 0 [] OK' w')
theorem pit_own1 (aL aI : Addr) (q : Gh) (bp bs bb : Nat) (r : List Ev) : OwnS fun (_ : Unit) => PIt aL aI q bp bs bb r := ⟨fun _ => (PIt.own aL aI q bp bs bb).keep r, fun _ => (PIt.own aL aI q bp bs bb).lt r⟩
theorem pit_own2 (aL aI : Addr) (q : Gh) (bp bs bb : Nat) : OwnS fun (_ : Unit) OI W => ∃ r, PIt aL aI q bp bs bb r OI W := by
  refine ⟨?_, ?_⟩
  · rintro _ O W w' ⟨r, h⟩ hk hz
    exact ⟨r, (PIt.own aL aI q bp bs bb).keep r _ _ _ h hk hz⟩
  · rintro _ O W ⟨r, h⟩
    exact (PIt.own aL aI q bp bs bb).lt r _ _ h
theorem offers_parser {w0 : World} {aL aI : Addr} {m : Int} {aS : Addr} (B : Base w0 aL aI m) (hS : w0.cell? ⟨0, 0, none⟩ = some (sinkV aS)) {q : Gh} (hq : q.Ok) (hfine : ∃ t, q.o = .fine t) {s : Option Ou} (hu : ∀ u, s = some u → u.Ok w0) {bp bs bk : Nat} {O OK : Nat → Prop} {W : World} (hW : Below w0.heap.size w0 W) (hlow : ∀ x, O x ∨ OK x → w0.heap.size ≤ x) (hP : PaDone aL aI q bp bs (evq q) O W) (hK : ∀ u, s = some u → SkAt u bk 0 0 [] OK W) (hKlt : ∀ x, OK x → x < W.heap.size) (hd : ∀ x, O x → ¬ OK x) :
    Calls Tryz.prog 11 #[svOf s bk, .func (.func 18) #[] #[.pointer (some ⟨W.heap.size + 1, 0, none⟩)]] ((W.alloc (.cells #[.pointer (some ⟨bp, 0, none⟩)] 51)).alloc (.cells #[.func (.func 20) #[] #[.pointer (some ⟨W.heap.size, 0, none⟩)]] 59)) (WrOut aL aI aS q s bs bk O OK W) := by
  obtain ⟨W2, hW2⟩ : ∃ W2, (W.alloc (.cells #[.pointer (some ⟨bp, 0, none⟩)] 51)).alloc (.cells #[.func (.func 20) #[] #[.pointer (some ⟨W.heap.size, 0, none⟩)]] 59) = W2 := ⟨_, rfl⟩
  have b2 : Below W.heap.size W W2 := by rw [← hW2]; exact ((Below.refl _ W).alloc (Nat.le_refl _) _).alloc (by simp) _
  have z2 : W2.heap.size = W.heap.size + 2 := by rw [← hW2]; simp
  have n0 : W2.heap[W.heap.size]? = some (.cells #[.pointer (some ⟨bp, 0, none⟩)] 51 (0, 0)) := by
    rw [← hW2, Below.heap_alloc _ _ _ (by simp)]
    exact heap_new _ _ rfl
  have n1 : W2.heap[W.heap.size + 1]? = some (.cells #[.func (.func 20) #[] #[.pointer (some ⟨W.heap.size, 0, none⟩)]] 59 (0, 0)) := by
    rw [← hW2]
    exact heap_new _ _ (by simp)
  rw [hW2]
  have hz := hW.size
  have hPlt : ∀ x, O x → x < W.heap.size := PaAt.lt (st := some (evq q)) hP
  have hseq := html_seq (w0 := w0) (enters_of Tryz.func20 (by kernel_rfl) rfl) (evq_tells hq) (pit_own1 aL aI q bp bs W.heap.size (evq q)) (pit_own2 aL aI q bp bs W.heap.size) (all_seq B hq bp bs W.heap.size (evq q)) (W.heap.size + 1)
  have hb2 : Below w0.heap.size w0 W2 := hW.trans (b2.mono hz)
  have hr : With (fun (_ : Unit) => PIt aL aI q bp bs W.heap.size (evq q)) (W.heap.size + 1) (.cells #[.func (.func 20) #[] #[.pointer (some ⟨W.heap.size, 0, none⟩)]] 59 (0, 0)) () (fun x => (O x ∨ x = W.heap.size) ∨ x = W.heap.size + 1) W2 := by
    refine ⟨_, ⟨O, PaAt.keep (st := some (evq q)) hP (fun x hx => b2.block x (hPlt x hx)) b2.size, n0, fun h => ?_, fun x => Iff.rfl⟩, n1, ?_, fun x => Iff.rfl⟩
    · have := hPlt _ h; omega
    · rintro (h | h)
      · have := hPlt _ h; omega
      · omega
  have hflat : (htmls (evq q)).flatten = pageS (evq q) := page_flat _
  refine (offers_all hS hu (enters_of Tryz.func18 (by kernel_rfl) rfl) (by rw [hflat]; exact pageq_len hq) ⟨fun _ => (With.own (pit_own1 aL aI q bp bs W.heap.size (evq q)) _ _).keep (), fun _ => (With.own (pit_own1 aL aI q bp bs W.heap.size (evq q)) _ _).lt ()⟩ ⟨fun _ => (With.own (pit_own2 aL aI q bp bs W.heap.size) _ _).keep (), fun _ => (With.own (pit_own2 aL aI q bp bs W.heap.size) _ _).lt ()⟩ hseq (bk := bk) (OK := OK) hb2 ?_ hr (fun u hu' => (hK u hu').keep (fun x hx => b2.block x (hKlt x hx)) b2.size) (fun x hx => by have := hKlt x hx; omega) ?_).mono ?_
  · rintro x (((h | h) | h) | h)
    · exact hlow x (Or.inl h)
    · omega
    · omega
    · exact hlow x (Or.inr h)
  · rintro x ((h | h) | h) h1
    · exact hd x h h1
    · have := hKlt x h1; omega
    · have := hKlt x h1; omega
  · rintro e w' ⟨OI', OK', r1, r2, r3, r4⟩
    have hlt := (With.own (pit_own2 aL aI q bp bs W.heap.size) (W.heap.size + 1) (.cells #[.func (.func 20) #[] #[.pointer (some ⟨W.heap.size, 0, none⟩)]] 59 (0, 0))).lt () _ _ r1
    obtain ⟨O5, ⟨r, O6, p1, p2, p3, p4⟩, q2, q3, q4⟩ := r1
    have hsrc := (show PaDone aL aI q bp bs r O6 w' from p1).src
    have hos := (show PaDone aL aI q bp bs r O6 w' from p1).os
    rw [hflat] at r4
    refine ⟨OI', OK', r2, ⟨r3.os.trans b2.os, r3.tape.trans b2.tape, r3.output.trans b2.output, Nat.le_trans b2.size r3.size, fun x hx ho => ?_, fun x hx => ?_⟩, hsrc, (q4 bs).2 (Or.inl ((p4 bs).2 (Or.inl hos))), hlt, r4.lt, fun _ => r4, fun hn => absurd hfine hn⟩
    · refine (r3.block x (by omega) ?_).trans (b2.block x hx)
      rintro (((h | h) | h) | h)
      · exact ho (Or.inl h)
      · omega
      · omega
      · exact ho (Or.inr h)
    · rcases r3.grow x hx with (((h | h) | h) | h) | h
      · exact Or.inl (Or.inl h)
      · exact Or.inr (by omega)
      · exact Or.inr (by omega)
      · exact Or.inl (Or.inr h)
      · exact Or.inr (by omega)
set_option maxRecDepth 100000 in
set_option maxHeartbeats 2000000 in
theorem write_any {w0 : World} {aL aI : Addr} {m : Int} {aS : Addr} (B : Base w0 aL aI m) (hS : w0.cell? ⟨0, 0, none⟩ = some (sinkV aS)) {q : Gh} (hq : q.Ok) {s : Option Ou} (hu : ∀ u, s = some u → u.Ok w0) {bs bk : Nat} {cv : Value} {OS OK : Nat → Prop} {W : World} (hW : Below w0.heap.size w0 W) (hlow : ∀ x, OS x ∨ OK x → w0.heap.size ≤ x) (s1 : SrcAt bs q.tx cv q.fa q.wt 0 false W) (s2 : CutsOK bs cv q.cs W) (s3 : ∀ g o l c, cv = .slice (some ⟨g, o, none⟩) l c → OS g) (os : OS bs) (oslt : ∀ x, OS x → x < W.heap.size) (hK : ∀ u, s = some u → SkAt u bk 0 0 [] OK W) (hKlt : ∀ x, OK x → x < W.heap.size) (hd : ∀ x, OS x → ¬ OK x) :
    Calls Tryz.prog 7 #[srcV q bs, svOf s bk] W (WrOut aL aI aS q s bs bk OS OK W) := by
  obtain ⟨W1, hW1⟩ : ∃ W1, W.alloc (.cells #[srcV q bs, .bool false, .nilIface, .slice none 0 0, .int .i64 0, .map none] 77) = W1 := ⟨_, rfl⟩
  have hz := hW.size
  have b1 : Below W.heap.size W W1 := by rw [← hW1]; exact (Below.refl _ W).alloc (Nat.le_refl _) _
  have z1 : W1.heap.size = W.heap.size + 1 := by rw [← hW1]; simp
  have n0 : W1.heap[W.heap.size]? = some (.cells #[srcV q bs, .bool false, .nilIface, .slice none 0 0, .int .i64 0, .map none] 77 (0, 0)) := by rw [← hW1]; exact heap_new _ _ rfl
  have hsv : srcV q bs = .nilIface ∨ ∃ t a, srcV q bs = .iface t (.pointer (some a)) := by
    unfold srcV
    split
    · exact Or.inr ⟨_, _, rfl⟩
    · exact Or.inl rfl
  have hbs := oslt bs os
  have fresh : PaAt aL aI q W.heap.size bs none (fun x => OS x ∨ x = W.heap.size) W1 := by
    refine (show PaFresh q W.heap.size bs _ W1 from ⟨n0, ⟨cv, (b1.block bs hbs).trans s1, ?_, fun g o l c e => ⟨Or.inl (s3 g o l c e), ?_⟩⟩, Or.inr rfl, Or.inl os, fun x hx => ?_⟩)
    · obtain ⟨g, o, cap, hcv, a1, a2, a3, a4, a5⟩ := s2
      exact ⟨g, o, cap, hcv, a1, a2, a3, by omega, fun i c hi => (b1.cell (p := ⟨g, o + i, none⟩) (oslt g (s3 g o _ _ hcv))).trans (a5 i c hi)⟩
    · have := oslt g (s3 g o l c e); omega
    · rcases hx with hx | hx
      · have := oslt x hx; omega
      · omega
  have hbW1 : Below w0.heap.size w0 W1 := hW.trans (b1.mono hz)
  have hlow1 : ∀ x, (OS x ∨ x = W.heap.size) → w0.heap.size ≤ x := by
    rintro x (h | h)
    · exact hlow x (Or.inl h)
    · omega
  have cN := new_any (srcV q bs) hsv W
  rw [hW1] at cN
  have cE := perr_any B hq hbW1 hlow1 fresh
  have hdK : ∀ x, (OS x ∨ x = W.heap.size) → ¬ OK x := by
    rintro x (h | h) h1
    · exact hd x h h1
    · have := hKlt x h1; omega
  have hK1 : ∀ u, s = some u → SkAt u bk 0 0 [] OK W1 := fun u hu' => (hK u hu').keep (fun x hx => b1.block x (hKlt x hx)) b1.size
  have hsk := svOf_ie s bk
  obtain ⟨v1, hv1⟩ : ∃ v1, srcV q bs = v1 := ⟨_, rfl⟩
  obtain ⟨v2, hv2⟩ : ∃ v2, svOf s bk = v2 := ⟨_, rfl⟩
  by_cases hfine : ∃ t, q.o = .fine t
  · have cE2 : Calls Tryz.prog 10 #[.pointer (some ⟨W.heap.size, 0, none⟩)] W1 fun e w' => e = .returned .nilIface ∧ Hid (∃ O', PaDone aL aI q W.heap.size bs (evq q) O' w' ∧ Fp (fun x => OS x ∨ x = W.heap.size) O' W1 w') := by
      refine cE.mono ?_
      rintro e w' ⟨O', v, rfl, e1, e2, e3⟩
      obtain ⟨t, ht⟩ := hfine
      rw [ht] at e1
      have e1 : v = .nilIface := e1
      exact ⟨by rw [e1], O', e2, e3⟩
    have cA : ∀ w2, (∃ O', PaDone aL aI q W.heap.size bs (evq q) O' w2 ∧ Fp (fun x => OS x ∨ x = W.heap.size) O' W1 w2) → Calls Tryz.prog 11 #[v2, .func (.func 18) #[] #[.pointer (some ⟨w2.heap.size + 1, 0, none⟩)]] ((w2.alloc (.cells #[.pointer (some ⟨W.heap.size, 0, none⟩)] 51)).alloc (.cells #[.func (.func 20) #[] #[.pointer (some ⟨w2.heap.size, 0, none⟩)]] 59)) fun e w' => ∃ n t, e = .returned (.tuple #[.int .i64 n, t]) ∧ Hid (WrOut aL aI aS q s bs bk OS OK W (.returned (.tuple #[.int .i64 n, t])) w') := by
      rintro w2 ⟨O', hP, hf⟩
      have h1 := hf.size
      have hz1 : w0.heap.size ≤ W1.heap.size := hbW1.size
      rw [← hv2]
      refine (offers_parser B hS hq hfine hu (hbW1.trans (hf.under hz1 hlow1)) (O := O') (OK := OK) ?_ hP (fun u hu' => (hK1 u hu').keep (hf.other hdK (fun x hx => by have := hKlt x hx; omega)) hf.size) (fun x hx => by have := hKlt x hx; omega) (hf.apart hdK (fun x hx => by have := hKlt x hx; omega))).mono ?_
      · rintro x (h | h)
        · exact hf.low hz1 hlow1 x h
        · exact hlow x (Or.inr h)
      · rintro e w' ⟨OI', OK', r1, r2, r3, r4, r5, r6, r7, r8⟩
        have hend := r7 hfine
        have hform : ∃ (n : Int) (t : Value), e = .returned (.tuple #[.int .i64 n, t]) := by
          rcases hend with ⟨_, _, _, _, _, h, _⟩ | ⟨_, _, _, _, _, _, _, h, _⟩
          · exact ⟨_, _, h⟩
          · exact ⟨_, _, h⟩
        obtain ⟨n, t, rfl⟩ := hform
        refine ⟨n, t, rfl, OI', OK', r1, ⟨r2.os.trans (hf.os.trans b1.os), r2.tape.trans (hf.tape.trans b1.tape), r2.output.trans (hf.output.trans b1.output), by have := r2.size; omega, fun x hx ho => ?_, fun x hx => ?_⟩, r3, r4, r5, r6, r7, r8⟩
        · have n1 : ¬ (OS x ∨ x = W.heap.size) := by
            rintro (h | h)
            · exact ho (Or.inl h)
            · omega
          have n2 : ¬ (O' x ∨ OK x) := by
            rintro (h | h)
            · rcases hf.grow x h with h | h
              · exact n1 h
              · omega
            · exact ho (Or.inr h)
          exact (r2.block x (by omega) n2).trans ((hf.block x (by omega) n1).trans (b1.block x hx))
        · rcases r2.grow x hx with (h | h) | h
          · rcases hf.grow x h with (h | h) | h
            · exact Or.inl (Or.inl h)
            · exact Or.inr (by omega)
            · exact Or.inr (by omega)
          · exact Or.inl (Or.inr h)
          · exact Or.inr (by omega)
    have cP := fun (w : World) => pall_any W.heap.size w
    have cH := fun (w : World) => hof_any (.func 20) #[] #[.pointer (some ⟨w.heap.size, 0, none⟩)] (w.alloc (.cells #[.pointer (some ⟨W.heap.size, 0, none⟩)] 51))
    have CA : Hid _ := cA
    rw [hv1] at cN hsv ⊢
    rw [hv2] at hsk ⊢
    clear cE cA fresh hbW1 hlow1 hdK hK1 hfine n0 b1 z1 hW1 s1 s2 s3 os oslt hK hKlt hd hlow hW B hS hq hu hbs hv1 hv2
    go_enter Tryz.func7, Tryz.ntmps7
    go_wp2_with (first
      | (go_at_call 9; refine cN.mono ?_; rintro e w1 ⟨rfl, hw⟩; rw [hw]; clear hw)
      | (go_at_call 10; refine cE2.mono ?_; rintro e w2 ⟨rfl, HD⟩)
      | (go_at_call 13; refine (cP _).mono ?_; rintro e w3 ⟨rfl, hw⟩; rw [hw]; clear hw)
      | (go_at_call 12; refine (cH _).mono ?_; rintro e w4 ⟨rfl, hw⟩; rw [hw]; clear hw)
      | (go_at_call 11; refine (CA.out w2 HD.out).mono ?_; rintro e w5 ⟨n, t, rfl, HF⟩))
    go_ret2
    exact HF.out
  · have cE2 : Calls Tryz.prog 10 #[.pointer (some ⟨W.heap.size, 0, none⟩)] W1 fun e w' => ∃ t a, e = .returned (.iface t (.pointer (some a))) ∧ Hid (WrOut aL aI aS q s bs bk OS OK W (.returned (.tuple #[.int .i64 0, .iface t (.pointer (some a))])) w') := by
      refine cE.mono ?_
      rintro e w' ⟨O', v, rfl, e1, e2, hf⟩
      have hform : ∃ t a, v = .iface t (.pointer (some a)) := by
        rcases e1.forms with h | h
        · exfalso
          rw [h] at e1
          cases ho : q.o with
          | fine t => exact hfine ⟨t, ho⟩
          | long => rw [ho] at e1; cases e1
          | idle => rw [ho] at e1; cases e1
          | fail k =>
            rw [ho] at e1
            obtain ⟨gE, gO, h1, _⟩ := e1
            cases h1
        · exact h
      obtain ⟨t, a, rfl⟩ := hform
      have h1 := hf.size
      have hPlt : ∀ x, O' x → x < w'.heap.size := PaAt.lt (st := some (leftOf q none)) e2
      refine ⟨t, a, rfl, O', OK, hf.apart hdK (fun x hx => by have := hKlt x hx; omega), ⟨hf.os.trans b1.os, hf.tape.trans b1.tape, hf.output.trans b1.output, by omega, fun x hx ho => ?_, fun x hx => ?_⟩, e2.src, e2.os, hPlt, fun x hx => by have := hKlt x hx; omega, fun hn => absurd hn hfine, fun _ => ⟨⟨t, a, rfl, e1⟩, fun u hu' => (hK1 u hu').keep (hf.other hdK (fun x hx => by have := hKlt x hx; omega)) hf.size⟩⟩
      · refine (hf.block x (by omega) ?_).trans (b1.block x hx)
        rintro (h | h)
        · exact ho (Or.inl h)
        · omega
      · rcases hx with hx | hx
        · rcases hf.grow x hx with (h | h) | h
          · exact Or.inl (Or.inl h)
          · exact Or.inr (by omega)
          · exact Or.inr (by omega)
        · exact Or.inl (Or.inr hx)
    rw [hv1] at cN hsv ⊢
    rw [hv2] at hsk ⊢
    clear cE fresh hbW1 hlow1 hdK hK1 hfine n0 b1 z1 hW1 s1 s2 s3 os oslt hK hKlt hd hlow hW B hS hq hu hbs hv1 hv2
    go_enter Tryz.func7, Tryz.ntmps7
    go_wp2_with (first
      | (go_at_call 9; refine cN.mono ?_; rintro e w1 ⟨rfl, hw⟩; rw [hw]; clear hw)
      | (go_at_call 10; refine cE2.mono ?_; rintro e w2 ⟨t, a, rfl, HF⟩))
    go_ret2
    exact HF.out
end Go.Proofs.YtljcljipppjnoabGreatDoor

namespace Go.Proofs.YtljcljipppjnoabGreatDoor
open Go.RowKit Go.Shelf
structure Wn where
  err : Int
  N : Int
  cnt : Int
  got : List UInt8
  of : Nat
  mo : Nat
  rd : Int
structure HtRel (q : Gh) (s : Option Ou) (r : Wn) : Prop where
  mo : r.mo ≤ 16
  rd : r.rd = q.n
  fine : (∃ t, q.o = .fine t) → (r.err = 0 ∧ r.N = 0 ∧ ∃ (tk of : Nat) (got : List UInt8), Run (uOf s).one (uOf s).fa (uOf s).la (uOf s).li (pageS (evq q)) of tk got [] [] ∧ r.cnt = tk ∧ (s.isSome = true → r.got = got ∧ r.of = of)) ∨ (∃ (u : Ou) (wr : Bool) (N : Nat), s = some u ∧ Bad u.one u.fa u.la u.li (pageS (evq q)) wr r.of N r.got ∧ r.N = N ∧ r.cnt = N ∧ r.err = if wr then 5 else 3)
  bad : (¬ ∃ t, q.o = .fine t) → r.err = outErr q.o ∧ r.N = outN q.o ∧ r.cnt = 0 ∧ r.of = 0 ∧ r.got = []
  none : s = none → r.of = 0 ∧ r.got = []
theorem got_conv {got : List UInt8} {gv : Value} {w : World} (h : w.ownsRow 0 5 1 gv got.length (Lib.byteCells got)) : (convert 37 9 gv).run Tryz.prog w = .ok (.string ⟨got.toArray⟩) w := by
  rcases Joins.ownsRow_forms h with ⟨rfl, h0⟩ | ⟨g, cap, rfl⟩
  · have := run_convert_bytes_zero (P := Tryz.prog) w 37 5 Tryz.underlying37 Tryz.underlying5 none 0 9 Tryz.underlying9
    rw [this, List.eq_nil_of_length_eq_zero h0]
    rfl
  · refine run_convert_bytes_back w 37 9 5 ⟨g, 0, none⟩ cap got Tryz.underlying37 Tryz.underlying5 Tryz.underlying9 (fun j hj => ?_)
    exact h.cells (g := g) rfl j _ (by simp [Lib.byteCells, hj])
structure HtBehind (q : Gh) (s : Option Ou) (bs bk : Nat) (n : Int) (ev gv : Value) (r : Wn) (w' : World) : Prop where
  form : ev = .nilIface ∨ ∃ t x, ev = .iface t x
  c5 : w'.cell? ⟨bk, 5, none⟩ = some (.int .i64 r.of)
  c6 : w'.cell? ⟨bk, 6, none⟩ = some (.int .i64 r.mo)
  c7 : w'.cell? ⟨bk, 7, none⟩ = some (.bool false)
  c8 : w'.cell? ⟨bk, 8, none⟩ = some gv
  own : w'.ownsRow 0 5 1 gv r.got.length (Lib.byteCells r.got)
  c4 : w'.cell? ⟨bs, 4, none⟩ = some (.int .i64 r.rd)
  lt : bk < w'.heap.size ∧ bs < w'.heap.size
  cnt : r.cnt = n
  told : ∀ w, Below w'.heap.size w' w → Calls Tryz.prog 8 #[ev] w fun e2 w2 => e2 = .returned (.agg #[.int .i64 r.err, .int .i64 r.N]) ∧ Below w.heap.size w w2
  rel : HtRel q s r
theorem write_told {w0 : World} {aL aI : Addr} {m : Int} {aS : Addr} (B : Base w0 aL aI m) (hS : w0.cell? ⟨0, 0, none⟩ = some (sinkV aS)) {q : Gh} (hq : q.Ok) {u : Ou} (hu : u.Ok w0) (snk : Bool) {bs bk : Nat} {cv : Value} {OS : Nat → Prop} {W : World} (hW : Below w0.heap.size w0 W) (hlow : ∀ x, OS x → w0.heap.size ≤ x) (hlk : w0.heap.size ≤ bk) (s1 : SrcAt bs q.tx cv q.fa q.wt 0 false W) (s2 : CutsOK bs cv q.cs W) (s3 : ∀ g o l c, cv = .slice (some ⟨g, o, none⟩) l c → OS g) (os : OS bs) (oslt : ∀ x, OS x → x < W.heap.size) (nk : ¬ OS bk)
    (hk : SnkAt bk u.tv 0 u.fa u.la u.li 0 0 false (.slice none 0 0) W) :
    Calls Tryz.prog 7 #[srcV q bs, svOf (if snk = true then some u else none) bk] W fun e w' => ∃ (n : Int) (ev gv : Value) (r : Wn), e = .returned (.tuple #[.int .i64 n, ev]) ∧ HtBehind q (if snk = true then some u else none) bs bk n ev gv r w' ∧ Fp (fun x => OS x ∨ x = bk) (fun _ => False) W w' := by
  have hz := hW.size
  have hbk := hk.lt
  have sk0 : SkAt u bk 0 0 [] (fun x => x = bk) W := ⟨⟨0, .slice none 0 0, hk, ⟨rfl, Or.inl ⟨rfl, rfl⟩⟩, (fun x hx => by cases hx), Nat.le_refl _⟩, rfl, fun x hx => by omega⟩
  obtain ⟨OK, hOK⟩ : ∃ OK : Nat → Prop, OK = fun x => snk = true ∧ x = bk := ⟨_, rfl⟩
  have okb : ∀ x, OK x → x = bk := fun x hx => by rw [hOK] at hx; exact hx.2
  have hsk : ∀ u', (if snk = true then some u else none) = some u' → u' = u ∧ SkAt u bk 0 0 [] OK W ∧ snk = true := by
    intro u' h
    cases snk with
    | true =>
      simp at h
      obtain ⟨a, gv, h1, h2, h3, h4⟩ := sk0.box
      have hob : OK bk := by rw [hOK]; exact ⟨rfl, rfl⟩
      exact ⟨h.symm, ⟨⟨a, gv, h1, h2, fun x hx => ⟨(h3 x hx).1 ▸ hob, (h3 x hx).2⟩, h4⟩, hob, fun x hx => by have := okb x hx; omega⟩, rfl⟩
    | false => simp at h
  have hT := B.to hW
  refine (write_any B hS hq (s := if snk = true then some u else none) (fun u' h => (hsk u' h).1 ▸ hu) (OK := OK) hW (fun x hx => hx.elim (hlow x) (fun h => by have := okb x h; omega)) s1 s2 s3 os oslt (fun u' h => (hsk u' h).1 ▸ (hsk u' h).2.1) (fun x hx => by have := okb x hx; omega) (fun x h1 h2 => nk (okb x h2 ▸ h1))).mono ?_
  rintro e w' ⟨OI', OK', d1, hf, ⟨tx', cv', ov', hsrc⟩, o1, o2, o3, hfin, hbad⟩
  have fp : Fp (fun x => OS x ∨ x = bk) (fun _ => False) W w' := ⟨hf.os, hf.tape, hf.output, hf.size, fun x hx ho => hf.block x hx fun h => ho (h.imp id (okb x)), fun x hx => hx.elim⟩
  have bW : Below w0.heap.size w0 w' := hW.trans (fp.under hz (fun x hx => hx.elim (hlow x) (fun h => by omega)))
  have G' := (B.to bW).glob
  have hS' : w'.cell? ⟨0, 0, none⟩ = some (sinkV aS) := (bW.cell (p := ⟨0, 0, none⟩) (lt_cell hS)).trans hS
  have c4 := hsrc.cells.2.2.2.2.1
  have lts := lt_cell c4
  have hzf := hf.size
  -- the sink's own box, where nobody asked it
  have quiet : snk = false → SnkAt bk u.tv 0 u.fa u.la u.li 0 0 false (.slice none 0 0) w' := fun h => (hf.block bk hbk (by
    rintro (h1 | h1)
    · exact nk h1
    · rw [hOK, h] at h1; cases h1.1)).trans hk
  have nil0 : w'.ownsRow 0 5 1 (.slice none 0 0) ([] : List UInt8).length (Lib.byteCells []) := ⟨rfl, Or.inl ⟨rfl, rfl⟩⟩
  -- what the sink's box tells
  have box : ∀ (of mo : Nat) (got : List UInt8) (O : Nat → Prop), SkAt u bk of mo got O w' → ∃ gv, w'.cell? ⟨bk, 5, none⟩ = some (.int .i64 of) ∧ w'.cell? ⟨bk, 6, none⟩ = some (.int .i64 mo) ∧ w'.cell? ⟨bk, 7, none⟩ = some (.bool false) ∧ w'.cell? ⟨bk, 8, none⟩ = some gv ∧ w'.ownsRow 0 5 1 gv got.length (Lib.byteCells got) := by
    intro of mo got O h
    obtain ⟨a, gv, h1, h2, _⟩ := h.box
    obtain ⟨_, _, _, _, _, k5, k6, k7, k8⟩ := h1.cells
    exact ⟨gv, k5, k6, k7, k8, h2⟩
  by_cases hfine : ∃ t, q.o = .fine t
  · rcases hfin hfine with ⟨bo, of, tk, mo, got, rfl, hr⟩ | ⟨t, x, u', of, N, mo, got, rfl, hsu, hF⟩
    · have tell : ∀ w, Below w'.heap.size w' w → Calls Tryz.prog 8 #[.nilIface] w fun e2 w2 => e2 = .returned (.agg #[.int .i64 0, .int .i64 0]) ∧ Below w.heap.size w w2 := fun w _ => of_nil w
      cases snk with
      | true =>
        obtain ⟨O1, k1, _⟩ := hr.snk u rfl
        obtain ⟨gv, k5, k6, k7, k8, k9⟩ := box of mo got O1 k1
        exact ⟨tk, .nilIface, gv, ⟨0, 0, tk, got, of, mo, q.n⟩, rfl, ⟨Or.inl rfl, k5, k6, k7, k8, k9, c4, ⟨by omega, lts⟩, rfl, tell, ⟨hr.mo, rfl, fun _ => Or.inl ⟨rfl, rfl, tk, of, got, hr.run, rfl, fun _ => ⟨rfl, rfl⟩⟩, fun hn => absurd hfine hn, (fun hn => by cases hn)⟩⟩, fp⟩
      | false =>
        have hq0 := quiet rfl
        obtain ⟨_, _, _, _, _, k5, k6, k7, k8⟩ := hq0.cells
        exact ⟨tk, .nilIface, .slice none 0 0, ⟨0, 0, tk, [], 0, 0, q.n⟩, rfl, ⟨Or.inl rfl, k5, k6, k7, k8, nil0, c4, ⟨by omega, lts⟩, rfl, tell, ⟨Nat.zero_le _, rfl, fun _ => Or.inl ⟨rfl, rfl, tk, of, got, hr.run, rfl, (fun hn => by cases hn)⟩, fun hn => absurd hfine hn, fun _ => ⟨rfl, rfl⟩⟩⟩, fp⟩
    · obtain ⟨hu', _, hsn⟩ := hsk u' hsu
      subst hu'
      subst hsn
      obtain ⟨O1, k1, _⟩ := hF.snk
      obtain ⟨gv, k5, k6, k7, k8, k9⟩ := box of mo got O1 k1
      obtain ⟨gE, er, wr, e1, e2, e3, e4, e5⟩ := hF.err
      have x0 := row_cell (i := 0) e2 rfl
      have x1 := row_cell (i := 1) e2 rfl
      have hgE := (Array.getElem?_eq_some_iff.1 e2).1
      refine ⟨N, .iface t x, gv, ⟨if wr then 5 else 3, N, N, got, of, mo, q.n⟩, rfl, ⟨Or.inr ⟨t, x, rfl⟩, k5, k6, k7, k8, k9, c4, ⟨by omega, lts⟩, rfl, fun w hw => ?_, ⟨hF.mo, rfl, fun _ => Or.inr ⟨u', wr, N, rfl, e4, rfl, rfl, rfl⟩, fun hn => absurd hfine hn, (fun hn => by cases hn)⟩⟩, fp⟩
      rw [e1]
      have y0 : w.cell? ⟨gE, 0, none⟩ = some (.int .i64 N) := (hw.cell (p := ⟨gE, 0, none⟩) hgE).trans x0
      have y1 : w.cell? ⟨gE, 1, none⟩ = some er := (hw.cell (p := ⟨gE, 1, none⟩) hgE).trans x1
      have hg : w.cell? ⟨3, 0, none⟩ = some (.iface 111 (.agg #[.pointer (some ⟨12, 41, none⟩)])) := (hw.cell (p := ⟨3, 0, none⟩) (lt_cell G'.type)).trans G'.type
      have hSw : w.cell? ⟨0, 0, none⟩ = some (sinkV aS) := (hw.cell (p := ⟨0, 0, none⟩) (lt_cell hS')).trans hS'
      rcases e5 with ⟨rfl, p, rfl⟩ | ⟨rfl, rfl⟩
      · exact of_write gE N p w hg y0 y1
      · exact of_sink gE N aS w hg hSw y0 y1
  · obtain ⟨⟨t, a, rfl, he⟩, hsk0⟩ := hbad hfine
    have tell : ∀ w, Below w'.heap.size w' w → Calls Tryz.prog 8 #[.iface t (.pointer (some a))] w fun e2 w2 => e2 = .returned (.agg #[.int .i64 (outErr q.o), .int .i64 (outN q.o)]) ∧ Below w.heap.size w w2 := fun w hw => (he.keep (fun x hx => hw.block x (o2 x hx))).told (G'.below hw)
    cases snk with
    | true =>
      obtain ⟨gv, k5, k6, k7, k8, k9⟩ := box 0 0 [] OK' (hsk0 u rfl)
      exact ⟨0, _, gv, ⟨outErr q.o, outN q.o, 0, [], 0, 0, q.n⟩, rfl, ⟨Or.inr ⟨_, _, rfl⟩, k5, k6, k7, k8, k9, c4, ⟨by omega, lts⟩, rfl, tell, ⟨Nat.zero_le _, rfl, fun hn => absurd hn hfine, fun _ => ⟨rfl, rfl, rfl, rfl, rfl⟩, (fun hn => by cases hn)⟩⟩, fp⟩
    | false =>
      have hq0 := quiet rfl
      obtain ⟨_, _, _, _, _, k5, k6, k7, k8⟩ := hq0.cells
      exact ⟨0, _, .slice none 0 0, ⟨outErr q.o, outN q.o, 0, [], 0, 0, q.n⟩, rfl, ⟨Or.inr ⟨_, _, rfl⟩, k5, k6, k7, k8, nil0, c4, ⟨by omega, lts⟩, rfl, tell, ⟨Nat.zero_le _, rfl, fun hn => absurd hn hfine, fun _ => ⟨rfl, rfl, rfl, rfl, rfl⟩, fun _ => ⟨rfl, rfl⟩⟩⟩, fp⟩
end Go.Proofs.YtljcljipppjnoabGreatDoor

namespace Go.Proofs.YtljcljipppjnoabGreatDoor
open Go.RowKit Go.Shelf
def wnV (r : Wn) : Value := .agg #[.int .i64 r.err, .int .i64 r.N, .int .i64 r.cnt, .string ⟨r.got.toArray⟩, .int .i64 r.of, .int .i64 r.mo, .bool false, .int .i64 r.rd]
def HtOut (q : Gh) (s : Option Ou) (W : World) (e : Ending) (w' : World) : Prop := ∃ r : Wn, e = .returned (wnV r) ∧ HtRel q s r ∧ Below W.heap.size W w'
abbrev wrZero : Obj := .cells #[.int .i64 0, .int .i64 0, .int .i64 0, .string ⟨#[]⟩, .int .i64 0, .int .i64 0, .bool false, .int .i64 0] 25 (0, 0)
def htBegun (i o : Array Value) (W : World) : World := ((W.alloc (.cells i 29)).alloc (.cells o 32)).alloc (.cells #[.int .i64 0, .int .i64 0, .int .i64 0, .string ⟨#[]⟩, .int .i64 0, .int .i64 0, .bool false, .int .i64 0] 25)
theorem htBegun_facts (i o : Array Value) (W : World) : (htBegun i o W).heap.size = W.heap.size + 3 ∧ Below W.heap.size W (htBegun i o W) ∧ (htBegun i o W).heap[W.heap.size]? = some (.cells i 29 (0, 0)) ∧ (htBegun i o W).heap[W.heap.size + 1]? = some (.cells o 32 (0, 0)) ∧ (htBegun i o W).heap[W.heap.size + 1 + 1]? = some wrZero := by
  unfold htBegun
  refine ⟨by simp, (((Below.refl _ W).alloc (Nat.le_refl _) _).alloc (by simp) _).alloc (by simp; omega) _, ?_, ?_, heap_new _ _ (by simp)⟩
  · rw [Below.heap_alloc _ _ _ (by simp; omega), Below.heap_alloc _ _ _ (by simp)]
    exact heap_new _ _ rfl
  · rw [Below.heap_alloc _ _ _ (by simp)]
    exact heap_new _ _ (by simp)
def HtS (bk bs : Nat) (gv : Value) (r : Wn) (w' : World) : Prop := w'.cell? ⟨bk, 8, none⟩ = some gv ∧ w'.cell? ⟨bk, 5, none⟩ = some (.int .i64 r.of) ∧ w'.cell? ⟨bk, 6, none⟩ = some (.int .i64 r.mo) ∧ w'.cell? ⟨bk, 7, none⟩ = some (.bool false) ∧ w'.cell? ⟨bs, 4, none⟩ = some (.int .i64 r.rd) ∧ (convert 37 9 gv).run Tryz.prog w' = .ok (.string ⟨r.got.toArray⟩) w'
theorem ht_tail {q : Gh} {s : Option Ou} {bs bk rb : Nat} {n : Int} {ev gv : Value} {r : Wn} {w2 : World} (h : HtBehind q s bs bk n ev gv r w2) (hr : w2.heap[rb]? = some wrZero) (hne : bk ≠ rb ∧ bs ≠ rb) :
    (∀ w', (∀ x, x < w2.heap.size → x ≠ rb → w'.heap[x]? = w2.heap[x]?) → HtS bk bs gv r w') ∧
    Calls Tryz.prog 8 #[ev] w2.drew fun e w' => e = .returned (.agg #[.int .i64 r.err, .int .i64 r.N]) ∧ HtS bk bs gv r w' ∧ w'.heap[rb]? = some wrZero ∧ Hid (∀ x, x < w2.heap.size → w'.heap[x]? = w2.heap[x]?) ∧ Hid (Below w2.heap.size w2 w') := by
  have key : ∀ w', (∀ x, x < w2.heap.size → x ≠ rb → w'.heap[x]? = w2.heap[x]?) → HtS bk bs gv r w' := by
    intro w' hk
    have kb := hk bk h.lt.1 hne.1
    have ks := hk bs h.lt.2 hne.2
    refine ⟨(World.cell?_of_block kb).trans h.c8, (World.cell?_of_block kb).trans h.c5, (World.cell?_of_block kb).trans h.c6, (World.cell?_of_block kb).trans h.c7, (World.cell?_of_block ks).trans h.c4, got_conv ⟨h.own.1, ?_⟩⟩
    rcases h.own.2 with h0 | ⟨g, cap, cur, hv, hg, hh, rr⟩
    · exact Or.inl h0
    · refine Or.inr ⟨g, cap, cur, hv, hg, (hk g (Array.getElem?_eq_some_iff.1 hh).1 (fun e => ?_)).trans hh, rr⟩
      rw [e, hr] at hh
      injection hh with hh
      injection hh with _ hh _
      exact absurd hh (by decide)
  refine ⟨key, (h.told w2.drew ((Below.refl _ w2).drew)).mono ?_⟩
  rintro e w' ⟨rfl, b⟩
  have hb : ∀ x, x < w2.heap.size → w'.heap[x]? = w2.heap[x]? := fun x hx => b.block x hx
  exact ⟨rfl, key w' (fun x hx _ => hb x hx), (hb rb (Array.getElem?_eq_some_iff.1 hr).1).trans hr, hb, ⟨b.os, b.tape, b.output, b.size, b.block⟩⟩
theorem wr_put {rb : Nat} {w : World} (h : w.heap[rb]? = some wrZero) (a b c d e f g i : Value) :
    ((((((((w.setCell ⟨rb, 0, none⟩ a).setCell ⟨rb, 1, none⟩ b).setCell ⟨rb, 2, none⟩ c).setCell ⟨rb, 3, none⟩ d).setCell ⟨rb, 4, none⟩ e).setCell ⟨rb, 5, none⟩ f).setCell ⟨rb, 6, none⟩ g).setCell ⟨rb, 7, none⟩ i).heap[rb]? = some (.cells #[a, b, c, d, e, f, g, i] 25 (0, 0)) := by
  have h0 := Joins.block_setCell (i := 0) h a
  have h1 := Joins.block_setCell (i := 1) h0 b
  have h2 := Joins.block_setCell (i := 2) h1 c
  have h3 := Joins.block_setCell (i := 3) h2 d
  have h4 := Joins.block_setCell (i := 4) h3 e
  have h5 := Joins.block_setCell (i := 5) h4 f
  have h6 := Joins.block_setCell (i := 6) h5 g
  have h7 := Joins.block_setCell (i := 7) h6 i
  simpa using h7
set_option maxRecDepth 100000 in
set_option maxHeartbeats 4000000 in
theorem html_any {w0 : World} {aL aI : Addr} {m : Int} {aS : Addr} (B : Base w0 aL aI m) (hS : w0.cell? ⟨0, 0, none⟩ = some (sinkV aS)) {q : Gh} (hq : q.Ok) {u : Ou} (hu : u.Ok w0) (snk : Bool) (cv0 : Value) (W : World) (hW : Below w0.heap.size w0 W) (hN : NumsAt cv0 q.cs W) (md : Int) (hmd : (md = 0 ∧ q.src = true ∧ snk = true) ∨ (md = 1 ∧ q.src = false ∧ snk = true) ∨ (md = 2 ∧ q.src = true ∧ snk = false)) :
    Calls Tryz.prog 4 #[.agg #[.string q.tx, cv0, .int .i64 q.fa, .bool q.wt], .agg #[u.tv, .int .i64 u.fa, .int .i64 u.la, .int .i64 u.li], .int .i64 md] W (HtOut q (if snk = true then some u else none) W) := by
  obtain ⟨ca, n0, cp, hcv⟩ : ∃ ca n0 cp, cv0 = .slice ca n0 cp := by
    rcases hN with ⟨_, ca, cap, rfl⟩ | ⟨g, o, cap, rfl, _⟩
    · exact ⟨_, _, _, rfl⟩
    · exact ⟨_, _, _, rfl⟩
  subst hcv
  obtain ⟨ta, tl, tc, htv⟩ : ∃ ta tl tc, u.tv = .slice ta tl tc := by
    rcases hu.takes with ⟨_, ta, tc, h⟩ | ⟨_, tg, tp, tc, h, _⟩
    · exact ⟨_, _, _, h⟩
    · exact ⟨_, _, _, h⟩
  obtain ⟨z3, b3, i0, i1, i2⟩ := htBegun_facts #[.string q.tx, .slice ca n0 cp, .int .i64 q.fa, .bool q.wt] #[.slice ta tl tc, .int .i64 u.fa, .int .i64 u.la, .int .i64 u.li] W
  obtain ⟨W3, hW3⟩ : ∃ W3, htBegun #[.string q.tx, .slice ca n0 cp, .int .i64 q.fa, .bool q.wt] #[.slice ta tl tc, .int .i64 u.fa, .int .i64 u.la, .int .i64 u.li] W = W3 := ⟨_, rfl⟩
  rw [hW3] at z3 b3 i0 i1 i2
  have hz := hW.size
  have hN3 : NumsAt (.slice ca n0 cp) q.cs W3 := by
    rcases hN with h | ⟨g, o, cap, h1, h2, h3⟩
    · exact Or.inl h
    · refine Or.inr ⟨g, o, cap, h1, by omega, fun j c hj => ?_⟩
      rw [← h3 j c hj]
      exact World.cell?_of_block (b3.block g h2)
  have cS := source_new q.tx (.slice ca n0 cp) q.cs q.fa q.wt W3 hN3 hq.cuts
  have hW3' : Below w0.heap.size w0 W3 := hW.trans (b3.mono hz)
  -- behind the source: the sink is laid; Write
  have cW : ∀ (w1 : World) (bs : Nat) (cv : Value), W3.heap.size ≤ bs → SrcAt bs q.tx cv q.fa q.wt 0 false w1 → CutsOK bs cv q.cs w1 → (∀ g o l c, cv = .slice (some ⟨g, o, none⟩) l c → W3.heap.size ≤ g ∧ g ≠ bs ∧ g < w1.heap.size) → Below W3.heap.size W3 w1 →
      Calls Tryz.prog 7 #[srcV q bs, svOf (if snk = true then some u else none) w1.heap.size] (w1.alloc (.cells #[.slice ta tl tc, .int .i64 0, .int .i64 u.fa, .int .i64 u.la, .int .i64 u.li, .int .i64 0, .int .i64 0, .bool false, .slice none 0 0] 39)) fun e w' => ∃ (n : Int) (ev gv : Value) (r : Wn), e = .returned (.tuple #[.int .i64 n, ev]) ∧ Hid (HtBehind q (if snk = true then some u else none) bs w1.heap.size n ev gv r w') ∧ Hid (Below W3.heap.size W3 w' ∧ w1.heap.size + 1 ≤ w'.heap.size) := by
    intro w1 bs cv hbs d1 d2 d3 d4
    have hbl := d1.lt
    have z1 := d4.size
    obtain ⟨w2, hw2⟩ : ∃ w2, w1.alloc (.cells #[.slice ta tl tc, .int .i64 0, .int .i64 u.fa, .int .i64 u.la, .int .i64 u.li, .int .i64 0, .int .i64 0, .bool false, .slice none 0 0] 39) = w2 := ⟨_, rfl⟩
    have b2 : Below w1.heap.size w1 w2 := by rw [← hw2]; exact (Below.refl _ w1).alloc (Nat.le_refl _) _
    have z2 : w2.heap.size = w1.heap.size + 1 := by rw [← hw2]; simp
    have hk : SnkAt w1.heap.size u.tv 0 u.fa u.la u.li 0 0 false (.slice none 0 0) w2 := by
      rw [← hw2, htv]
      exact heap_new _ _ rfl
    obtain ⟨g, o, cap, hcv, a1, a2, a3, a4, a5⟩ := d2
    have hg := d3 g o _ _ hcv
    rw [hw2]
    refine (write_told B hS hq hu snk (OS := fun x => x = bs ∨ x = g) (hW3'.trans ((d4.trans (b2.mono z1)).mono hW3'.size)) ?_ (by have := hW3'.size; omega) ((b2.block bs hbl).trans d1) ⟨g, o, cap, hcv, a1, a2, a3, by omega, fun i c hi => (b2.cell (p := ⟨g, o + i, none⟩) a4).trans (a5 i c hi)⟩ ?_ (Or.inl rfl) ?_ ?_ hk).mono ?_
    · have := hW3'.size
      rintro x (h | h) <;> omega
    · intro g' o' l' c' he
      rw [hcv] at he
      injection he with he _ _
      injection he with he
      injection he with he _
      exact Or.inr he.symm
    · rintro x (h | h) <;> omega
    · rintro (h | h) <;> omega
    · rintro e w' ⟨n, ev, gv, r, h1, h2, h3⟩
      refine ⟨n, ev, gv, r, h1, h2, ?_, by have := h3.size; omega⟩
      refine (d4.trans (b2.mono z1)).trans (h3.under (by omega) ?_)
      rintro x ((h | h) | h) <;> omega
  have CW : Hid _ := cW
  have HB3 : Hid (Below W.heap.size W W3 ∧ W3.heap.size = W.heap.size + 3 ∧ W3.heap[W.heap.size + 1 + 1]? = some wrZero) := ⟨b3, z3, i2⟩
  have j0 := row_cell (i := 0) i0 rfl
  have j1 := row_cell (i := 1) i0 rfl
  have j2 := row_cell (i := 2) i0 rfl
  have j3 := row_cell (i := 3) i0 rfl
  have k0 := row_cell (i := 0) i1 rfl
  have k1 := row_cell (i := 1) i1 rfl
  have k2 := row_cell (i := 2) i1 rfl
  have k3 := row_cell (i := 3) i1 rfl
  -- the last region: what it reads
  have HW3 : Hid (htBegun #[.string q.tx, .slice ca n0 cp, .int .i64 q.fa, .bool q.wt] #[.slice ta tl tc, .int .i64 u.fa, .int .i64 u.la, .int .i64 u.li] W = W3) := hW3
  unfold htBegun at hW3
  rw [htv]
  clear cW hN hN3 hW3' i0 i1 i2 b3 z3 hW B hS hq hu htv HW3
  rcases hmd with ⟨rfl, hs, rfl⟩ | ⟨rfl, hs, rfl⟩ | ⟨rfl, hs, rfl⟩
  · simp only [srcV, hs, svOf, if_true, Option.isSome_some] at CW
    go_enter Tryz.func4, Tryz.ntmps4
    go_wp2_with (first
      | (go_at_call 6; refine cS.mono ?_; rintro e w1 ⟨bs, cv, rfl, d1, d2, d3, d4, d5⟩; have l0 := (d5.cell (p := ⟨W.heap.size + 1, 0, none⟩) (by show W.heap.size + 1 < _; have := HB3.out.2.1; omega)).trans k0; have l1 := (d5.cell (p := ⟨W.heap.size + 1, 1, none⟩) (by show W.heap.size + 1 < _; have := HB3.out.2.1; omega)).trans k1; have l2 := (d5.cell (p := ⟨W.heap.size + 1, 2, none⟩) (by show W.heap.size + 1 < _; have := HB3.out.2.1; omega)).trans k2; have l3 := (d5.cell (p := ⟨W.heap.size + 1, 3, none⟩) (by show W.heap.size + 1 < _; have := HB3.out.2.1; omega)).trans k3)
      | (go_at_call 7; refine (CW.out w1 bs cv d1 d2 d3 d4 d5).mono ?_; rintro e w2 ⟨n, ev, gv, r, rfl, HF, HG⟩; rcases HF.out.form with hev | ⟨t, x, hev⟩ <;> subst hev))
    all_goals
      have hr2 : w2.heap[W.heap.size + 1 + 1]? = some wrZero := (HG.out.1.block _ (by have := HB3.out.2.1; omega)).trans HB3.out.2.2
      have z2 := HG.out.2
      have z5 := d5.size
      obtain ⟨kp, cT⟩ := ht_tail HF.out hr2 (by have := HB3.out.2.1; omega)
      have KP : Hid _ := kp
      have HD : Hid (Below W3.heap.size W3 w1) := d5
      clear kp d1 d2 d3 d4 d5 hr2 CW cS l0 l1 l2 l3 j0 j1 j2 j3 k0 k1 k2 k3 hW3
      have S0 := KP.out w2.drew (fun _ _ _ => rfl)
      unfold HtS at cT S0
      go_region_held3 (fun w' => w'.cell? ⟨w1.heap.size, 8, none⟩ = some gv ∧ w'.cell? ⟨w1.heap.size, 5, none⟩ = some (.int .i64 r.of) ∧ w'.cell? ⟨w1.heap.size, 6, none⟩ = some (.int .i64 r.mo) ∧ w'.cell? ⟨w1.heap.size, 7, none⟩ = some (.bool false) ∧ w'.cell? ⟨bs, 4, none⟩ = some (.int .i64 r.rd) ∧ (convert 37 9 gv).run Tryz.prog w' = .ok (.string ⟨r.got.toArray⟩) w') (first | with_reducible exact S0 | with_reducible exact SA | exact KP.out _ (fun x hx hn => by rw [Below.heap_setCell _ _ _ _ hn, Below.heap_setCell _ _ _ _ hn, Below.heap_setCell _ _ _ _ hn, Below.heap_setCell _ _ _ _ hn, Below.heap_setCell _ _ _ _ hn, Below.heap_setCell _ _ _ _ hn, Below.heap_setCell _ _ _ _ hn, Below.heap_setCell _ _ _ _ hn]; exact HX.out x hx)) ((go_at_call 8; refine cT.mono ?_; rintro e w3 ⟨rfl, SA, hres, HX, HBB⟩; have y0 := row_cell (i := 0) hres rfl; have y1 := row_cell (i := 1) hres rfl; have y2 := row_cell (i := 2) hres rfl; have y3 := row_cell (i := 3) hres rfl; have y4 := row_cell (i := 4) hres rfl; have y5 := row_cell (i := 5) hres rfl; have y6 := row_cell (i := 6) hres rfl; have y7 := row_cell (i := 7) hres rfl; have g0 := row_free (i := 0) hres; have g1 := row_free (i := 1) hres; have g2 := row_free (i := 2) hres; have g3 := row_free (i := 3) hres; have g4 := row_free (i := 4) hres; have g5 := row_free (i := 5) hres; have g6 := row_free (i := 6) hres; have g7 := row_free (i := 7) hres))
      go_wp2
      have hp := wr_put hres (.int .i64 r.err) (.int .i64 r.N) (.int .i64 n) (.string ⟨r.got.toArray⟩) (.int .i64 r.of) (.int .i64 r.mo) (.bool false) (.int .i64 r.rd)
      have e0 := row_cell (i := 0) hp rfl
      have e1 := row_cell (i := 1) hp rfl
      have e2 := row_cell (i := 2) hp rfl
      have e3 := row_cell (i := 3) hp rfl
      have e4 := row_cell (i := 4) hp rfl
      have e5 := row_cell (i := 5) hp rfl
      have e6 := row_cell (i := 6) hp rfl
      have e7 := row_cell (i := 7) hp rfl
      refine bodyPost_ret (v := wnV r) ?_ rfl ⟨r, rfl, HF.out.rel, ?_⟩
      · unfold wnV
        rw [HF.out.cnt]
        simp [results, Tryz.results4, go_sem, e0, e1, e2, e3, e4, e5, e6, e7]
      · have hz3 := HB3.out.2.1
        have hW2 : Below W.heap.size W w3 := (HB3.out.1.trans (HG.out.1.mono (by omega))).trans (HBB.out.mono (by omega))
        exact (((((((hW2.setCell (p := ⟨W.heap.size + 1 + 1, 0, none⟩) (by show _ ≤ W.heap.size + 1 + 1; omega) _).setCell (p := ⟨W.heap.size + 1 + 1, 1, none⟩) (by show _ ≤ W.heap.size + 1 + 1; omega) _).setCell (p := ⟨W.heap.size + 1 + 1, 2, none⟩) (by show _ ≤ W.heap.size + 1 + 1; omega) _).setCell (p := ⟨W.heap.size + 1 + 1, 3, none⟩) (by show _ ≤ W.heap.size + 1 + 1; omega) _).setCell (p := ⟨W.heap.size + 1 + 1, 4, none⟩) (by show _ ≤ W.heap.size + 1 + 1; omega) _).setCell (p := ⟨W.heap.size + 1 + 1, 5, none⟩) (by show _ ≤ W.heap.size + 1 + 1; omega) _).setCell (p := ⟨W.heap.size + 1 + 1, 6, none⟩) (by show _ ≤ W.heap.size + 1 + 1; omega) _).setCell (p := ⟨W.heap.size + 1 + 1, 7, none⟩) (by show _ ≤ W.heap.size + 1 + 1; omega) _
  · simp only [srcV, hs, svOf, if_true, Option.isSome_some, Bool.false_eq_true, if_false] at CW
    go_enter Tryz.func4, Tryz.ntmps4
    go_wp2_with (first
      | (go_at_call 6; refine cS.mono ?_; rintro e w1 ⟨bs, cv, rfl, d1, d2, d3, d4, d5⟩; have l0 := (d5.cell (p := ⟨W.heap.size + 1, 0, none⟩) (by show W.heap.size + 1 < _; have := HB3.out.2.1; omega)).trans k0; have l1 := (d5.cell (p := ⟨W.heap.size + 1, 1, none⟩) (by show W.heap.size + 1 < _; have := HB3.out.2.1; omega)).trans k1; have l2 := (d5.cell (p := ⟨W.heap.size + 1, 2, none⟩) (by show W.heap.size + 1 < _; have := HB3.out.2.1; omega)).trans k2; have l3 := (d5.cell (p := ⟨W.heap.size + 1, 3, none⟩) (by show W.heap.size + 1 < _; have := HB3.out.2.1; omega)).trans k3)
      | (go_at_call 7; refine (CW.out w1 bs cv d1 d2 d3 d4 d5).mono ?_; rintro e w2 ⟨n, ev, gv, r, rfl, HF, HG⟩; rcases HF.out.form with hev | ⟨t, x, hev⟩ <;> subst hev))
    all_goals
      have hr2 : w2.heap[W.heap.size + 1 + 1]? = some wrZero := (HG.out.1.block _ (by have := HB3.out.2.1; omega)).trans HB3.out.2.2
      have z2 := HG.out.2
      have z5 := d5.size
      obtain ⟨kp, cT⟩ := ht_tail HF.out hr2 (by have := HB3.out.2.1; omega)
      have KP : Hid _ := kp
      have HD : Hid (Below W3.heap.size W3 w1) := d5
      clear kp d1 d2 d3 d4 d5 hr2 CW cS l0 l1 l2 l3 j0 j1 j2 j3 k0 k1 k2 k3 hW3
      have S0 := KP.out w2.drew (fun _ _ _ => rfl)
      unfold HtS at cT S0
      go_region_held3 (fun w' => w'.cell? ⟨w1.heap.size, 8, none⟩ = some gv ∧ w'.cell? ⟨w1.heap.size, 5, none⟩ = some (.int .i64 r.of) ∧ w'.cell? ⟨w1.heap.size, 6, none⟩ = some (.int .i64 r.mo) ∧ w'.cell? ⟨w1.heap.size, 7, none⟩ = some (.bool false) ∧ w'.cell? ⟨bs, 4, none⟩ = some (.int .i64 r.rd) ∧ (convert 37 9 gv).run Tryz.prog w' = .ok (.string ⟨r.got.toArray⟩) w') (first | with_reducible exact S0 | with_reducible exact SA | exact KP.out _ (fun x hx hn => by rw [Below.heap_setCell _ _ _ _ hn, Below.heap_setCell _ _ _ _ hn, Below.heap_setCell _ _ _ _ hn, Below.heap_setCell _ _ _ _ hn, Below.heap_setCell _ _ _ _ hn, Below.heap_setCell _ _ _ _ hn, Below.heap_setCell _ _ _ _ hn, Below.heap_setCell _ _ _ _ hn]; exact HX.out x hx)) ((go_at_call 8; refine cT.mono ?_; rintro e w3 ⟨rfl, SA, hres, HX, HBB⟩; have y0 := row_cell (i := 0) hres rfl; have y1 := row_cell (i := 1) hres rfl; have y2 := row_cell (i := 2) hres rfl; have y3 := row_cell (i := 3) hres rfl; have y4 := row_cell (i := 4) hres rfl; have y5 := row_cell (i := 5) hres rfl; have y6 := row_cell (i := 6) hres rfl; have y7 := row_cell (i := 7) hres rfl; have g0 := row_free (i := 0) hres; have g1 := row_free (i := 1) hres; have g2 := row_free (i := 2) hres; have g3 := row_free (i := 3) hres; have g4 := row_free (i := 4) hres; have g5 := row_free (i := 5) hres; have g6 := row_free (i := 6) hres; have g7 := row_free (i := 7) hres))
      go_wp2
      have hp := wr_put hres (.int .i64 r.err) (.int .i64 r.N) (.int .i64 n) (.string ⟨r.got.toArray⟩) (.int .i64 r.of) (.int .i64 r.mo) (.bool false) (.int .i64 r.rd)
      have e0 := row_cell (i := 0) hp rfl
      have e1 := row_cell (i := 1) hp rfl
      have e2 := row_cell (i := 2) hp rfl
      have e3 := row_cell (i := 3) hp rfl
      have e4 := row_cell (i := 4) hp rfl
      have e5 := row_cell (i := 5) hp rfl
      have e6 := row_cell (i := 6) hp rfl
      have e7 := row_cell (i := 7) hp rfl
      refine bodyPost_ret (v := wnV r) ?_ rfl ⟨r, rfl, HF.out.rel, ?_⟩
      · unfold wnV
        rw [HF.out.cnt]
        simp [results, Tryz.results4, go_sem, e0, e1, e2, e3, e4, e5, e6, e7]
      · have hz3 := HB3.out.2.1
        have hW2 : Below W.heap.size W w3 := (HB3.out.1.trans (HG.out.1.mono (by omega))).trans (HBB.out.mono (by omega))
        exact (((((((hW2.setCell (p := ⟨W.heap.size + 1 + 1, 0, none⟩) (by show _ ≤ W.heap.size + 1 + 1; omega) _).setCell (p := ⟨W.heap.size + 1 + 1, 1, none⟩) (by show _ ≤ W.heap.size + 1 + 1; omega) _).setCell (p := ⟨W.heap.size + 1 + 1, 2, none⟩) (by show _ ≤ W.heap.size + 1 + 1; omega) _).setCell (p := ⟨W.heap.size + 1 + 1, 3, none⟩) (by show _ ≤ W.heap.size + 1 + 1; omega) _).setCell (p := ⟨W.heap.size + 1 + 1, 4, none⟩) (by show _ ≤ W.heap.size + 1 + 1; omega) _).setCell (p := ⟨W.heap.size + 1 + 1, 5, none⟩) (by show _ ≤ W.heap.size + 1 + 1; omega) _).setCell (p := ⟨W.heap.size + 1 + 1, 6, none⟩) (by show _ ≤ W.heap.size + 1 + 1; omega) _).setCell (p := ⟨W.heap.size + 1 + 1, 7, none⟩) (by show _ ≤ W.heap.size + 1 + 1; omega) _
  · simp only [srcV, hs, svOf, if_true, Option.isSome_none, Bool.false_eq_true, if_false] at CW
    go_enter Tryz.func4, Tryz.ntmps4
    go_wp2_with (first
      | (go_at_call 6; refine cS.mono ?_; rintro e w1 ⟨bs, cv, rfl, d1, d2, d3, d4, d5⟩; have l0 := (d5.cell (p := ⟨W.heap.size + 1, 0, none⟩) (by show W.heap.size + 1 < _; have := HB3.out.2.1; omega)).trans k0; have l1 := (d5.cell (p := ⟨W.heap.size + 1, 1, none⟩) (by show W.heap.size + 1 < _; have := HB3.out.2.1; omega)).trans k1; have l2 := (d5.cell (p := ⟨W.heap.size + 1, 2, none⟩) (by show W.heap.size + 1 < _; have := HB3.out.2.1; omega)).trans k2; have l3 := (d5.cell (p := ⟨W.heap.size + 1, 3, none⟩) (by show W.heap.size + 1 < _; have := HB3.out.2.1; omega)).trans k3)
      | (go_at_call 7; refine (CW.out w1 bs cv d1 d2 d3 d4 d5).mono ?_; rintro e w2 ⟨n, ev, gv, r, rfl, HF, HG⟩; rcases HF.out.form with hev | ⟨t, x, hev⟩ <;> subst hev))
    all_goals
      have hr2 : w2.heap[W.heap.size + 1 + 1]? = some wrZero := (HG.out.1.block _ (by have := HB3.out.2.1; omega)).trans HB3.out.2.2
      have z2 := HG.out.2
      have z5 := d5.size
      obtain ⟨kp, cT⟩ := ht_tail HF.out hr2 (by have := HB3.out.2.1; omega)
      have KP : Hid _ := kp
      have HD : Hid (Below W3.heap.size W3 w1) := d5
      clear kp d1 d2 d3 d4 d5 hr2 CW cS l0 l1 l2 l3 j0 j1 j2 j3 k0 k1 k2 k3 hW3
      have S0 := KP.out w2.drew (fun _ _ _ => rfl)
      unfold HtS at cT S0
      go_region_held3 (fun w' => w'.cell? ⟨w1.heap.size, 8, none⟩ = some gv ∧ w'.cell? ⟨w1.heap.size, 5, none⟩ = some (.int .i64 r.of) ∧ w'.cell? ⟨w1.heap.size, 6, none⟩ = some (.int .i64 r.mo) ∧ w'.cell? ⟨w1.heap.size, 7, none⟩ = some (.bool false) ∧ w'.cell? ⟨bs, 4, none⟩ = some (.int .i64 r.rd) ∧ (convert 37 9 gv).run Tryz.prog w' = .ok (.string ⟨r.got.toArray⟩) w') (first | with_reducible exact S0 | with_reducible exact SA | exact KP.out _ (fun x hx hn => by rw [Below.heap_setCell _ _ _ _ hn, Below.heap_setCell _ _ _ _ hn, Below.heap_setCell _ _ _ _ hn, Below.heap_setCell _ _ _ _ hn, Below.heap_setCell _ _ _ _ hn, Below.heap_setCell _ _ _ _ hn, Below.heap_setCell _ _ _ _ hn, Below.heap_setCell _ _ _ _ hn]; exact HX.out x hx)) ((go_at_call 8; refine cT.mono ?_; rintro e w3 ⟨rfl, SA, hres, HX, HBB⟩; have y0 := row_cell (i := 0) hres rfl; have y1 := row_cell (i := 1) hres rfl; have y2 := row_cell (i := 2) hres rfl; have y3 := row_cell (i := 3) hres rfl; have y4 := row_cell (i := 4) hres rfl; have y5 := row_cell (i := 5) hres rfl; have y6 := row_cell (i := 6) hres rfl; have y7 := row_cell (i := 7) hres rfl; have g0 := row_free (i := 0) hres; have g1 := row_free (i := 1) hres; have g2 := row_free (i := 2) hres; have g3 := row_free (i := 3) hres; have g4 := row_free (i := 4) hres; have g5 := row_free (i := 5) hres; have g6 := row_free (i := 6) hres; have g7 := row_free (i := 7) hres))
      go_wp2
      have hp := wr_put hres (.int .i64 r.err) (.int .i64 r.N) (.int .i64 n) (.string ⟨r.got.toArray⟩) (.int .i64 r.of) (.int .i64 r.mo) (.bool false) (.int .i64 r.rd)
      have e0 := row_cell (i := 0) hp rfl
      have e1 := row_cell (i := 1) hp rfl
      have e2 := row_cell (i := 2) hp rfl
      have e3 := row_cell (i := 3) hp rfl
      have e4 := row_cell (i := 4) hp rfl
      have e5 := row_cell (i := 5) hp rfl
      have e6 := row_cell (i := 6) hp rfl
      have e7 := row_cell (i := 7) hp rfl
      refine bodyPost_ret (v := wnV r) ?_ rfl ⟨r, rfl, HF.out.rel, ?_⟩
      · unfold wnV
        rw [HF.out.cnt]
        simp [results, Tryz.results4, go_sem, e0, e1, e2, e3, e4, e5, e6, e7]
      · have hz3 := HB3.out.2.1
        have hW2 : Below W.heap.size W w3 := (HB3.out.1.trans (HG.out.1.mono (by omega))).trans (HBB.out.mono (by omega))
        exact (((((((hW2.setCell (p := ⟨W.heap.size + 1 + 1, 0, none⟩) (by show _ ≤ W.heap.size + 1 + 1; omega) _).setCell (p := ⟨W.heap.size + 1 + 1, 1, none⟩) (by show _ ≤ W.heap.size + 1 + 1; omega) _).setCell (p := ⟨W.heap.size + 1 + 1, 2, none⟩) (by show _ ≤ W.heap.size + 1 + 1; omega) _).setCell (p := ⟨W.heap.size + 1 + 1, 3, none⟩) (by show _ ≤ W.heap.size + 1 + 1; omega) _).setCell (p := ⟨W.heap.size + 1 + 1, 4, none⟩) (by show _ ≤ W.heap.size + 1 + 1; omega) _).setCell (p := ⟨W.heap.size + 1 + 1, 5, none⟩) (by show _ ≤ W.heap.size + 1 + 1; omega) _).setCell (p := ⟨W.heap.size + 1 + 1, 6, none⟩) (by show _ ≤ W.heap.size + 1 + 1; omega) _).setCell (p := ⟨W.heap.size + 1 + 1, 7, none⟩) (by show _ ≤ W.heap.size + 1 + 1; omega) _
end Go.Proofs.YtljcljipppjnoabGreatDoor

namespace Go.Proofs.YtljcljipppjnoabGreatDoor
open Go.RowKit Go.Shelf
def u0 : Ou := ⟨.slice none 0 0, [], 0, 0, 0⟩
theorem u0_ok (w0 : World) : u0.Ok w0 := ⟨Or.inl ⟨rfl, none, 0, rfl⟩, Nat.zero_le _⟩
def uT (tv : Value) (ts : List Int) : Ou := ⟨tv, ts, 0, 0, 0⟩
end Go.Proofs.YtljcljipppjnoabGreatDoor

namespace Go.Proofs.YtljcljipppjnoabGreatDoor
open Go.RowKit Go.Shelf
theorem whole_gh (tx : ByteArray) (hs : tx.size ≤ 1048576) : ∃ q : Gh, q.Ok ∧ q.src = true ∧ q.tx = tx ∧ q.cs = [] ∧ q.fa = 0 ∧ q.wt = false ∧ q.o = if 300 < tx.size then .long else .fine tx := by
  obtain ⟨⟨o, n⟩, hg⟩ := gat_some 0 false 2 tx [] 0 ByteArray.empty 0 (by split <;> simp)
  have ho := gat_cuts false [] tx ByteArray.empty 0 2 (by simp) trivial o n hg
  have e1 : ByteArray.empty ++ tx = tx := by
    apply ByteArray.ext
    rw [ByteArray.data_append]
    show #[] ++ tx.data = tx.data
    simp
  have e2 : ByteArray.empty.size = 0 := rfl
  rw [e1, e2, Nat.zero_add] at ho
  exact ⟨⟨true, tx, [], 0, false, o, n⟩, ⟨hs, by simp, fun _ => hg, fun h => by cases h⟩, rfl, rfl, rfl, rfl, rfl, ho⟩
theorem ht_plain {q : Gh} {u : Ou} {r : Wn} (h : HtRel q (some u) r) (hf : u.fa < 1) (hl : u.la < 1) (hfine : ∃ t, q.o = .fine t) : r.err = 0 ∧ r.cnt = ((pageS (evq q)).length : Nat) ∧ r.got = pageS (evq q) ∧ (u.one = true → r.of = r.got.length) := by
  rcases h.fine hfine with ⟨e, _, tk, of, got, hr, hc, hg⟩ | ⟨u', wr, N, hu, hb, _⟩
  · obtain ⟨a1, a2⟩ := Run.all (show Run u.one u.fa u.la u.li (pageS (evq q)) of tk got [] [] from hr) (Or.inl hl)
    obtain ⟨g1, g2⟩ := hg rfl
    refine ⟨e, by rw [hc, a2], by rw [g1, a1], fun ho => ?_⟩
    rw [g1, g2]
    exact ((show Run u.one u.fa u.la u.li (pageS (evq q)) of tk got [] [] from hr).ones ho).symm
  · injection hu with hu
    subst hu
    have := hb.pos
    rcases hb.kind with ⟨_, h1, _⟩ | ⟨_, h1⟩ <;> omega
theorem ht_long {q : Gh} {s : Option Ou} {r : Wn} (h : HtRel q s r) (hl : q.o = .long) : r.err = 1 ∧ r.N = 0 ∧ r.cnt = 0 ∧ r.of = 0 ∧ r.got = [] := by
  have := h.bad (by rintro ⟨t, ht⟩; rw [hl] at ht; cases ht)
  rw [hl] at this
  exact this
theorem whole_any (s : ByteArray) (w : World) :
    Calls Tryz.prog 5 #[.string s] w fun e w' => e = .returned (.agg #[.string s, .slice none 0 0, .int .i64 0, .bool false]) ∧ Below w.heap.size w w' := by
  go_enter Tryz.func5, Tryz.ntmps5
  go_wp2
  exact bodyPost_ret (v := .agg #[.string s, .slice none 0 0, .int .i64 0, .bool false]) (by simp [results, Tryz.results5, go_sem]) rfl ⟨rfl, (Below.refl _ w).alloc (Nat.le_refl _) _⟩
def aliveT : ByteArray := ⟨#[42, 97, 42]⟩
def aliveP : List UInt8 := [60, 112, 62, 60, 101, 109, 62, 97, 60, 47, 101, 109, 62, 60, 47, 112, 62, 10]
theorem html_whole {w0 : World} {aL aI : Addr} {m : Int} {aS : Addr} (B : Base w0 aL aI m) (hS : w0.cell? ⟨0, 0, none⟩ = some (sinkV aS)) {u : Ou} (hu : u.Ok w0) {q : Gh} (hq : q.Ok) (h1 : q.src = true) (h3 : q.cs = []) (h4 : q.fa = 0) (h5 : q.wt = false) (W : World) (hW : Below w0.heap.size w0 W) :
    Calls Tryz.prog 4 #[.agg #[.string q.tx, .slice none 0 0, .int .i64 0, .bool false], .agg #[u.tv, .int .i64 u.fa, .int .i64 u.la, .int .i64 u.li], .int .i64 0] W (HtOut q (some u) W) := by
  have := html_any B hS hq hu true (.slice none 0 0) W hW (Or.inl ⟨h3, none, 0, rfl⟩) 0 (Or.inl ⟨rfl, h1, rfl⟩)
  rw [h4, h5] at this
  simpa using this
end Go.Proofs.YtljcljipppjnoabGreatDoor

namespace Go.Proofs.YtljcljipppjnoabGreatDoor
open Go.RowKit Go.Shelf
def PGof (tx : ByteArray) : List UInt8 := if 300 < tx.size then [] else pageS (eventsS (reg tx))
def Eof (tx : ByteArray) : Int := if 300 < tx.size then 1 else 0
theorem html_text {w0 : World} {aL aI : Addr} {m : Int} {aS : Addr} (B : Base w0 aL aI m) (hS : w0.cell? ⟨0, 0, none⟩ = some (sinkV aS)) {u : Ou} (hu : u.Ok w0) (hf : u.fa < 1) (hl : u.la < 1) (tx : ByteArray) (hs : tx.size ≤ 1048576) (W : World) (hW : Below w0.heap.size w0 W) :
    Calls Tryz.prog 4 #[.agg #[.string tx, .slice none 0 0, .int .i64 0, .bool false], .agg #[u.tv, .int .i64 u.fa, .int .i64 u.la, .int .i64 u.li], .int .i64 0] W fun e w' => ∃ (N rd : Int) (of mo : Nat), e = .returned (.agg #[.int .i64 (Eof tx), .int .i64 N, .int .i64 ((PGof tx).length : Nat), .string ⟨(PGof tx).toArray⟩, .int .i64 of, .int .i64 mo, .bool false, .int .i64 rd]) ∧ (u.one = true → of = (PGof tx).length) ∧ Below W.heap.size W w' := by
  obtain ⟨q, hq, q1, q2, q3, q4, q5, q6⟩ := whole_gh tx hs
  have h := html_whole B hS hu hq q1 q3 q4 q5 W hW
  rw [q2] at h
  refine h.mono ?_
  rintro e w' ⟨r, rfl, hr, b⟩
  by_cases hx : 300 < tx.size
  · rw [if_pos hx] at q6
    obtain ⟨e1, _, e3, e4, e5⟩ := ht_long hr q6
    refine ⟨r.N, r.rd, r.of, r.mo, ?_, fun _ => ?_, b⟩
    · unfold wnV Eof PGof
      rw [e1, e3, e5, if_pos hx, if_pos hx]
      rfl
    · rw [e4]
      unfold PGof
      rw [if_pos hx]
      rfl
  · rw [if_neg hx] at q6
    have hp : pageS (evq q) = PGof tx := by
      unfold evq PGof
      rw [q6, if_neg hx]
      rfl
    obtain ⟨e1, e2, e3, e4⟩ := ht_plain hr hf hl ⟨_, q6⟩
    rw [hp] at e2 e3
    refine ⟨r.N, r.rd, r.of, r.mo, ?_, fun ho => ?_, b⟩
    · unfold wnV Eof
      rw [e1, e2, e3, if_neg hx]
    · rw [e4 ho, e3]
end Go.Proofs.YtljcljipppjnoabGreatDoor

namespace Go.Proofs.YtljcljipppjnoabGreatDoor
open Go.RowKit Go.Shelf
theorem pba_app (a b : List UInt8) : (⟨a.toArray⟩ : ByteArray) ++ (⟨b.toArray⟩ : ByteArray) = ⟨(a ++ b).toArray⟩ := by
  apply ByteArray.ext
  rw [ByteArray.data_append]
  simp
theorem letter_plain : ∀ c : UInt8, letterB c = true → plainB c := by
  intro c hc
  unfold letterB at hc
  simp at hc
  unfold plainB
  omega
def WordB (S : ByteArray) : Prop := ∃ w : List UInt8, S = ⟨w.toArray⟩ ∧ Word w
theorem wordB_one : WordB ⟨#[119]⟩ := ⟨[119], rfl, by simp, by intro c hc; simp at hc; subst hc; decide⟩
theorem wordB_next {S tx : ByteArray} {k : Nat} (hS : WordB S) (hk : k < tx.size) (h1 : 97 ≤ tx[k].toNat) (h2 : tx[k].toNat ≤ 122) : WordB (S ++ tx.extract k (k + 1)) := by
  obtain ⟨w, rfl, hw⟩ := hS
  have e : tx.extract k (k + 1) = ⟨[tx[k]].toArray⟩ := by
    apply ByteArray.ext
    apply Array.ext'
    rw [ByteArray.data_extract]
    have hk' : k < tx.data.size := hk
    rw [Array.toList_extract, List.extract_eq_take_drop]
    rw [show k + 1 - k = 1 by omega, List.drop_eq_getElem_cons (by simpa using hk')]
    rfl
  refine ⟨w ++ [tx[k]], by rw [e, pba_app], by simp, ?_⟩
  intro c hc
  rcases List.mem_append.1 hc with h | h
  · exact hw.all c h
  · simp at h
    subst h
    unfold letterB
    simp
    omega
theorem plain_app {a b : List UInt8} (ha : ∀ c ∈ a, plainB c) (hb : ∀ c ∈ b, plainB c) : ∀ c ∈ a ++ b, plainB c := by
  intro c hc
  rcases List.mem_append.1 hc with h | h
  · exact ha c h
  · exact hb c h
def pgA (S : ByteArray) : ByteArray := ⟨#[60, 112, 62]⟩ ++ S ++ ⟨#[60, 47, 112, 62, 10]⟩
theorem pg_a {S : ByteArray} (h : WordB S) : (⟨(pageS (eventsS (reg S))).toArray⟩ : ByteArray) = ⟨#[60, 112, 62]⟩ ++ S ++ ⟨#[60, 47, 112, 62, 10]⟩ := by
  obtain ⟨w, rfl, hw⟩ := h
  rw [reg_plain w (fun c hc => letter_plain c (hw.all c hc)), page_word w hw]
  rw [show (⟨#[60, 112, 62]⟩ : ByteArray) = ⟨[60, 112, 62].toArray⟩ from rfl, show (⟨#[60, 47, 112, 62, 10]⟩ : ByteArray) = ⟨[60, 47, 112, 62, 10].toArray⟩ from rfl, pba_app, pba_app]
theorem pg_b {S : ByteArray} (h : WordB S) : (⟨(pageS (eventsS (reg (⟨#[35, 35, 32]⟩ ++ S ++ ⟨#[32, 13, 10]⟩)))).toArray⟩ : ByteArray) = ⟨#[60, 104, 50, 62]⟩ ++ S ++ ⟨#[60, 47, 104, 50, 62, 10]⟩ := by
  obtain ⟨w, rfl, hw⟩ := h
  have hp : ∀ c ∈ w, plainB c := fun c hc => letter_plain c (hw.all c hc)
  have e : (⟨#[35, 35, 32]⟩ ++ ⟨w.toArray⟩ ++ ⟨#[32, 13, 10]⟩ : ByteArray) = ⟨(([35, 35, 32] ++ w ++ [32]) ++ [13, 10]).toArray⟩ := by
    rw [show (⟨#[35, 35, 32]⟩ : ByteArray) = ⟨[35, 35, 32].toArray⟩ from rfl, show (⟨#[32, 13, 10]⟩ : ByteArray) = ⟨[32, 13, 10].toArray⟩ from rfl, pba_app, pba_app]
    simp
  rw [e, reg_crlf _ (plain_app (plain_app (by unfold plainB; decide) hp) (by unfold plainB; decide))]
  rw [show ([35, 35, 32] ++ w ++ [32] ++ [10] : List UInt8) = 35 :: 35 :: 32 :: (w ++ [32, 10]) by simp, page_head w hw]
  rw [show (⟨#[60, 104, 50, 62]⟩ : ByteArray) = ⟨[60, 104, 50, 62].toArray⟩ from rfl, show (⟨#[60, 47, 104, 50, 62, 10]⟩ : ByteArray) = ⟨[60, 47, 104, 50, 62, 10].toArray⟩ from rfl, pba_app, pba_app]
theorem pg_c {S : ByteArray} (h : WordB S) : (⟨(pageS (eventsS (reg (⟨#[42]⟩ ++ S ++ ⟨#[42]⟩)))).toArray⟩ : ByteArray) = ⟨#[60, 112, 62, 60, 101, 109, 62]⟩ ++ S ++ ⟨#[60, 47, 101, 109, 62, 60, 47, 112, 62, 10]⟩ := by
  obtain ⟨w, rfl, hw⟩ := h
  have hp : ∀ c ∈ w, plainB c := fun c hc => letter_plain c (hw.all c hc)
  have e : (⟨#[42]⟩ ++ ⟨w.toArray⟩ ++ ⟨#[42]⟩ : ByteArray) = ⟨([42] ++ w ++ [42]).toArray⟩ := by
    rw [show (⟨#[42]⟩ : ByteArray) = ⟨[42].toArray⟩ from rfl, pba_app, pba_app]
  rw [e, reg_plain _ (plain_app (plain_app (by unfold plainB; decide) hp) (by unfold plainB; decide))]
  rw [show ([42] ++ w ++ [42] : List UInt8) = 42 :: (w ++ [42]) by simp, page_em w hw]
  rw [show (⟨#[60, 112, 62, 60, 101, 109, 62]⟩ : ByteArray) = ⟨[60, 112, 62, 60, 101, 109, 62].toArray⟩ from rfl, show (⟨#[60, 47, 101, 109, 62, 60, 47, 112, 62, 10]⟩ : ByteArray) = ⟨[60, 47, 101, 109, 62, 60, 47, 112, 62, 10].toArray⟩ from rfl, pba_app, pba_app]
theorem pg_d {S : ByteArray} (h : WordB S) : (⟨(pageS (eventsS (reg (⟨#[62, 32]⟩ ++ S)))).toArray⟩ : ByteArray) = ⟨#[60, 98, 108, 111, 99, 107, 113, 117, 111, 116, 101, 62, 10]⟩ ++ (⟨#[60, 112, 62]⟩ ++ S ++ ⟨#[60, 47, 112, 62, 10]⟩) ++ ⟨#[60, 47, 98, 108, 111, 99, 107, 113, 117, 111, 116, 101, 62, 10]⟩ := by
  obtain ⟨w, rfl, hw⟩ := h
  have hp : ∀ c ∈ w, plainB c := fun c hc => letter_plain c (hw.all c hc)
  have e : (⟨#[62, 32]⟩ ++ ⟨w.toArray⟩ : ByteArray) = ⟨([62, 32] ++ w).toArray⟩ := by
    rw [show (⟨#[62, 32]⟩ : ByteArray) = ⟨[62, 32].toArray⟩ from rfl, pba_app]
  rw [e, reg_plain _ (plain_app (by unfold plainB; decide) hp)]
  rw [show ([62, 32] ++ w : List UInt8) = 62 :: 32 :: w by simp, page_quote w hw]
  rw [show (⟨#[60, 112, 62]⟩ : ByteArray) = ⟨[60, 112, 62].toArray⟩ from rfl, show (⟨#[60, 47, 112, 62, 10]⟩ : ByteArray) = ⟨[60, 47, 112, 62, 10].toArray⟩ from rfl, show (⟨#[60, 98, 108, 111, 99, 107, 113, 117, 111, 116, 101, 62, 10]⟩ : ByteArray) = ⟨[60, 98, 108, 111, 99, 107, 113, 117, 111, 116, 101, 62, 10].toArray⟩ from rfl, show (⟨#[60, 47, 98, 108, 111, 99, 107, 113, 117, 111, 116, 101, 62, 10]⟩ : ByteArray) = ⟨[60, 47, 98, 108, 111, 99, 107, 113, 117, 111, 116, 101, 62, 10].toArray⟩ from rfl, pba_app, pba_app, pba_app, pba_app]
theorem pg_e {S : ByteArray} (h : WordB S) : (⟨(pageS (eventsS (reg (⟨#[45, 32]⟩ ++ S ++ ⟨#[10, 45, 32, 91]⟩ ++ S ++ ⟨#[93, 40]⟩ ++ S ++ ⟨#[41]⟩)))).toArray⟩ : ByteArray) = ⟨#[60, 117, 108, 62, 10, 60, 108, 105, 62, 10]⟩ ++ (⟨#[60, 112, 62]⟩ ++ S ++ ⟨#[60, 47, 112, 62, 10]⟩) ++ ⟨#[60, 47, 108, 105, 62, 10, 60, 108, 105, 62, 10, 60, 112, 62, 60, 97, 32, 104, 114, 101, 102, 61, 34]⟩ ++ S ++ ⟨#[34, 62]⟩ ++ S ++ ⟨#[60, 47, 97, 62, 60, 47, 112, 62, 10, 60, 47, 108, 105, 62, 10, 60, 47, 117, 108, 62, 10]⟩ := by
  obtain ⟨w, rfl, hw⟩ := h
  have hp : ∀ c ∈ w, plainB c := fun c hc => letter_plain c (hw.all c hc)
  have e : (⟨#[45, 32]⟩ ++ ⟨w.toArray⟩ ++ ⟨#[10, 45, 32, 91]⟩ ++ ⟨w.toArray⟩ ++ ⟨#[93, 40]⟩ ++ ⟨w.toArray⟩ ++ ⟨#[41]⟩ : ByteArray) = ⟨([45, 32] ++ w ++ [10, 45, 32, 91] ++ w ++ [93, 40] ++ w ++ [41]).toArray⟩ := by
    rw [show (⟨#[45, 32]⟩ : ByteArray) = ⟨[45, 32].toArray⟩ from rfl, show (⟨#[10, 45, 32, 91]⟩ : ByteArray) = ⟨[10, 45, 32, 91].toArray⟩ from rfl, show (⟨#[93, 40]⟩ : ByteArray) = ⟨[93, 40].toArray⟩ from rfl, show (⟨#[41]⟩ : ByteArray) = ⟨[41].toArray⟩ from rfl, pba_app, pba_app, pba_app, pba_app, pba_app, pba_app]
  rw [e, reg_plain _ (plain_app (plain_app (plain_app (plain_app (plain_app (plain_app (by unfold plainB; decide) hp) (by unfold plainB; decide)) hp) (by unfold plainB; decide)) hp) (by unfold plainB; decide))]
  rw [show ([45, 32] ++ w ++ [10, 45, 32, 91] ++ w ++ [93, 40] ++ w ++ [41] : List UInt8) = (45 :: 32 :: w) ++ 10 :: (45 :: 32 :: linkL w) by simp [linkL], page_items w hw]
  rw [show (⟨#[60, 112, 62]⟩ : ByteArray) = ⟨[60, 112, 62].toArray⟩ from rfl, show (⟨#[60, 47, 112, 62, 10]⟩ : ByteArray) = ⟨[60, 47, 112, 62, 10].toArray⟩ from rfl, show (⟨#[60, 117, 108, 62, 10, 60, 108, 105, 62, 10]⟩ : ByteArray) = ⟨[60, 117, 108, 62, 10, 60, 108, 105, 62, 10].toArray⟩ from rfl, show (⟨#[60, 47, 108, 105, 62, 10, 60, 108, 105, 62, 10, 60, 112, 62, 60, 97, 32, 104, 114, 101, 102, 61, 34]⟩ : ByteArray) = ⟨[60, 47, 108, 105, 62, 10, 60, 108, 105, 62, 10, 60, 112, 62, 60, 97, 32, 104, 114, 101, 102, 61, 34].toArray⟩ from rfl, show (⟨#[34, 62]⟩ : ByteArray) = ⟨[34, 62].toArray⟩ from rfl, show (⟨#[60, 47, 97, 62, 60, 47, 112, 62, 10, 60, 47, 108, 105, 62, 10, 60, 47, 117, 108, 62, 10]⟩ : ByteArray) = ⟨[60, 47, 97, 62, 60, 47, 112, 62, 10, 60, 47, 108, 105, 62, 10, 60, 47, 117, 108, 62, 10].toArray⟩ from rfl, pba_app, pba_app, pba_app, pba_app, pba_app, pba_app, pba_app, pba_app]
theorem ply_html {w0 : World} {aL aI : Addr} {m : Int} {aS : Addr} (B : Base w0 aL aI m) (hS : w0.cell? ⟨0, 0, none⟩ = some (sinkV aS)) (tx G : ByteArray) (hs : tx.size ≤ 300) (hG : (⟨(pageS (eventsS (reg tx))).toArray⟩ : ByteArray) = G) (W : World) (hW : Below w0.heap.size w0 W) :
    Calls Tryz.prog 4 #[.agg #[.string tx, .slice none 0 0, .int .i64 0, .bool false], .agg #[.slice none 0 0, .int .i64 0, .int .i64 0, .int .i64 0], .int .i64 0] W fun e w' => ∃ (N c rd : Int) (of mo : Nat), e = .returned (.agg #[.int .i64 0, .int .i64 N, .int .i64 c, .string G, .int .i64 of, .int .i64 mo, .bool false, .int .i64 rd]) ∧ Below W.heap.size W w' := by
  refine (html_text B hS (u0_ok w0) (by decide) (by decide) tx (by omega) W hW).mono ?_
  rintro e w' ⟨N, rd, of, mo, rfl, _, b⟩
  refine ⟨N, ((PGof tx).length : Nat), rd, of, mo, ?_, b⟩
  have h1 : Eof tx = 0 := by unfold Eof; rw [if_neg (by omega)]
  have h2 : (⟨(PGof tx).toArray⟩ : ByteArray) = G := by unfold PGof; rw [if_neg (by omega)]; exact hG
  rw [h1, h2]
end Go.Proofs.YtljcljipppjnoabGreatDoor

namespace Go.Proofs.YtljcljipppjnoabGreatDoor
open Go.RowKit Go.Shelf
structure MemB (W : World) (L : List (Nat × Obj)) (w : World) : Prop where
  below : Below W.heap.size W w
  blk : ∀ n o, (n, o) ∈ L → w.heap[n]? = some o
theorem MemB.next {W : World} {L : List (Nat × Obj)} {w w' : World} (h : MemB W L w) (hb : Below w.heap.size w w') : MemB W L w' :=
  ⟨h.below.trans (hb.mono h.below.size), fun n o ho => (hb.block n (Array.getElem?_eq_some_iff.1 (h.blk n o ho)).1).trans (h.blk n o ho)⟩
theorem MemB.add {W : World} {L : List (Nat × Obj)} {w : World} (h : MemB W L w) (o : Array Value) (t : TypeId) : MemB W ((w.heap.size, .cells o t (0, 0)) :: L) (w.alloc (.cells o t)) := by
  have hn := h.next ((Below.refl _ w).alloc (Nat.le_refl _) (.cells o t))
  refine ⟨hn.below, fun n b hb => ?_⟩
  rcases List.mem_cons.1 hb with e | e
  · injection e with e1 e2
    subst e1
    subst e2
    exact heap_new _ _ rfl
  · exact hn.blk n b e
theorem MemB.start (W : World) : MemB W [] W := ⟨Below.refl _ W, fun _ _ h => by cases h⟩
end Go.Proofs.YtljcljipppjnoabGreatDoor

namespace Go.Proofs.YtljcljipppjnoabGreatDoor
open Go.RowKit Go.Shelf
def PlyC (W : World) (tx G : ByteArray) : Prop := ∀ w, Below W.heap.size W w → Calls Tryz.prog 4 #[.agg #[.string tx, .slice none 0 0, .int .i64 0, .bool false], .agg #[.slice none 0 0, .int .i64 0, .int .i64 0, .int .i64 0], .int .i64 0] w fun e w' => ∃ (N c rd : Int) (of mo : Nat), e = .returned (.agg #[.int .i64 0, .int .i64 N, .int .i64 c, .string G, .int .i64 of, .int .i64 mo, .bool false, .int .i64 rd]) ∧ Below w.heap.size w w'
theorem ply_a {aL aI : Addr} {m : Int} {aS : Addr} {W : World} (B : Base W aL aI m) (hS : W.cell? ⟨0, 0, none⟩ = some (sinkV aS)) {S : ByteArray} (h : WordB S) (hs : S.size ≤ 40) : PlyC W (S) (⟨#[60, 112, 62]⟩ ++ S ++ ⟨#[60, 47, 112, 62, 10]⟩) := by
  have hz : (S : ByteArray).size ≤ 300 := by
    omega
  exact fun w hw => ply_html B hS _ _ hz (pg_a h) w hw
theorem ply_b {aL aI : Addr} {m : Int} {aS : Addr} {W : World} (B : Base W aL aI m) (hS : W.cell? ⟨0, 0, none⟩ = some (sinkV aS)) {S : ByteArray} (h : WordB S) (hs : S.size ≤ 40) : PlyC W (⟨#[35, 35, 32]⟩ ++ S ++ ⟨#[32, 13, 10]⟩) (⟨#[60, 104, 50, 62]⟩ ++ S ++ ⟨#[60, 47, 104, 50, 62, 10]⟩) := by
  have hz : (⟨#[35, 35, 32]⟩ ++ S ++ ⟨#[32, 13, 10]⟩ : ByteArray).size ≤ 300 := by
    have z0 : (⟨#[35, 35, 32]⟩ : ByteArray).size = 3 := rfl
    have z1 : (⟨#[32, 13, 10]⟩ : ByteArray).size = 3 := rfl
    simp only [ByteArray.size_append]
    omega
  exact fun w hw => ply_html B hS _ _ hz (pg_b h) w hw
theorem ply_c {aL aI : Addr} {m : Int} {aS : Addr} {W : World} (B : Base W aL aI m) (hS : W.cell? ⟨0, 0, none⟩ = some (sinkV aS)) {S : ByteArray} (h : WordB S) (hs : S.size ≤ 40) : PlyC W (⟨#[42]⟩ ++ S ++ ⟨#[42]⟩) (⟨#[60, 112, 62, 60, 101, 109, 62]⟩ ++ S ++ ⟨#[60, 47, 101, 109, 62, 60, 47, 112, 62, 10]⟩) := by
  have hz : (⟨#[42]⟩ ++ S ++ ⟨#[42]⟩ : ByteArray).size ≤ 300 := by
    have z0 : (⟨#[42]⟩ : ByteArray).size = 1 := rfl
    simp only [ByteArray.size_append]
    omega
  exact fun w hw => ply_html B hS _ _ hz (pg_c h) w hw
theorem ply_d {aL aI : Addr} {m : Int} {aS : Addr} {W : World} (B : Base W aL aI m) (hS : W.cell? ⟨0, 0, none⟩ = some (sinkV aS)) {S : ByteArray} (h : WordB S) (hs : S.size ≤ 40) : PlyC W (⟨#[62, 32]⟩ ++ S) (⟨#[60, 98, 108, 111, 99, 107, 113, 117, 111, 116, 101, 62, 10]⟩ ++ (⟨#[60, 112, 62]⟩ ++ S ++ ⟨#[60, 47, 112, 62, 10]⟩) ++ ⟨#[60, 47, 98, 108, 111, 99, 107, 113, 117, 111, 116, 101, 62, 10]⟩) := by
  have hz : (⟨#[62, 32]⟩ ++ S : ByteArray).size ≤ 300 := by
    have z0 : (⟨#[62, 32]⟩ : ByteArray).size = 2 := rfl
    simp only [ByteArray.size_append]
    omega
  exact fun w hw => ply_html B hS _ _ hz (pg_d h) w hw
theorem ply_e {aL aI : Addr} {m : Int} {aS : Addr} {W : World} (B : Base W aL aI m) (hS : W.cell? ⟨0, 0, none⟩ = some (sinkV aS)) {S : ByteArray} (h : WordB S) (hs : S.size ≤ 40) : PlyC W (⟨#[45, 32]⟩ ++ S ++ ⟨#[10, 45, 32, 91]⟩ ++ S ++ ⟨#[93, 40]⟩ ++ S ++ ⟨#[41]⟩) (⟨#[60, 117, 108, 62, 10, 60, 108, 105, 62, 10]⟩ ++ (⟨#[60, 112, 62]⟩ ++ S ++ ⟨#[60, 47, 112, 62, 10]⟩) ++ ⟨#[60, 47, 108, 105, 62, 10, 60, 108, 105, 62, 10, 60, 112, 62, 60, 97, 32, 104, 114, 101, 102, 61, 34]⟩ ++ S ++ ⟨#[34, 62]⟩ ++ S ++ ⟨#[60, 47, 97, 62, 60, 47, 112, 62, 10, 60, 47, 108, 105, 62, 10, 60, 47, 117, 108, 62, 10]⟩) := by
  have hz : (⟨#[45, 32]⟩ ++ S ++ ⟨#[10, 45, 32, 91]⟩ ++ S ++ ⟨#[93, 40]⟩ ++ S ++ ⟨#[41]⟩ : ByteArray).size ≤ 300 := by
    have z0 : (⟨#[45, 32]⟩ : ByteArray).size = 2 := rfl
    have z1 : (⟨#[10, 45, 32, 91]⟩ : ByteArray).size = 4 := rfl
    have z2 : (⟨#[93, 40]⟩ : ByteArray).size = 2 := rfl
    have z3 : (⟨#[41]⟩ : ByteArray).size = 1 := rfl
    simp only [ByteArray.size_append]
    omega
  exact fun w hw => ply_html B hS _ _ hz (pg_e h) w hw
end Go.Proofs.YtljcljipppjnoabGreatDoor

namespace Go.Proofs.YtljcljipppjnoabGreatDoor
open Go.RowKit Go.Shelf
set_option maxRecDepth 100000 in
set_option maxHeartbeats 2000000 in
theorem plainly_any {aL aI : Addr} {m : Int} {aS : Addr} (tx : ByteArray) (W : World) (B : Base W aL aI m) (hS : W.cell? ⟨0, 0, none⟩ = some (sinkV aS)) (hz : tx.size ≤ 9223372036854775807) :
    Calls Tryz.prog 3 #[.string tx] W fun e w' => e = .returned (.bool true) ∧ Below W.heap.size W w' := by
  have BB : Hid _ := B
  have SS : Hid _ := hS
  clear B hS
  go_enter Tryz.func3, Tryz.ntmps3
  go_upto_block 0 with fail
  go_cut [3] (fun v wx => ∃ S : ByteArray, v = .string S ∧ S.size ≤ 40 ∧ Hid (WordB S) ∧ W = wx)
  case first =>
    clear BB SS
    go_wp2
    go_loop [3, 4] (fun v i => ∃ k : Nat, k ≤ tx.size ∧ i = .int .i64 k ∧ ∃ S : ByteArray, v = .string S ∧ S.size ≤ 40 ∧ Hid (WordB S)) (fun _ i => tx.size - (intOf i).toNat)
    case atStart => exact ⟨0, Nat.zero_le _, rfl, _, rfl, by decide, wordB_one⟩
    case round =>
      obtain ⟨k, hk, rfl, S, rfl, hs, HS⟩ := hrel
      by_cases hlt : k < tx.size
      · have d1 : decide ((k : Int) < (tx.size : Int)) = true := by simp; omega
        by_cases h40 : S.size < 40
        · have d2 : decide ((S.size : Int) < 40) = true := by simp; omega
          by_cases c1 : 97 ≤ tx[k].toNat
          · have d3 : decide ((97 : Int) ≤ (tx[k].toNat : Int)) = true := by simp; omega
            by_cases c2 : tx[k].toNat ≤ 122
            · have d4 : decide ((tx[k].toNat : Int) ≤ 122) = true := by simp; omega
              have HN : Hid (WordB (S ++ tx.extract k (k + 1))) := wordB_next HS.out hlt c1 c2
              have hsz : (S ++ tx.extract k (k + 1)).size ≤ 40 := by rw [ByteArray.size_append, ByteArray.size_extract]; omega
              clear HS c1 c2
              go_wp2
              go_round
              case rel => exact ⟨k + 1, by omega, by go_num, _, rfl, hsz, HN.out⟩
              case measure => simp [intOf]; omega
            · have d4 : decide ((tx[k].toNat : Int) ≤ 122) = false := by simp; omega
              clear c1 c2
              go_wp2
              go_round
              case rel => exact ⟨k + 1, by omega, by go_num, S, rfl, hs, HS.out⟩
              case measure => simp [intOf]; omega
          · have d3 : decide ((97 : Int) ≤ (tx[k].toNat : Int)) = false := by simp; omega
            clear c1
            go_wp2
            go_round
            case rel => exact ⟨k + 1, by omega, by go_num, S, rfl, hs, HS.out⟩
            case measure => simp [intOf]; omega
        · have d2 : decide ((S.size : Int) < 40) = false := by simp; omega
          go_wp2
          go_meet
          case rel => exact ⟨S, rfl, hs, HS.out, rfl⟩
      · have d1 : decide ((k : Int) < (tx.size : Int)) = false := by simp; omega
        go_wp2
        go_meet
        case rel => exact ⟨S, rfl, hs, HS.out, rfl⟩
  case rest =>
    obtain ⟨S, rfl, hs, HS, rfl⟩ := hcut
    have z0 : S.size ≤ 40 := hs
    have cW := fun s w => whole_any s w
    have cA := ply_a BB.out SS.out HS.out hs
    have cB := ply_b BB.out SS.out HS.out hs
    have cC := ply_c BB.out SS.out HS.out hs
    have cD := ply_d BB.out SS.out HS.out hs
    have cE := ply_e BB.out SS.out HS.out hs
    have M0 : Hid (MemB W [] W) := MemB.start W
    clear HS BB SS
    go_upto_region 8 with (first
      | (go_at_call 5; refine (cW _ _).mono ?_; rintro e wa0 ⟨rfl, ba0⟩)
      | (go_at_call 4; refine (cA wa0 (M0.out.next ba0).below).mono ?_; rintro e wb0 ⟨N0, k0, rd0, of0, mo0, rfl, bb0⟩))
    obtain ⟨v0, hv0⟩ : ∃ v0, wb0.alloc (.cells #[.int .i64 0, .int .i64 N0, .int .i64 k0, .string ((⟨#[60, 112, 62]⟩ : ByteArray) ++ S ++ (⟨#[60, 47, 112, 62, 10]⟩ : ByteArray)), .int .i64 of0, .int .i64 mo0, .bool false, .int .i64 rd0] 25) = v0 := ⟨_, rfl⟩
    have M1 : MemB W _ v0 := hv0 ▸ ((M0.out.next ba0).next bb0).add #[.int .i64 0, .int .i64 N0, .int .i64 k0, .string ((⟨#[60, 112, 62]⟩ : ByteArray) ++ S ++ (⟨#[60, 47, 112, 62, 10]⟩ : ByteArray)), .int .i64 of0, .int .i64 mo0, .bool false, .int .i64 rd0] 25
    rw [hv0]
    clear hv0 ba0 bb0 M0 cA
    generalize wb0.heap.size = x0 at M1
    have M1 : Hid _ := M1
    go_upto_region 9 with (first
      | (go_at_call 5; refine (cW _ _).mono ?_; rintro e wa1 ⟨rfl, ba1⟩)
      | (go_at_call 4; refine (cB wa1 (M1.out.next ba1).below).mono ?_; rintro e wb1 ⟨N1, k1, rd1, of1, mo1, rfl, bb1⟩))
    obtain ⟨v1, hv1⟩ : ∃ v1, wb1.alloc (.cells #[.int .i64 0, .int .i64 N1, .int .i64 k1, .string ((⟨#[60, 104, 50, 62]⟩ : ByteArray) ++ S ++ (⟨#[60, 47, 104, 50, 62, 10]⟩ : ByteArray)), .int .i64 of1, .int .i64 mo1, .bool false, .int .i64 rd1] 25) = v1 := ⟨_, rfl⟩
    have M2 : MemB W _ v1 := hv1 ▸ ((M1.out.next ba1).next bb1).add #[.int .i64 0, .int .i64 N1, .int .i64 k1, .string ((⟨#[60, 104, 50, 62]⟩ : ByteArray) ++ S ++ (⟨#[60, 47, 104, 50, 62, 10]⟩ : ByteArray)), .int .i64 of1, .int .i64 mo1, .bool false, .int .i64 rd1] 25
    rw [hv1]
    clear hv1 ba1 bb1 M1 cB
    generalize wb1.heap.size = x1 at M2
    have M2 : Hid _ := M2
    go_upto_region 10 with (first
      | (go_at_call 5; refine (cW _ _).mono ?_; rintro e wa2 ⟨rfl, ba2⟩)
      | (go_at_call 4; refine (cC wa2 (M2.out.next ba2).below).mono ?_; rintro e wb2 ⟨N2, k2, rd2, of2, mo2, rfl, bb2⟩))
    obtain ⟨v2, hv2⟩ : ∃ v2, wb2.alloc (.cells #[.int .i64 0, .int .i64 N2, .int .i64 k2, .string ((⟨#[60, 112, 62, 60, 101, 109, 62]⟩ : ByteArray) ++ S ++ (⟨#[60, 47, 101, 109, 62, 60, 47, 112, 62, 10]⟩ : ByteArray)), .int .i64 of2, .int .i64 mo2, .bool false, .int .i64 rd2] 25) = v2 := ⟨_, rfl⟩
    have M3 : MemB W _ v2 := hv2 ▸ ((M2.out.next ba2).next bb2).add #[.int .i64 0, .int .i64 N2, .int .i64 k2, .string ((⟨#[60, 112, 62, 60, 101, 109, 62]⟩ : ByteArray) ++ S ++ (⟨#[60, 47, 101, 109, 62, 60, 47, 112, 62, 10]⟩ : ByteArray)), .int .i64 of2, .int .i64 mo2, .bool false, .int .i64 rd2] 25
    rw [hv2]
    clear hv2 ba2 bb2 M2 cC
    generalize wb2.heap.size = x2 at M3
    have M3 : Hid _ := M3
    go_upto_region 11 with (first
      | (go_at_call 5; refine (cW _ _).mono ?_; rintro e wa3 ⟨rfl, ba3⟩)
      | (go_at_call 4; refine (cD wa3 (M3.out.next ba3).below).mono ?_; rintro e wb3 ⟨N3, k3, rd3, of3, mo3, rfl, bb3⟩))
    obtain ⟨v3, hv3⟩ : ∃ v3, wb3.alloc (.cells #[.int .i64 0, .int .i64 N3, .int .i64 k3, .string ((⟨#[60, 98, 108, 111, 99, 107, 113, 117, 111, 116, 101, 62, 10]⟩ : ByteArray) ++ ((⟨#[60, 112, 62]⟩ : ByteArray) ++ S ++ (⟨#[60, 47, 112, 62, 10]⟩ : ByteArray)) ++ (⟨#[60, 47, 98, 108, 111, 99, 107, 113, 117, 111, 116, 101, 62, 10]⟩ : ByteArray)), .int .i64 of3, .int .i64 mo3, .bool false, .int .i64 rd3] 25) = v3 := ⟨_, rfl⟩
    have M4 : MemB W _ v3 := hv3 ▸ ((M3.out.next ba3).next bb3).add #[.int .i64 0, .int .i64 N3, .int .i64 k3, .string ((⟨#[60, 98, 108, 111, 99, 107, 113, 117, 111, 116, 101, 62, 10]⟩ : ByteArray) ++ ((⟨#[60, 112, 62]⟩ : ByteArray) ++ S ++ (⟨#[60, 47, 112, 62, 10]⟩ : ByteArray)) ++ (⟨#[60, 47, 98, 108, 111, 99, 107, 113, 117, 111, 116, 101, 62, 10]⟩ : ByteArray)), .int .i64 of3, .int .i64 mo3, .bool false, .int .i64 rd3] 25
    rw [hv3]
    clear hv3 ba3 bb3 M3 cD
    generalize wb3.heap.size = x3 at M4
    have M4 : Hid _ := M4
    go_upto_region 12 with (first
      | (go_at_call 5; refine (cW _ _).mono ?_; rintro e wa4 ⟨rfl, ba4⟩)
      | (go_at_call 4; refine (cE wa4 (M4.out.next ba4).below).mono ?_; rintro e wb4 ⟨N4, k4, rd4, of4, mo4, rfl, bb4⟩))
    obtain ⟨v4, hv4⟩ : ∃ v4, wb4.alloc (.cells #[.int .i64 0, .int .i64 N4, .int .i64 k4, .string ((⟨#[60, 117, 108, 62, 10, 60, 108, 105, 62, 10]⟩ : ByteArray) ++ ((⟨#[60, 112, 62]⟩ : ByteArray) ++ S ++ (⟨#[60, 47, 112, 62, 10]⟩ : ByteArray)) ++ (⟨#[60, 47, 108, 105, 62, 10, 60, 108, 105, 62, 10, 60, 112, 62, 60, 97, 32, 104, 114, 101, 102, 61, 34]⟩ : ByteArray) ++ S ++ (⟨#[34, 62]⟩ : ByteArray) ++ S ++ (⟨#[60, 47, 97, 62, 60, 47, 112, 62, 10, 60, 47, 108, 105, 62, 10, 60, 47, 117, 108, 62, 10]⟩ : ByteArray)), .int .i64 of4, .int .i64 mo4, .bool false, .int .i64 rd4] 25) = v4 := ⟨_, rfl⟩
    have M5 : MemB W _ v4 := hv4 ▸ ((M4.out.next ba4).next bb4).add #[.int .i64 0, .int .i64 N4, .int .i64 k4, .string ((⟨#[60, 117, 108, 62, 10, 60, 108, 105, 62, 10]⟩ : ByteArray) ++ ((⟨#[60, 112, 62]⟩ : ByteArray) ++ S ++ (⟨#[60, 47, 112, 62, 10]⟩ : ByteArray)) ++ (⟨#[60, 47, 108, 105, 62, 10, 60, 108, 105, 62, 10, 60, 112, 62, 60, 97, 32, 104, 114, 101, 102, 61, 34]⟩ : ByteArray) ++ S ++ (⟨#[34, 62]⟩ : ByteArray) ++ S ++ (⟨#[60, 47, 97, 62, 60, 47, 112, 62, 10, 60, 47, 108, 105, 62, 10, 60, 47, 117, 108, 62, 10]⟩ : ByteArray)), .int .i64 of4, .int .i64 mo4, .bool false, .int .i64 rd4] 25
    rw [hv4]
    clear hv4 ba4 bb4 M4 cE
    generalize wb4.heap.size = x4 at M5
    have M5 : Hid _ := M5
    have a3 := row_cell (i := 3) (M5.out.blk _ _ (List.mem_cons_of_mem _ (List.mem_cons_of_mem _ (List.mem_cons_of_mem _ (List.mem_cons_of_mem _ List.mem_cons_self))))) rfl
    have b3 := row_cell (i := 3) (M5.out.blk _ _ (List.mem_cons_of_mem _ (List.mem_cons_of_mem _ (List.mem_cons_of_mem _ List.mem_cons_self)))) rfl
    have c3 := row_cell (i := 3) (M5.out.blk _ _ (List.mem_cons_of_mem _ (List.mem_cons_of_mem _ List.mem_cons_self))) rfl
    have d3 := row_cell (i := 3) (M5.out.blk _ _ (List.mem_cons_of_mem _ List.mem_cons_self)) rfl
    have e3 := row_cell (i := 3) (M5.out.blk _ _ List.mem_cons_self) rfl
    go_wp2
    go_ret
    exact ⟨rfl, M5.out.below⟩
end Go.Proofs.YtljcljipppjnoabGreatDoor
