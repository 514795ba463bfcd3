import Derived.Test.YtljcljipppjnoaaGreatDoorJP36
import Derived.Test.YtljcljipppjnoaaGreatDoorJP42
import Derived.Test.YtljcljipppjnoaaGreatDoorJP44
import Derived.Test.YtljcljipppjnoaaGreatDoorJP45
namespace Go.Proofs.YtljcljipppjnoaaGreatDoor
open Go.RowKit Go.Shelf

theorem events_nil : eventsS [] = [] := by simp [eventsS, linesL, blocksAt, blocksF, evUpto]
theorem evq_err {q : Gh} (h : outErr q.o ≠ 0) : evq q = [] := by
  unfold evq
  cases ho : q.o with
  | fine s => rw [ho] at h; exact absurd rfl h
  | long => exact events_nil
  | idle => exact events_nil
  | fail k => exact events_nil

/-- The events that the document's side has left. -/
def LV (v : Value) (l : List Ev) (W : World) : Prop :=
  ∃ p cap, v = .slice p l.length cap ∧ l.length ≤ cap ∧ cap ≤ 9223372036854775807 ∧ ((p = none ∧ cap = 0) ∨ ∃ g o, p = some ⟨g, o, none⟩ ∧ g < W.heap.size ∧ ∀ j u, (evCs l)[j]? = some u → W.cell? ⟨g, o + j, none⟩ = some u)
theorem LV.keep {v : Value} {l : List Ev} {W w' : World} (h : LV v l W) (hk : ∀ g, v.ownBlock = some g → w'.heap[g]? = W.heap[g]?) (hz : W.heap.size ≤ w'.heap.size) : LV v l w' := by
  obtain ⟨p, cap, hv, h1, h2, h3⟩ := h
  refine ⟨p, cap, hv, h1, h2, ?_⟩
  rcases h3 with h3 | ⟨g, o, h4, h5, h6⟩
  · exact Or.inl h3
  · refine Or.inr ⟨g, o, h4, by omega, fun j u hj => ?_⟩
    rw [← h6 j u hj]
    exact World.cell?_of_block (hk g (by rw [hv, h4]; rfl))
theorem LV.lt {v : Value} {l : List Ev} {W : World} (h : LV v l W) {g : Nat} (hg : v.ownBlock = some g) : g < W.heap.size := by
  obtain ⟨p, cap, hv, h1, h2, h3⟩ := h
  rcases h3 with ⟨h3, _⟩ | ⟨g', o, h4, h5, h6⟩
  · rw [hv, h3] at hg; cases hg
  · rw [hv, h4] at hg
    injection hg with hg
    have hg : g' = g := hg
    omega
theorem LV.of_own {B : Nat} {v : Value} {l : List Ev} {W : World} (h : W.ownsRow B 83 4 v l.length (evCs l)) : LV v l W := by
  rcases h.2 with ⟨hv, h0⟩ | ⟨g, cap, cur, hv, _, hg, hnc, hcm, _⟩
  · exact ⟨none, 0, by rw [hv, h0], by omega, by omega, Or.inl ⟨rfl, rfl⟩⟩
  · refine ⟨_, cap, hv, hnc, by simp only [maxLen] at hcm; omega, Or.inr ⟨g, 0, rfl, lt_of_block hg, fun j u hj => ?_⟩⟩
    have := h.cells (g := g) (by rw [hv]; rfl) j u hj
    rw [Addr.add_lit] at this
    exact this
theorem LV.nil (W : World) : LV (.slice none 0 0) [] W := ⟨none, 0, rfl, Nat.le_refl _, by omega, Or.inl ⟨rfl, rfl⟩⟩

/-- A side: a parser, what its source comes to, the events that are left. -/
def SAt (aL aI : Addr) (q : Gh) (bd : Nat) (st : Option (List Ev)) (O : Nat → Prop) (W : World) : Prop :=
  ∃ bq v O1, W.heap[bd]? = some (.cells #[.pointer (some ⟨bq, 0, none⟩), .string (outText q.o), .int .i64 (outErr q.o), .int .i64 (outN q.o), .int .i64 q.n, v, .bool false] 51 (0, 0)) ∧ QAt aL aI q bq st O1 W ∧ LV v (leftOf q st) W ∧ ¬ O1 bd ∧ (∀ g, v.ownBlock = some g → ¬ O1 g ∧ g ≠ bd) ∧ O = fun x => O1 x ∨ x = bd ∨ v.ownBlock = some x
theorem SAt.lt {aL aI : Addr} {q : Gh} {bd : Nat} {st : Option (List Ev)} {O : Nat → Prop} {W : World} (h : SAt aL aI q bd st O W) : ∀ x, O x → x < W.heap.size := by
  obtain ⟨bq, v, O1, h1, h2, h3, h4, h5, rfl⟩ := h
  intro x hx
  rcases hx with hx | rfl | hx
  · exact h2.lt x hx
  · exact lt_of_block h1
  · exact h3.lt hx
theorem SAt.keep {aL aI : Addr} {q : Gh} {bd : Nat} {st : Option (List Ev)} {O : Nat → Prop} {W w' : World} (h : SAt aL aI q bd st O W) (hk : ∀ x, O x → w'.heap[x]? = W.heap[x]?) (hz : W.heap.size ≤ w'.heap.size) : SAt aL aI q bd st O w' := by
  obtain ⟨bq, v, O1, h1, h2, h3, h4, h5, rfl⟩ := h
  exact ⟨bq, v, O1, (hk bd (Or.inr (Or.inl rfl))).trans h1, h2.keep (fun x hx => hk x (Or.inl hx)) hz, h3.keep (fun g hg => hk g (Or.inr (Or.inr hg))) hz, h4, h5, rfl⟩
theorem cells7 {w : World} {b : Nat} {x y z u s t r : Value} {T : TypeId} (h : w.heap[b]? = some (.cells #[x, y, z, u, s, t, r] T (0, 0))) : w.cell? ⟨b, 0, none⟩ = some x ∧ w.cell? ⟨b, 1, none⟩ = some y ∧ w.cell? ⟨b, 2, none⟩ = some z ∧ w.cell? ⟨b, 3, none⟩ = some u ∧ w.cell? ⟨b, 4, none⟩ = some s ∧ w.cell? ⟨b, 5, none⟩ = some t ∧ w.cell? ⟨b, 6, none⟩ = some r := by
  refine ⟨?_, ?_, ?_, ?_, ?_, ?_, ?_⟩ <;> (rw [Lib.cell_of_heap h]; rfl)

set_option maxRecDepth 100000 in
set_option maxHeartbeats 2000000 in
/-- A side begins. -/
theorem side_any (aL aI : Addr) (q : Gh) (hq : q.Ok) (hs : q.src = true) (cv0 : Value) (W : World) (h : NumsAt cv0 q.cs W) :
    Calls Tryz.prog 21 #[.agg #[.string q.tx, cv0, .int .i64 q.fa, .bool q.wt]] W fun e w' => ∃ bd O, e = .returned (.pointer (some ⟨bd, 0, none⟩)) ∧ SAt aL aI q bd none O w' ∧ (∀ x, O x → W.heap.size ≤ x) ∧ Below W.heap.size W w' := by
  obtain ⟨ca, n0, cp, hcv⟩ : ∃ ca n0 cp, cv0 = .slice ca n0 cp := by
    rcases h with ⟨_, ca, cap, rfl⟩ | ⟨g, o, cap, rfl, _⟩
    · exact ⟨_, _, _, rfl⟩
    · exact ⟨_, _, _, rfl⟩
  subst hcv
  obtain ⟨W1, hW1⟩ : ∃ W1, W.alloc (.cells #[.string q.tx, .slice ca n0 cp, .int .i64 q.fa, .bool q.wt] 33) = W1 := ⟨_, rfl⟩
  have hb1 : Below W.heap.size W W1 := by rw [← hW1]; exact (Below.refl _ W).alloc (Nat.le_refl _) _
  have z1 : W1.heap.size = W.heap.size + 1 := by rw [← hW1]; simp
  have x1 : W1.heap[W.heap.size]? = some (.cells #[.string q.tx, .slice ca n0 cp, .int .i64 q.fa, .bool q.wt] 33 (0, 0)) := by rw [← hW1]; exact heap_alloc_new W _
  obtain ⟨i0, i1, i2, i3⟩ := cells4 x1
  have h1 : NumsAt (.slice ca n0 cp) q.cs W1 := h.below hb1
  have hg := hq.gat hs
  have hsm := hq.small
  have hcu := hq.cuts
  have c1 := come_any (q.cs.length + 2) q.tx (.slice ca n0 cp) q.cs q.fa q.wt q.o q.n W1 h1 hcu hsm (by omega) hg
  have c2 := fun W (h : NumsAt (.slice ca n0 cp) q.cs W) => qnew_any aL aI q (.slice ca n0 cp) W h hcu
  rw [hs] at c2
  have ht := outText_small hq
  have et : (⟨(outText q.o).data.toList.toArray⟩ : ByteArray) = outText q.o := by simp
  have c3 : ∀ W, Calls Tryz.prog 51 #[.string (outText q.o)] W fun e w' => ∃ p ln cp, e = .returned (.slice p ln cp) ∧ w'.ownsRow W.heap.size 83 4 (.slice p ln cp) (evq q).length (evCs (evq q)) ∧ Below W.heap.size W w' := by
    intro W
    have hc := revents_any (outText q.o).data.toList W (by omega)
    rw [et] at hc
    refine hc.mono ?_
    rintro e w' ⟨v, rfl, own, b⟩
    obtain ⟨p, ln, cp, rfl⟩ : ∃ p ln cp, v = .slice p ln cp := by
      rcases Joins.ownsRow_forms own with ⟨h, _⟩ | ⟨g', cap', h⟩
      · exact ⟨_, _, _, h⟩
      · exact ⟨_, _, _, h⟩
    exact ⟨p, ln, cp, rfl, own, b⟩
  have NB : Hid (∀ w, Below W1.heap.size W1 w → NumsAt (.slice ca n0 cp) q.cs w) := fun w hb => h1.below hb
  have HB1 : Hid (Below W.heap.size W W1) := hb1
  -- the side as it is at last, l not laid yet, or laid
  have FIN : Hid (∀ (w2 w4 X : World) (bq : Nat) (O1 : Nat → Prop) (v : Value), Below W1.heap.size W1 w2 → QAt aL aI q bq none O1 w4 → (∀ x, O1 x → w2.heap.size + 1 ≤ x) → w2.heap.size + 1 ≤ w4.heap.size → (∀ x, x < w2.heap.size → X.heap[x]? = w2.heap[x]?) → (∀ x, x < w4.heap.size → x ≠ w2.heap.size → X.heap[x]? = w4.heap[x]?) → w4.heap.size ≤ X.heap.size → X.os = w2.os → X.tape = w2.tape → X.output = w2.output → X.heap[w2.heap.size]? = some (.cells #[.pointer (some ⟨bq, 0, none⟩), .string (outText q.o), .int .i64 (outErr q.o), .int .i64 (outN q.o), .int .i64 q.n, v, .bool false] 51 (0, 0)) → LV v (evq q) X → (∀ g, v.ownBlock = some g → w4.heap.size ≤ g) → ∃ O, SAt aL aI q w2.heap.size none O X ∧ (∀ x, O x → W.heap.size ≤ x) ∧ Below W.heap.size W X) := by
    intro w2 w4 X bq O1 v b2 qa qlow sz4 f1 f2 sx x1 x2 x3 hside hlv hvo
    have sz2 := b2.size
    have qlt := qa.lt
    refine ⟨_, ⟨bq, v, O1, hside, qa.keep (fun x hx => f2 x (qlt x hx) (by have := qlow x hx; omega)) sx, hlv, fun ho => by have := qlow _ ho; omega, fun g hg => ⟨fun ho => by have := qlt g ho; have := hvo g hg; omega, by have := hvo g hg; omega⟩, rfl⟩, fun x hx => ?_, ⟨x1.trans (b2.os.trans hb1.os), x2.trans (b2.tape.trans hb1.tape), x3.trans (b2.output.trans hb1.output), by omega, fun x hx => (f1 x (by omega)).trans ((b2.block x (by omega)).trans (hb1.block x hx))⟩⟩
    rcases hx with hx | rfl | hx
    · have := qlow x hx
      omega
    · omega
    · have := hvo x hx
      omega
  have HE : Hid (outErr q.o ≠ 0 → evq q = []) := evq_err
  have HZ : Hid (W1.heap.size = W.heap.size + 1) := z1
  clear h h1 hg hsm hcu hb1 ht et x1 hq hs
  generalize outText q.o = ot at *
  generalize outN q.o = on at *
  generalize evq q = eq at *
  by_cases he : outErr q.o = 0
  · generalize outErr q.o = oe at *
    subst he
    go_enter Tryz.func21, Tryz.ntmps21
    go_wp2_with (first
      | (go_at_call 24; refine c1.mono ?_; rintro e w2 ⟨rfl, b2⟩; have l0 : W.heap.size < w2.heap.size := (by have := b2.size; have := HZ.out; omega); have j0 := (b2.cell (p := ⟨W.heap.size, 0, none⟩) (by show W.heap.size < _; have := HZ.out; omega)).trans i0; have j1 := (b2.cell (p := ⟨W.heap.size, 1, none⟩) (by show W.heap.size < _; have := HZ.out; omega)).trans i1; have j2 := (b2.cell (p := ⟨W.heap.size, 2, none⟩) (by show W.heap.size < _; have := HZ.out; omega)).trans i2; have j3 := (b2.cell (p := ⟨W.heap.size, 3, none⟩) (by show W.heap.size < _; have := HZ.out; omega)).trans i3)
      | (go_at_call 18; refine (c2 _ (NB.out _ (b2.alloc b2.size _))).mono ?_; rintro e w4 ⟨bq, O1, rfl, qa, qlow, b4⟩; have hside := (b4.block w2.heap.size (by simp)).trans (heap_alloc_new w2 _); obtain ⟨k0, k1, k2, k3, k4, k5, k6⟩ := cells7 hside; have g0 := row_free (i := 0) hside; have g5 := row_free (i := 5) hside)
      | (go_at_call 51; refine (c3 _).mono ?_; rintro e w6 ⟨p, ln, cpp, rfl, own6, b6⟩; have hs6 := (b6.block w2.heap.size (by rw [World.size_setCell]; exact lt_of_block hside)).trans (set_row (i := 0) (v := .pointer (some ⟨bq, 0, none⟩)) hside); have m5 := row_cell (i := 5) hs6 rfl; have q5 := row_free (i := 5) hs6))
    go_ret
    have sz4 := b4.size
    have b6z := b6.size
    rw [World.size_alloc] at sz4
    rw [World.size_setCell] at b6z own6
    obtain ⟨O, r1, r2, r3⟩ := FIN.out w2 w4 (w6.setCell ⟨w2.heap.size, 5, none⟩ (.slice p ln cpp)) bq O1 (.slice p ln cpp) b2 qa (fun x hx => by have := qlow x hx; rw [World.size_alloc] at this; exact this) sz4
      (fun x hx => by rw [Below.heap_setCell _ _ _ _ (by show x ≠ w2.heap.size; omega), b6.block x (by rw [World.size_setCell]; omega), Below.heap_setCell _ _ _ _ (by show x ≠ w2.heap.size; omega), b4.block x (by rw [World.size_alloc]; omega), Below.heap_alloc _ _ _ hx])
      (fun x hx hne => by rw [Below.heap_setCell _ _ _ _ hne, b6.block x (by rw [World.size_setCell]; exact hx), Below.heap_setCell _ _ _ _ hne])
      (by rw [World.size_setCell]; omega) (b6.os.trans b4.os) (b6.tape.trans b4.tape) (b6.output.trans b4.output) (set_row hs6)
      ((LV.of_own own6).keep (fun g hg => Below.heap_setCell _ _ _ _ (by have := (own6.lt g hg).1; show g ≠ w2.heap.size; omega)) (by rw [World.size_setCell]; exact Nat.le_refl _)) (fun g hg => by have := (own6.lt g hg).1; omega)
    exact ⟨_, O, rfl, r1, r2, r3⟩
  · have he' : ((outErr q.o) == (0 : Int)) = false := by simpa using he
    have heq := HE.out he
    generalize outErr q.o = oe at *
    subst heq
    go_enter Tryz.func21, Tryz.ntmps21
    go_wp2_with (first
      | (go_at_call 24; refine c1.mono ?_; rintro e w2 ⟨rfl, b2⟩; have l0 : W.heap.size < w2.heap.size := (by have := b2.size; have := HZ.out; omega); have j0 := (b2.cell (p := ⟨W.heap.size, 0, none⟩) (by show W.heap.size < _; have := HZ.out; omega)).trans i0; have j1 := (b2.cell (p := ⟨W.heap.size, 1, none⟩) (by show W.heap.size < _; have := HZ.out; omega)).trans i1; have j2 := (b2.cell (p := ⟨W.heap.size, 2, none⟩) (by show W.heap.size < _; have := HZ.out; omega)).trans i2; have j3 := (b2.cell (p := ⟨W.heap.size, 3, none⟩) (by show W.heap.size < _; have := HZ.out; omega)).trans i3)
      | (go_at_call 18; refine (c2 _ (NB.out _ (b2.alloc b2.size _))).mono ?_; rintro e w4 ⟨bq, O1, rfl, qa, qlow, b4⟩; have hside := (b4.block w2.heap.size (by simp)).trans (heap_alloc_new w2 _); obtain ⟨k0, k1, k2, k3, k4, k5, k6⟩ := cells7 hside; have g0 := row_free (i := 0) hside; have g5 := row_free (i := 5) hside))
    go_ret
    have sz4 := b4.size
    rw [World.size_alloc] at sz4
    obtain ⟨O, r1, r2, r3⟩ := FIN.out w2 w4 (w4.setCell ⟨w2.heap.size, 0, none⟩ (.pointer (some ⟨bq, 0, none⟩))) bq O1 (.slice none 0 0) b2 qa (fun x hx => by have := qlow x hx; rw [World.size_alloc] at this; exact this) sz4
      (fun x hx => by rw [Below.heap_setCell _ _ _ _ (by show x ≠ w2.heap.size; omega), b4.block x (by rw [World.size_alloc]; omega), Below.heap_alloc _ _ _ hx])
      (fun x hx hne => by rw [Below.heap_setCell _ _ _ _ hne])
      (by rw [World.size_setCell]; exact Nat.le_refl _) b4.os b4.tape b4.output (set_row hside) (LV.nil _) (fun g hg => by cases hg)
    exact ⟨_, O, rfl, r1, r2, r3⟩

end Go.Proofs.YtljcljipppjnoaaGreatDoor

namespace Go.Proofs.YtljcljipppjnoaaGreatDoor
open Go.RowKit Go.Shelf

/-- A side's parser has turned, and what is left of the document's events. -/
theorem SAt.turn {aL aI : Addr} {q : Gh} {bd bq : Nat} {v v' : Value} {r : List Ev} {O1 O2 : Nat → Prop} {W W1 w2 X : World} (lbd : bd < W.heap.size) (hno : ¬ O1 bd) (hvo : ∀ g, v.ownBlock = some g → ¬ O1 g ∧ g ≠ bd) (hvl : ∀ g, v.ownBlock = some g → g < W.heap.size)
    (hb : Below W.heap.size W W1) (hf : Fp O1 O2 W1 w2) (qa : QAt aL aI q bq (some r) O2 w2) (fX : ∀ x, x < w2.heap.size → x ≠ bd → X.heap[x]? = w2.heap[x]?) (sX : w2.heap.size ≤ X.heap.size) (x1 : X.os = w2.os) (x2 : X.tape = w2.tape) (x3 : X.output = w2.output)
    (hside : X.heap[bd]? = some (.cells #[.pointer (some ⟨bq, 0, none⟩), .string (outText q.o), .int .i64 (outErr q.o), .int .i64 (outN q.o), .int .i64 q.n, v', .bool false] 51 (0, 0))) (hlv : LV v' r X) (hov : ∀ g, v'.ownBlock = some g → v.ownBlock = some g) :
    ∃ O', SAt aL aI q bd (some r) O' X ∧ Fp (fun x => O1 x ∨ x = bd ∨ v.ownBlock = some x) O' W X := by
  have z1 := hb.size
  have z2 := hf.size
  have hno2 : ∀ x, x < W.heap.size → ¬ O1 x → ¬ O2 x := fun x hx hn ho => by
    rcases hf.grow x ho with h | h
    · exact hn h
    · omega
  refine ⟨_, ⟨bq, v', O2, hside, qa.keep (fun x hx => fX x (qa.lt x hx) fun e => hno2 bd lbd hno (e ▸ hx)) sX, hlv, hno2 bd lbd hno, fun g hg => ⟨hno2 g (hvl g (hov g hg)) (hvo g (hov g hg)).1, (hvo g (hov g hg)).2⟩, rfl⟩, ⟨x1.trans (hf.os.trans hb.os), x2.trans (hf.tape.trans hb.tape), x3.trans (hf.output.trans hb.output), by omega, fun x hx ho => ?_, fun x hx => ?_⟩⟩
  · exact (fX x (by omega) fun e => ho (Or.inr (Or.inl e))).trans ((hf.block x (by omega) fun h => ho (Or.inl h)).trans (hb.block x hx))
  · rcases hx with hx | hx | hx
    · rcases hf.grow x hx with h | h
      · exact Or.inl (Or.inl h)
      · exact Or.inr (by omega)
    · exact Or.inl (Or.inr (Or.inl hx))
    · exact Or.inl (Or.inr (Or.inr (hov x hx)))

theorem evCs_drop (l : List Ev) (n : Nat) (j : Nat) : (evCs (l.drop n))[j]? = (evCs l)[n * 4 + j]? ∨ l.length < n := by
  induction n generalizing l with
  | zero => left; simp
  | succ n ih =>
    cases l with
    | nil => right; simp
    | cons e r =>
      rcases ih r with h | h
      · left
        rw [List.drop_succ_cons, h]
        have e0 : evCs (e :: r) = evCells e ++ evCs r := by simp [evCs]
        have el : (evCells e).length = 4 := rfl
        rw [e0, List.getElem?_append_right (by omega), el]
        congr 1
        omega
      · right
        simpa using h
/-- The rest. -/
theorem LV.drop {g o cap : Nat} {l : List Ev} {W : World} (h : LV (.slice (some ⟨g, o, none⟩) l.length cap) l W) {n : Nat} (hn : n ≤ l.length) : LV (.slice (some ⟨g, o + n * 4, none⟩) (l.length - n) (cap - n)) (l.drop n) W := by
  obtain ⟨p, cap', hv, h1, h2, h3⟩ := h
  injection hv with hv _ hc
  subst hc
  refine ⟨_, _, by rw [List.length_drop], by rw [List.length_drop]; omega, by omega, Or.inr ⟨g, o + n * 4, rfl, ?_⟩⟩
  rcases h3 with ⟨h3, _⟩ | ⟨g', o', h4, h5, h6⟩
  · rw [h3] at hv; cases hv
  · rw [h4] at hv
    injection hv with hv
    injection hv with hv ho
    subst hv
    subst ho
    refine ⟨h5, fun j u hj => ?_⟩
    rcases evCs_drop l n j with h | h
    · rw [h] at hj
      rw [Nat.add_assoc]
      exact h6 _ _ hj
    · omega
theorem LV.none {g o cap : Nat} {l : List Ev} {W : World} (h : LV (.slice (some ⟨g, o, none⟩) l.length cap) l W) : LV (.slice (some ⟨g, o, none⟩) 0 0) [] W := by
  obtain ⟨p, cap', hv, h1, h2, h3⟩ := h
  injection hv with hv _ hc
  refine ⟨_, 0, rfl, Nat.le_refl _, by omega, Or.inr ⟨g, o, rfl, ?_, fun j u hj => by simp [evCs] at hj⟩⟩
  rcases h3 with ⟨h3, _⟩ | ⟨g', o', h4, h5, h6⟩
  · rw [h3] at hv; cases hv
  · rw [h4] at hv
    injection hv with hv
    injection hv with hv ho
    omega

set_option maxRecDepth 100000 in
set_option maxHeartbeats 2000000 in
/-- A step that asks for the error. -/
theorem step_err {w0 : World} {aL aI : Addr} {m : Int} (B : Base w0 aL aI m) {q : Gh} (hq : q.Ok) {bd : Nat} {st : Option (List Ev)} {O : Nat → Prop} {W : World} (hW : Below w0.heap.size w0 W) (hlow : ∀ x, O x → w0.heap.size ≤ x) (h : SAt aL aI q bd st O W) (n : Int) (two : Bool) :
    Calls Tryz.prog 23 #[.pointer (some ⟨bd, 0, none⟩), .agg #[.int .i64 3, .int .i64 n, .bool two]] W fun e w' => e = .returned (.bool true) ∧ ∃ st' O', st'.length ≤ (leftOf q st).length ∧ SAt aL aI q bd (some st') O' w' ∧ Fp O O' W w' := by
  obtain ⟨bq, v, O1, hb, qa, lv, hno, hvo, rfl⟩ := h
  obtain ⟨W1, hW1⟩ : ∃ W1, W.alloc (.cells #[.int .i64 3, .int .i64 n, .bool two] 54) = W1 := ⟨_, rfl⟩
  have hb1 : Below W.heap.size W W1 := by rw [← hW1]; exact (Below.refl _ W).alloc (Nat.le_refl _) _
  have x1 : W1.heap[W.heap.size]? = some (.cells #[.int .i64 3, .int .i64 n, .bool two] 54 (0, 0)) := by rw [← hW1]; exact heap_alloc_new W _
  obtain ⟨i0, i1, i2⟩ := cells3 x1
  have lbd := lt_of_block hb
  have hbd := (hb1.block bd lbd).trans hb
  obtain ⟨k0, k1, k2, k3, k4, k5, k6⟩ := cells7 hbd
  have hw1 : Below w0.heap.size w0 W1 := hW.trans (hb1.mono hW.size)
  have hlt := qa.lt
  have c1 : Calls Tryz.prog 20 #[.pointer (some ⟨bq, 0, none⟩)] W1 fun e w2 => e = .returned (.tuple #[.agg #[.int .i64 (outErr q.o), .int .i64 (outN q.o)], .int .i64 q.n]) ∧ w2.cell? ⟨bd, 2, none⟩ = some (.int .i64 (outErr q.o)) ∧ w2.cell? ⟨bd, 3, none⟩ = some (.int .i64 (outN q.o)) ∧ w2.cell? ⟨bd, 4, none⟩ = some (.int .i64 q.n) ∧ bd < w2.heap.size ∧ Hid (∀ X, Below w2.heap.size w2 X → ∃ st' O', st'.length ≤ (leftOf q st).length ∧ SAt aL aI q bd (some st') O' X ∧ Fp (fun x => O1 x ∨ x = bd ∨ v.ownBlock = some x) O' W X) := by
    refine (qerr_any B hq hw1 (fun x hx => hlow x (Or.inl hx)) (qa.keep (fun x hx => hb1.block x (hlt x hx)) hb1.size)).mono ?_
    rintro e w2 ⟨rfl, O2, qa2, hf⟩
    have z1 := hb1.size
    have hbd2 : w2.heap[bd]? = _ := (hf.block bd (by omega) hno).trans hbd
    obtain ⟨m0, m1, m2, m3, m4, m5, m6⟩ := cells7 hbd2
    refine ⟨rfl, m2, m3, m4, lt_of_block hbd2, fun X hX => ?_⟩
    obtain ⟨O', a, b⟩ := SAt.turn lbd hno hvo (fun g hg => lv.lt hg) hb1 hf qa2 (fun x hx _ => hX.block x hx) hX.size hX.os hX.tape hX.output ((hX.block bd (lt_of_block hbd2)).trans hbd2) (lv.keep (fun g hg => (hX.block g (by have := lv.lt hg; have := hf.size; omega)).trans ((hf.block g (by have := lv.lt hg; omega) (hvo g hg).1).trans (hb1.block g (lv.lt hg)))) (by have := hX.size; have := hf.size; omega)) (fun g hg => hg)
    exact ⟨_, O', Nat.le_refl _, a, b⟩
  clear qa hlow hW hb hbd hlt hw1 hb1 B hq lv hvo hno x1
  generalize outErr q.o = oe at *
  generalize outN q.o = on at *
  go_enter Tryz.func23, Tryz.ntmps23
  go_wp2_with (go_at_call 20; refine c1.mono ?_; rintro e w2 ⟨rfl, d2, d3, d4, ld, HF⟩)
  go_quiet (fail)
  go_wp2
  go_ret
  have hbl := (Below.refl w2.heap.size w2).alloc (Nat.le_refl _) (.cells #[.int .i64 oe, .int .i64 on] 43)
  exact ⟨rfl, HF.out _ ⟨hbl.os, hbl.tape, hbl.output, hbl.size, hbl.block⟩⟩

end Go.Proofs.YtljcljipppjnoaaGreatDoor

namespace Go.Proofs.YtljcljipppjnoaaGreatDoor
open Go.RowKit Go.Shelf

set_option maxRecDepth 100000 in
set_option maxHeartbeats 2000000 in
/-- A step that pulls, behind the last event. -/
theorem step_next0 {w0 : World} {aL aI : Addr} {m : Int} (B : Base w0 aL aI m) {q : Gh} (hq : q.Ok) {bd : Nat} {st : Option (List Ev)} {O : Nat → Prop} {W : World} (hW : Below w0.heap.size w0 W) (hlow : ∀ x, O x → w0.heap.size ≤ x) (h : SAt aL aI q bd st O W) (hs : leftOf q st = []) (n : Int) (two : Bool) :
    Calls Tryz.prog 23 #[.pointer (some ⟨bd, 0, none⟩), .agg #[.int .i64 1, .int .i64 n, .bool two]] W fun e w' => e = .returned (.bool true) ∧ ∃ st' O', st'.length ≤ (leftOf q st).length ∧ SAt aL aI q bd (some st') O' w' ∧ Fp O O' W w' := by
  obtain ⟨bq, v, O1, hb, qa, lv, hno, hvo, rfl⟩ := h
  obtain ⟨W1, hW1⟩ : ∃ W1, W.alloc (.cells #[.int .i64 1, .int .i64 n, .bool two] 54) = W1 := ⟨_, rfl⟩
  have hb1 : Below W.heap.size W W1 := by rw [← hW1]; exact (Below.refl _ W).alloc (Nat.le_refl _) _
  have x1 : W1.heap[W.heap.size]? = some (.cells #[.int .i64 1, .int .i64 n, .bool two] 54 (0, 0)) := by rw [← hW1]; exact heap_alloc_new W _
  obtain ⟨i0, i1, i2⟩ := cells3 x1
  have lbd := lt_of_block hb
  have hbd := (hb1.block bd lbd).trans hb
  obtain ⟨k0, k1, k2, k3, k4, k5, k6⟩ := cells7 hbd
  have hw1 : Below w0.heap.size w0 W1 := hW.trans (hb1.mono hW.size)
  have hlt := qa.lt
  rw [hs] at lv
  obtain ⟨p, cap, hv⟩ : ∃ p cap, v = .slice p 0 cap := by
    obtain ⟨p, cap, hv, _⟩ := lv
    exact ⟨p, cap, hv⟩
  have c1 : Calls Tryz.prog 19 #[.pointer (some ⟨bq, 0, none⟩)] W1 fun e w2 => e = .returned (.tuple #[.agg #[.int .i64 0, .bool false, .int .i64 0, .string ⟨#[]⟩], .bool false]) ∧ w2.cell? ⟨bd, 5, none⟩ = some (.slice p 0 cap) ∧ bd < w2.heap.size ∧ Hid (∀ X, Below w2.heap.size w2 X → ∃ st' O', st'.length ≤ (leftOf q st).length ∧ SAt aL aI q bd (some st') O' X ∧ Fp (fun x => O1 x ∨ x = bd ∨ v.ownBlock = some x) O' W X) := by
    refine (qnext_any B hq hw1 (fun x hx => hlow x (Or.inl hx)) (qa.keep (fun x hx => hb1.block x (hlt x hx)) hb1.size)).mono ?_
    rw [hs]
    rintro e w2 ⟨rfl, O2, qa2, hf⟩
    have z1 := hb1.size
    have hbd2 : w2.heap[bd]? = _ := (hf.block bd (by omega) hno).trans hbd
    obtain ⟨m0, m1, m2, m3, m4, m5, m6⟩ := cells7 hbd2
    rw [hv] at m5
    refine ⟨rfl, m5, lt_of_block hbd2, fun X hX => ?_⟩
    obtain ⟨O', a, b⟩ := SAt.turn lbd hno hvo (fun g hg => lv.lt hg) hb1 hf qa2 (fun x hx _ => hX.block x hx) hX.size hX.os hX.tape hX.output ((hX.block bd (lt_of_block hbd2)).trans hbd2) (lv.keep (fun g hg => (hX.block g (by have := lv.lt hg; have := hf.size; omega)).trans ((hf.block g (by have := lv.lt hg; omega) (hvo g hg).1).trans (hb1.block g (lv.lt hg)))) (by have := hX.size; have := hf.size; omega)) (fun g hg => hg)
    exact ⟨[], O', Nat.zero_le _, a, b⟩
  clear qa hlow hW hb hbd hlt hw1 hb1 B hq lv hvo hno x1 k5 hv
  go_enter Tryz.func23, Tryz.ntmps23
  go_wp2_with (go_at_call 19; refine c1.mono ?_; rintro e w2 ⟨rfl, d5, ld, HF⟩)
  go_ret
  exact ⟨rfl, HF.out _ ((Below.refl w2.heap.size w2).alloc (Nat.le_refl _) _)⟩

set_option maxRecDepth 100000 in
set_option maxHeartbeats 2000000 in
/-- A step that pulls an event. -/
theorem step_next1 {w0 : World} {aL aI : Addr} {m : Int} (B : Base w0 aL aI m) {q : Gh} (hq : q.Ok) {bd : Nat} {st : Option (List Ev)} {O : Nat → Prop} {W : World} (hW : Below w0.heap.size w0 W) (hlow : ∀ x, O x → w0.heap.size ≤ x) (h : SAt aL aI q bd st O W) (ev : Ev) (r : List Ev) (hs : leftOf q st = ev :: r) (hl : r.length ≤ 4999) (n : Int) (two : Bool) :
    Calls Tryz.prog 23 #[.pointer (some ⟨bd, 0, none⟩), .agg #[.int .i64 1, .int .i64 n, .bool two]] W fun e w' => e = .returned (.bool true) ∧ ∃ st' O', st'.length ≤ (leftOf q st).length ∧ SAt aL aI q bd (some st') O' w' ∧ Fp O O' W w' := by
  obtain ⟨bq, v, O1, hb, qa, lv, hno, hvo, rfl⟩ := h
  obtain ⟨W1, hW1⟩ : ∃ W1, W.alloc (.cells #[.int .i64 1, .int .i64 n, .bool two] 54) = W1 := ⟨_, rfl⟩
  have hb1 : Below W.heap.size W W1 := by rw [← hW1]; exact (Below.refl _ W).alloc (Nat.le_refl _) _
  have x1 : W1.heap[W.heap.size]? = some (.cells #[.int .i64 1, .int .i64 n, .bool two] 54 (0, 0)) := by rw [← hW1]; exact heap_alloc_new W _
  obtain ⟨i0, i1, i2⟩ := cells3 x1
  have lbd := lt_of_block hb
  have hbd := (hb1.block bd lbd).trans hb
  obtain ⟨k0, k1, k2, k3, k4, k5, k6⟩ := cells7 hbd
  have hw1 : Below w0.heap.size w0 W1 := hW.trans (hb1.mono hW.size)
  have hlt := qa.lt
  rw [hs] at lv
  obtain ⟨g, o, cap, hv, hc1, hc2⟩ : ∃ g o cap, v = .slice (some ⟨g, o, none⟩) (r.length + 1) cap ∧ r.length + 1 ≤ cap ∧ cap ≤ 9223372036854775807 := by
    obtain ⟨p, cap, hv, h1, h2, h3⟩ := lv
    rcases h3 with ⟨_, h3⟩ | ⟨g, o, h4, _⟩
    · rw [h3] at h1; simp at h1
    · exact ⟨g, o, cap, by rw [hv, h4]; rfl, by simpa using h1, h2⟩
  have lg : g < W.heap.size ∧ g ≠ bd ∧ ¬ O1 g := ⟨lv.lt (by rw [hv]; rfl), (hvo g (by rw [hv]; rfl)).2, (hvo g (by rw [hv]; rfl)).1⟩
  have c1 : Calls Tryz.prog 19 #[.pointer (some ⟨bq, 0, none⟩)] W1 fun e w2 => e = .returned (.tuple #[.agg #[.int .i64 ev.kind, .bool ev.fin, .int .i64 ev.level, .string ⟨ev.text.toArray⟩], .bool true]) ∧ w2.heap[bd]? = some (.cells #[.pointer (some ⟨bq, 0, none⟩), .string (outText q.o), .int .i64 (outErr q.o), .int .i64 (outN q.o), .int .i64 q.n, .slice (some ⟨g, o, none⟩) (r.length + 1) cap, .bool false] 51 (0, 0)) ∧ w2.cell? ⟨bd, 5, none⟩ = some (.slice (some ⟨g, o, none⟩) (r.length + 1) cap) ∧ bd < w2.heap.size ∧ g < w2.heap.size ∧ Hid (LV (.slice (some ⟨g, o, none⟩) (r.length + 1) cap) (ev :: r) w2) ∧ Hid (∀ X v', (∀ x, x < w2.heap.size → x ≠ bd → X.heap[x]? = w2.heap[x]?) → w2.heap.size ≤ X.heap.size → X.os = w2.os → X.tape = w2.tape → X.output = w2.output → X.heap[bd]? = some (.cells #[.pointer (some ⟨bq, 0, none⟩), .string (outText q.o), .int .i64 (outErr q.o), .int .i64 (outN q.o), .int .i64 q.n, v', .bool false] 51 (0, 0)) → LV v' r w2 → (∀ x, v'.ownBlock = some x → x = g) → ∃ st' O', st'.length ≤ (leftOf q st).length ∧ SAt aL aI q bd (some st') O' X ∧ Fp (fun x => O1 x ∨ x = bd ∨ v.ownBlock = some x) O' W X) := by
    refine (qnext_any B hq hw1 (fun x hx => hlow x (Or.inl hx)) (qa.keep (fun x hx => hb1.block x (hlt x hx)) hb1.size)).mono ?_
    rw [hs]
    rintro e w2 ⟨rfl, O2, qa2, hf⟩
    have z1 := hb1.size
    have z2 := hf.size
    have hbd2 : w2.heap[bd]? = _ := (hf.block bd (by omega) hno).trans hbd
    rw [hv] at hbd2
    obtain ⟨m0, m1, m2, m3, m4, m5, m6⟩ := cells7 hbd2
    have hg2 : w2.heap[g]? = W.heap[g]? := (hf.block g (by omega) lg.2.2).trans (hb1.block g lg.1)
    have lv2 : LV v (ev :: r) w2 := lv.keep (fun x hx => by
      rw [hv] at hx
      injection hx with hx
      have hx : g = x := hx
      rw [← hx]
      exact hg2) (by omega)
    rw [hv] at lv2
    refine ⟨rfl, hbd2, m5, by omega, by omega, lv2, fun X v' fX sX y1 y2 y3 hside hlv hov => ?_⟩
    obtain ⟨O', a, b⟩ := SAt.turn lbd hno hvo (fun g hg => lv.lt hg) hb1 hf qa2 fX sX y1 y2 y3 hside (hlv.keep (fun x hx => fX x (hlv.lt hx) (by rw [hov x hx]; exact lg.2.1)) sX) (fun x hx => by rw [hov x hx, hv]; rfl)
    exact ⟨r, O', by rw [List.length_cons]; omega, a, b⟩
  have HLG : Hid (g < W.heap.size ∧ g ≠ bd) := ⟨lg.1, lg.2.1⟩
  have ngb : ¬ g = bd := lg.2.1
  have nbg : ¬ bd = g := fun e => lg.2.1 e.symm
  clear qa hlow hW hb hbd hlt hw1 hb1 B hq lv hvo hno x1 k5 hv lg
  go_enter Tryz.func23, Tryz.ntmps23
  go_wp2_with (go_at_call 19; refine c1.mono ?_; rintro e w2 ⟨rfl, hside, d5, ld, lg, HL, HF⟩)
  obtain ⟨wd, hwd⟩ : ∃ wd, w2.alloc (.cells #[.int .i64 ev.kind, .bool ev.fin, .int .i64 ev.level, .string ⟨ev.text.toArray⟩] 39) = wd := ⟨_, rfl⟩
  have hX : Below w2.heap.size w2 wd := by rw [← hwd]; exact (Below.refl _ w2).alloc (Nat.le_refl _) _
  have zd : wd.heap.size = w2.heap.size + 1 := by rw [← hwd]; simp
  have xe : wd.heap[w2.heap.size]? = some (.cells #[.int .i64 ev.kind, .bool ev.fin, .int .i64 ev.level, .string ⟨ev.text.toArray⟩] 39 (0, 0)) := by rw [← hwd]; exact heap_alloc_new w2 _
  have HK : Hid (∀ w', Below wd.heap.size wd w' → w'.cell? ⟨w2.heap.size, 0, none⟩ = some (.int .i64 ev.kind) ∧ w'.cell? ⟨w2.heap.size, 1, none⟩ = some (.bool ev.fin) ∧ w'.cell? ⟨w2.heap.size, 2, none⟩ = some (.int .i64 ev.level) ∧ w'.cell? ⟨w2.heap.size, 3, none⟩ = some (.string ⟨ev.text.toArray⟩) ∧ w'.cell? ⟨bd, 5, none⟩ = some (.slice (some ⟨g, o, none⟩) (r.length + 1) cap)) := fun w' hb => by
    obtain ⟨a0, a1, a2, a3⟩ := cells4 ((hb.block w2.heap.size (by omega)).trans xe)
    exact ⟨a0, a1, a2, a3, (hb.cell (p := ⟨bd, 5, none⟩) (by show bd < _; omega)).trans ((hX.cell (p := ⟨bd, 5, none⟩) ld).trans d5)⟩
  have hD : Below wd.heap.size wd wd.drew := (Below.refl _ wd).drew
  have hDA := ((Below.refl wd.heap.size wd).alloc (Nat.le_refl _) (.cells #[.int .i64 ev.kind, .bool ev.fin, .int .i64 ev.level, .string ⟨ev.text.toArray⟩] 39)).drew
  have hnew : (wd.alloc (.cells #[.int .i64 ev.kind, .bool ev.fin, .int .i64 ev.level, .string ⟨ev.text.toArray⟩] 39)).drew.heap[wd.heap.size]? = some (.cells #[.int .i64 ev.kind, .bool ev.fin, .int .i64 ev.level, .string ⟨ev.text.toArray⟩] 39 (0, 0)) := heap_alloc_new wd _
  generalize hZ : (wd.alloc (.cells #[.int .i64 ev.kind, .bool ev.fin, .int .i64 ev.level, .string ⟨ev.text.toArray⟩] 39)).drew = Z at hDA hnew
  have lvZ : LV (.slice (some ⟨g, o, none⟩) (r.length + 1) cap) (ev :: r) Z := HL.out.keep (fun x hx => (hDA.block x (by have := HL.out.lt hx; omega)).trans (hX.block x (HL.out.lt hx))) (by have := hDA.size; omega)
  have CS : Calls Tryz.prog 16 #[.slice (some ⟨wd.heap.size, 0, none⟩) 1 1, .slice (some ⟨g, o, none⟩) 1 cap] Z fun e w3 => e = .returned (.bool true) ∧ Below wd.heap.size wd w3 := by
    refine (same_at wd.heap.size 1 g o cap [ev] _ (by simp) (fun j u hj => ?_) (fun j u hj => ?_) (lt_of_block hnew) (by have := hDA.size; omega)).mono ?_
    · rw [evCs_one] at hj
      refine row_cell hnew ?_
      rw [← hj]
      simp [evCells]
    · obtain ⟨p, cap', hv, _, _, h3⟩ := lvZ
      rcases h3 with ⟨h3, _⟩ | ⟨g', o', h4, _, h6⟩
      · rw [h3] at hv; cases hv
      · rw [h4] at hv
        injection hv with hv
        injection hv with hv
        injection hv with hv ho
        subst hv
        subst ho
        refine h6 j u ?_
        have e0 : evCs (ev :: r) = evCs [ev] ++ evCs r := by simp [evCs]
        rw [e0, List.getElem?_append_left (List.getElem?_eq_some_iff.1 hj).1]
        exact hj
    · rintro e w3 ⟨rfl, b3⟩
      exact ⟨rfl, hDA.trans (b3.mono hDA.size)⟩
  have HX : Hid (Below w2.heap.size w2 wd) := hX
  have HS : Hid _ := hside
  have HW : Hid (wd.heap.size = w2.heap.size + 1) := zd
  rw [hwd]
  obtain ⟨e0, e1, e2, e3, e5⟩ := HK.out wd (Below.refl _ wd)
  have ld1 : bd < wd.heap.size := by omega
  have hci : (1 : Int) ≤ (cap : Int) := by omega
  have hcn : ¬ cap = 0 := by omega
  have lg1 : g < wd.heap.size := by omega
  clear hX xe hside c1 hwd lvZ hW1 hnew zd
  have HDA : Hid _ := HK.out Z hDA
  clear hDA
  go_region_held3 (fun w' => w'.cell? ⟨w2.heap.size, 0, none⟩ = some (.int .i64 ev.kind) ∧ w'.cell? ⟨w2.heap.size, 1, none⟩ = some (.bool ev.fin) ∧ w'.cell? ⟨w2.heap.size, 2, none⟩ = some (.int .i64 ev.level) ∧ w'.cell? ⟨w2.heap.size, 3, none⟩ = some (.string ⟨ev.text.toArray⟩) ∧ w'.cell? ⟨bd, 5, none⟩ = some (.slice (some ⟨g, o, none⟩) (r.length + 1) cap)) (first | exact HK.out _ hD | exact HDA.out | exact HK.out _ b3) ((go_at_call 16; refine CS.mono ?_; rintro e w3 ⟨rfl, b3⟩))
  have hsd : w3.heap[bd]? = _ := (b3.block bd ld1).trans ((HX.out.block bd ld).trans HS.out)
  have m5 := row_cell (i := 5) hsd rfl
  have f5 := row_free (i := 5) hsd
  have HSD : Hid _ := hsd
  have B3 : Hid (Below w2.heap.size w2 w3) := HX.out.trans (b3.mono HX.out.size)
  clear hsd HDA CS e0 e1 e2 e3 e5 k0 k1 k2 k3 k4 k6 i0 i1 i2 b3 hD hZ HK d5
  by_cases hcap : cap = 1
  · have hr0 : r = [] := List.eq_nil_of_length_eq_zero (by omega)
    subst hr0
    subst hcap
    go_wp2
    go_ret
    exact ⟨rfl, HF.out _ (.slice (some ⟨g, o, none⟩) 0 0) (fun x hx hne => (Below.heap_setCell _ _ _ _ hne).trans (B3.out.block x hx)) (by rw [World.size_setCell]; exact B3.out.size) B3.out.os B3.out.tape B3.out.output (set_row HSD.out) (LV.none (l := [ev]) HL.out) (fun x hx => by injection hx with hx; exact hx.symm)⟩
  · go_wp2
    go_ret
    exact ⟨rfl, HF.out _ (.slice (some ⟨g, o + 4, none⟩) r.length (cap - 1)) (fun x hx hne => (Below.heap_setCell _ _ _ _ hne).trans (B3.out.block x hx)) (by rw [World.size_setCell]; exact B3.out.size) B3.out.os B3.out.tape B3.out.output (set_row HSD.out) (by have := LV.drop (l := ev :: r) HL.out (n := 1) (by simp); simpa using this) (fun x hx => by injection hx with hx; exact hx.symm)⟩

end Go.Proofs.YtljcljipppjnoaaGreatDoor

namespace Go.Proofs.YtljcljipppjnoaaGreatDoor
open Go.RowKit Go.Shelf

/-- What has been yielded is what the document has, up to there. -/
theorem same_taken {w2 : World} {v2 : Value} {acc r : List Ev} (ow : w2.ownsRow 0 39 4 v2 acc.length (evCs acc)) {p : Option Addr} {cap : Nat} (lv : LV (.slice p (acc ++ r).length cap) (acc ++ r) w2) (hl : acc.length ≤ 5000) (Z : World) (hZ : Below w2.heap.size w2 Z) :
    Calls Tryz.prog 16 #[v2, .slice p acc.length cap] Z fun e w3 => e = .returned (.bool true) ∧ Below w2.heap.size w2 w3 := by
  have fin : ∀ {e : Ending} {w3 : World}, e = .returned (.bool true) ∧ Below Z.heap.size Z w3 → e = .returned (.bool true) ∧ Below w2.heap.size w2 w3 := fun h => ⟨h.1, hZ.trans (h.2.mono hZ.size)⟩
  rcases ow.2 with ⟨rfl, h0⟩ | ⟨g1, c1, cur, rfl, _, hg, _, _, _, _⟩
  · rw [h0]
    exact (same_none _ _ _ _ _).mono fun e w3 h => fin h
  · obtain ⟨p', cap', hv, _, _, h3⟩ := lv
    injection hv with hv _ hc
    subst hv
    subst hc
    rcases h3 with ⟨h3, h4⟩ | ⟨g2, o2, h4, h5, h6⟩
    · have : acc.length = 0 := by
        rename_i hle _
        rw [List.length_append] at hle
        omega
      rw [this]
      exact (same_none _ _ _ _ _).mono fun e w3 h => fin h
    · subst h4
      refine (same_at g1 c1 g2 o2 cap acc Z (by omega) (fun j u hj => ?_) (fun j u hj => ?_) (by have := lt_of_block hg; have := hZ.size; omega) (by have := hZ.size; omega)).mono fun e w3 h => fin h
      · have := ow.cells (g := g1) rfl j u hj
        rw [Addr.add_lit, Nat.zero_add] at this
        exact (hZ.cell (p := ⟨g1, j, none⟩) (lt_of_block hg)).trans this
      · refine (hZ.cell (p := ⟨g2, o2 + j, none⟩) h5).trans (h6 j u ?_)
        rw [evCs_append, List.getElem?_append_left (List.getElem?_eq_some_iff.1 hj).1]
        exact hj

/-- How many are taken. -/
theorem taken_len {acc r l : List Ev} {n : Int} (h : acc ++ r = l) (hc : (r = [] ∧ (n < 1 ∨ (acc.length : Int) < n)) ∨ ((acc.length : Int) = n ∧ 1 ≤ n)) {k : Nat} (hk : ((n < 1 ∨ (l.length : Int) < n) ∧ k = l.length) ∨ (¬ n < 1 ∧ ¬ (l.length : Int) < n ∧ n = k)) : acc.length = k := by
  have hl : acc.length + r.length = l.length := by rw [← h]; simp
  rcases hc with ⟨rfl, hc⟩ | ⟨hc, hc2⟩
  · simp at hl
    omega
  · omega

set_option maxRecDepth 100000 in
set_option maxHeartbeats 2000000 in
/-- A step that goes through all that is left, or some of it. -/
theorem step_all {w0 : World} {aL aI : Addr} {m : Int} (B : Base w0 aL aI m) {q : Gh} (hq : q.Ok) {bd : Nat} {st : Option (List Ev)} {O : Nat → Prop} {W : World} (hW : Below w0.heap.size w0 W) (hlow : ∀ x, O x → w0.heap.size ≤ x) (h : SAt aL aI q bd st O W) (hl : (leftOf q st).length ≤ 4999) (n : Int) (two : Bool) :
    Calls Tryz.prog 23 #[.pointer (some ⟨bd, 0, none⟩), .agg #[.int .i64 2, .int .i64 n, .bool two]] W fun e w' => e = .returned (.bool true) ∧ ∃ st' O', st'.length ≤ (leftOf q st).length ∧ SAt aL aI q bd (some st') O' w' ∧ Fp O O' W w' := by
  obtain ⟨bq, v, O1, hb, qa, lv, hno, hvo, rfl⟩ := h
  obtain ⟨W1, hW1⟩ : ∃ W1, W.alloc (.cells #[.int .i64 2, .int .i64 n, .bool two] 54) = W1 := ⟨_, rfl⟩
  have hb1 : Below W.heap.size W W1 := by rw [← hW1]; exact (Below.refl _ W).alloc (Nat.le_refl _) _
  have x1 : W1.heap[W.heap.size]? = some (.cells #[.int .i64 2, .int .i64 n, .bool two] 54 (0, 0)) := by rw [← hW1]; exact heap_alloc_new W _
  obtain ⟨i0, i1, i2⟩ := cells3 x1
  have lbd := lt_of_block hb
  have hbd := (hb1.block bd lbd).trans hb
  obtain ⟨k0, k1, k2, k3, k4, k5, k6⟩ := cells7 hbd
  have hw1 : Below w0.heap.size w0 W1 := hW.trans (hb1.mono hW.size)
  have hlt := qa.lt
  obtain ⟨k, hk⟩ : ∃ k : Nat, ((n < 1 ∨ ((leftOf q st).length : Int) < n) ∧ k = (leftOf q st).length) ∨ (¬ n < 1 ∧ ¬ ((leftOf q st).length : Int) < n ∧ n = k) := by
    by_cases h1 : n < 1 ∨ ((leftOf q st).length : Int) < n
    · exact ⟨_, Or.inl ⟨h1, rfl⟩⟩
    · exact ⟨n.toNat, Or.inr (by omega)⟩
  obtain ⟨p, cap, hv, hcap1, hcap2, hform⟩ := lv
  have lv : LV v (leftOf q st) W := ⟨p, cap, hv, hcap1, hcap2, hform⟩
  have lgp : ∀ g o, p = some ⟨g, o, none⟩ → g < W.heap.size ∧ g ≠ bd ∧ ¬ O1 g := fun g o hp => ⟨lv.lt (by rw [hv, hp]; rfl), (hvo g (by rw [hv, hp]; rfl)).2, (hvo g (by rw [hv, hp]; rfl)).1⟩
  have hkl : k ≤ (leftOf q st).length := by omega
  have c1 : Calls Tryz.prog 52 #[.pointer (some ⟨bq, 0, none⟩), .int .i64 n] W1.drew fun e w2 => ∃ p2 l2 c2, e = .returned (.tuple #[.slice p2 l2 c2, .bool true]) ∧ (w2.cell? ⟨bd, 0, none⟩ = some (.pointer (some ⟨bq, 0, none⟩)) ∧ w2.cell? ⟨W.heap.size, 1, none⟩ = some (.int .i64 n)) ∧ w2.heap[bd]? = some (.cells #[.pointer (some ⟨bq, 0, none⟩), .string (outText q.o), .int .i64 (outErr q.o), .int .i64 (outN q.o), .int .i64 q.n, .slice p (leftOf q st).length cap, .bool false] 51 (0, 0)) ∧ w2.cell? ⟨bd, 5, none⟩ = some (.slice p (leftOf q st).length cap) ∧ bd < w2.heap.size ∧ Hid (∀ Z, Below w2.heap.size w2 Z → Calls Tryz.prog 16 #[.slice p2 l2 c2, .slice p k cap] Z fun e w3 => e = .returned (.bool true) ∧ Below w2.heap.size w2 w3) ∧ Hid (LV (.slice p (leftOf q st).length cap) (leftOf q st) w2 ∧ ∀ X v', (∀ x, x < w2.heap.size → x ≠ bd → X.heap[x]? = w2.heap[x]?) → w2.heap.size ≤ X.heap.size → X.os = w2.os → X.tape = w2.tape → X.output = w2.output → X.heap[bd]? = some (.cells #[.pointer (some ⟨bq, 0, none⟩), .string (outText q.o), .int .i64 (outErr q.o), .int .i64 (outN q.o), .int .i64 q.n, v', .bool false] 51 (0, 0)) → LV v' ((leftOf q st).drop k) w2 → (∀ x, v'.ownBlock = some x → ∃ o, p = some ⟨x, o, none⟩) → ∃ st' O', st'.length ≤ (leftOf q st).length ∧ SAt aL aI q bd (some st') O' X ∧ Fp (fun x => O1 x ∨ x = bd ∨ v.ownBlock = some x) O' W X) := by
    refine (qall_any (W := W1.drew) B hq hw1.drew (fun x hx => hlow x (Or.inl hx)) (qa.keep (fun x hx => hb1.block x (hlt x hx)) hb1.size) n hl).mono ?_
    rintro e w2 ⟨v2, acc, r, O2, rfl, ow, qa2, hf, hacc, hcond⟩
    have z1 := hb1.size
    have z2 : W1.heap.size ≤ w2.heap.size := hf.size
    have z3 : W.heap.size < W1.heap.size := lt_of_block x1
    have hka := taken_len hacc hcond hk
    have hbd2 : w2.heap[bd]? = _ := (hf.block bd (by show bd < W1.heap.size; omega) hno).trans hbd
    rw [hv] at hbd2
    obtain ⟨m0, m1, m2, m3, m4, m5, m6⟩ := cells7 hbd2
    have lv2 : LV v (leftOf q st) w2 := lv.keep (fun x hx => (hf.block x (by have := lv.lt hx; show x < W1.heap.size; omega) (hvo x hx).1).trans (hb1.block x (lv.lt hx))) (by omega)
    rw [hv] at lv2
    obtain ⟨p2, l2, c2, rfl⟩ : ∃ p2 l2 c2, v2 = .slice p2 l2 c2 := by
      rcases Joins.ownsRow_forms ow with ⟨h, _⟩ | ⟨g', cap', h⟩
      · exact ⟨_, _, _, h⟩
      · exact ⟨_, _, _, h⟩
    have hdr : (leftOf q st).drop k = r := by rw [← hacc, ← hka, List.drop_left]
    have hop : w2.heap[W.heap.size]? = _ := (hf.block W.heap.size z3 (fun ho => by have := hlt _ ho; omega)).trans x1
    refine ⟨p2, l2, c2, rfl, ⟨m0, (cells3 hop).2.1⟩, hbd2, m5, by omega, fun Z hZ => ?_, lv2, fun X v' fX sX y1 y2 y3 hside hlv hov => ?_⟩
    · rw [← hka]
      rw [← hacc] at lv2
      exact same_taken ow lv2 (by rw [← hacc, List.length_append] at hl; omega) Z hZ
    · rw [hdr] at hlv
      obtain ⟨O', a, b⟩ := SAt.turn (W1 := W1.drew) lbd hno hvo (fun g hg => lv.lt hg) hb1.drew hf qa2 fX sX y1 y2 y3 hside (hlv.keep (fun x hx => fX x (hlv.lt hx) (by obtain ⟨o, ho⟩ := hov x hx; exact (lgp x o ho).2.1)) sX) (fun x hx => by obtain ⟨o, ho⟩ := hov x hx; rw [hv, ho]; rfl)
      exact ⟨r, O', by rw [← hacc, List.length_append]; omega, a, b⟩
  rw [hv] at k5
  have i1' : W1.drew.cell? ⟨W.heap.size, 1, none⟩ = some (.int .i64 n) := i1
  have k0' : W1.drew.cell? ⟨bd, 0, none⟩ = some (.pointer (some ⟨bq, 0, none⟩)) := k0
  clear qa hlow hW hb hbd hlt hw1 hb1 B hq lv hvo hno x1 hv lgp
  generalize hlf : leftOf q st = lf at *
  clear hlf
  generalize hln : lf.length = ln at *
  have HLN : Hid (lf.length = ln) := hln
  clear hln
  rcases hform with ⟨rfl, rfl⟩ | ⟨g, o, rfl, lg, _⟩
  · -- nothing is there
    have h0 : ln = 0 := by omega
    subst h0
    have hk0 : k = 0 := by omega
    subst hk0
    have hlf : lf = [] := List.eq_nil_of_length_eq_zero HLN.out
    subst hlf
    have hcz : ((0 : Nat) : Int) ≤ ((0 : Nat) : Int) := Int.le_refl _
    rcases Classical.em (n < 1) with h1 | h1
    · have b1 : decide (n < 1) = true := by simp; omega
      have hci : ((0 : Nat) : Int) ≤ ((0 : Nat) : Int) := by omega
      have hcl : ((0 : Nat) : Int) ≤ ((0 : Nat) : Int) := by omega
      go_enter Tryz.func23, Tryz.ntmps23
      go_wp2
      go_region_held3 (fun w' => w'.cell? ⟨bd, 0, none⟩ = some (.pointer (some ⟨bq, 0, none⟩)) ∧ w'.cell? ⟨W.heap.size, 1, none⟩ = some (.int .i64 n)) (first | exact ⟨k0', i1'⟩ | exact DS) ((go_at_call 52; refine c1.mono ?_; rintro e w2 ⟨p2, l2, c2, rfl, DS, hside, d5, ld, SC, HF⟩))
      have hD : Below w2.heap.size w2 w2 := Below.refl _ w2
      have HS : Hid _ := hside
      clear c1 hside hW1
      go_wp2_with (go_at_call 16; refine (SC.out _ hD).mono ?_; rintro e w3 ⟨rfl, b3⟩; have hsd := (b3.block bd ld).trans HS.out; have m5 := row_cell (i := 5) hsd rfl; have f5 := row_free (i := 5) hsd; have HSD : Hid _ := hsd; have B3 : Hid (Below w2.heap.size w2 w3) := b3; clear hsd b3)
      go_ret
      exact ⟨rfl, HF.out.2 _ (.slice none 0 0) (fun x hx hne => (Below.heap_setCell _ _ _ _ hne).trans (B3.out.block x hx)) (by rw [World.size_setCell]; exact B3.out.size) B3.out.os B3.out.tape B3.out.output (set_row HSD.out) (LV.nil _) (fun x hx => by cases hx)⟩
    · have b1 : decide (n < 1) = false := by simp; omega
      have b2 : decide ((0 : Int) < n) = true := by simp; omega
      have hci : ((0 : Nat) : Int) ≤ ((0 : Nat) : Int) := by omega
      have hcl : ((0 : Nat) : Int) ≤ ((0 : Nat) : Int) := by omega
      go_enter Tryz.func23, Tryz.ntmps23
      go_wp2
      go_region_held3 (fun w' => w'.cell? ⟨bd, 0, none⟩ = some (.pointer (some ⟨bq, 0, none⟩)) ∧ w'.cell? ⟨W.heap.size, 1, none⟩ = some (.int .i64 n)) (first | exact ⟨k0', i1'⟩ | exact DS) ((go_at_call 52; refine c1.mono ?_; rintro e w2 ⟨p2, l2, c2, rfl, DS, hside, d5, ld, SC, HF⟩))
      have hD : Below w2.heap.size w2 w2 := Below.refl _ w2
      have HS : Hid _ := hside
      clear c1 hside hW1
      go_wp2_with (go_at_call 16; refine (SC.out _ hD).mono ?_; rintro e w3 ⟨rfl, b3⟩; have hsd := (b3.block bd ld).trans HS.out; have m5 := row_cell (i := 5) hsd rfl; have f5 := row_free (i := 5) hsd; have HSD : Hid _ := hsd; have B3 : Hid (Below w2.heap.size w2 w3) := b3; clear hsd b3)
      go_ret
      exact ⟨rfl, HF.out.2 _ (.slice none 0 0) (fun x hx hne => (Below.heap_setCell _ _ _ _ hne).trans (B3.out.block x hx)) (by rw [World.size_setCell]; exact B3.out.size) B3.out.os B3.out.tape B3.out.output (set_row HSD.out) (LV.nil _) (fun x hx => by cases hx)⟩
  · rcases hk with ⟨hk, rfl⟩ | ⟨h1, h2, rfl⟩
    · rcases Classical.em (n < 1) with h1 | h1
      · have b1 : decide (n < 1) = true := by simp; omega
        by_cases hck : cap = k
        · subst hck
          have hci : (cap : Int) ≤ (cap : Int) := by omega
          have hcl : (cap : Int) ≤ (cap : Int) := by omega
          go_enter Tryz.func23, Tryz.ntmps23
          go_wp2
          go_region_held3 (fun w' => w'.cell? ⟨bd, 0, none⟩ = some (.pointer (some ⟨bq, 0, none⟩)) ∧ w'.cell? ⟨W.heap.size, 1, none⟩ = some (.int .i64 n)) (first | exact ⟨k0', i1'⟩ | exact DS) ((go_at_call 52; refine c1.mono ?_; rintro e w2 ⟨p2, l2, c2, rfl, DS, hside, d5, ld, SC, HF⟩))
          have hD : Below w2.heap.size w2 w2 := Below.refl _ w2
          have HS : Hid _ := hside
          clear c1 hside hW1
          go_wp2_with (go_at_call 16; refine (SC.out _ hD).mono ?_; rintro e w3 ⟨rfl, b3⟩; have hsd := (b3.block bd ld).trans HS.out; have m5 := row_cell (i := 5) hsd rfl; have f5 := row_free (i := 5) hsd; have HSD : Hid _ := hsd; have B3 : Hid (Below w2.heap.size w2 w3) := b3; clear hsd b3)
          go_ret
          exact ⟨rfl, HF.out.2 _ (.slice (some ⟨g, o, none⟩) 0 0) (fun x hx hne => (Below.heap_setCell _ _ _ _ hne).trans (B3.out.block x hx)) (by rw [World.size_setCell]; exact B3.out.size) B3.out.os B3.out.tape B3.out.output (set_row HSD.out) (by rw [List.drop_of_length_le (by have := HLN.out; omega)]; exact LV.none (l := lf) (by rw [HLN.out]; exact HF.out.1)) (fun x hx => by injection hx with hx; exact ⟨o, by rw [← hx]⟩)⟩
        · have hci : (k : Int) ≤ (cap : Int) := by omega
          have hcl : (k : Int) ≤ (k : Int) := by omega
          go_enter Tryz.func23, Tryz.ntmps23
          go_wp2
          go_region_held3 (fun w' => w'.cell? ⟨bd, 0, none⟩ = some (.pointer (some ⟨bq, 0, none⟩)) ∧ w'.cell? ⟨W.heap.size, 1, none⟩ = some (.int .i64 n)) (first | exact ⟨k0', i1'⟩ | exact DS) ((go_at_call 52; refine c1.mono ?_; rintro e w2 ⟨p2, l2, c2, rfl, DS, hside, d5, ld, SC, HF⟩))
          have hD : Below w2.heap.size w2 w2 := Below.refl _ w2
          have HS : Hid _ := hside
          clear c1 hside hW1
          go_wp2_with (go_at_call 16; refine (SC.out _ hD).mono ?_; rintro e w3 ⟨rfl, b3⟩; have hsd := (b3.block bd ld).trans HS.out; have m5 := row_cell (i := 5) hsd rfl; have f5 := row_free (i := 5) hsd; have HSD : Hid _ := hsd; have B3 : Hid (Below w2.heap.size w2 w3) := b3; clear hsd b3)
          go_ret
          exact ⟨rfl, HF.out.2 _ (.slice (some ⟨g, o + k * 4, none⟩) 0 (cap - k)) (fun x hx hne => (Below.heap_setCell _ _ _ _ hne).trans (B3.out.block x hx)) (by rw [World.size_setCell]; exact B3.out.size) B3.out.os B3.out.tape B3.out.output (set_row HSD.out) (by have := LV.drop (l := lf) (n := k) (by rw [HLN.out]; exact HF.out.1) (by have := HLN.out; omega); rw [HLN.out, Nat.sub_self] at this; exact this) (fun x hx => by injection hx with hx; exact ⟨o, by rw [← hx]⟩)⟩
      · have b1 : decide (n < 1) = false := by simp; omega
        have b2 : decide ((k : Int) < n) = true := by simp; omega
        by_cases hck : cap = k
        · subst hck
          have hci : (cap : Int) ≤ (cap : Int) := by omega
          have hcl : (cap : Int) ≤ (cap : Int) := by omega
          go_enter Tryz.func23, Tryz.ntmps23
          go_wp2
          go_region_held3 (fun w' => w'.cell? ⟨bd, 0, none⟩ = some (.pointer (some ⟨bq, 0, none⟩)) ∧ w'.cell? ⟨W.heap.size, 1, none⟩ = some (.int .i64 n)) (first | exact ⟨k0', i1'⟩ | exact DS) ((go_at_call 52; refine c1.mono ?_; rintro e w2 ⟨p2, l2, c2, rfl, DS, hside, d5, ld, SC, HF⟩))
          have hD : Below w2.heap.size w2 w2 := Below.refl _ w2
          have HS : Hid _ := hside
          clear c1 hside hW1
          go_wp2_with (go_at_call 16; refine (SC.out _ hD).mono ?_; rintro e w3 ⟨rfl, b3⟩; have hsd := (b3.block bd ld).trans HS.out; have m5 := row_cell (i := 5) hsd rfl; have f5 := row_free (i := 5) hsd; have HSD : Hid _ := hsd; have B3 : Hid (Below w2.heap.size w2 w3) := b3; clear hsd b3)
          go_ret
          exact ⟨rfl, HF.out.2 _ (.slice (some ⟨g, o, none⟩) 0 0) (fun x hx hne => (Below.heap_setCell _ _ _ _ hne).trans (B3.out.block x hx)) (by rw [World.size_setCell]; exact B3.out.size) B3.out.os B3.out.tape B3.out.output (set_row HSD.out) (by rw [List.drop_of_length_le (by have := HLN.out; omega)]; exact LV.none (l := lf) (by rw [HLN.out]; exact HF.out.1)) (fun x hx => by injection hx with hx; exact ⟨o, by rw [← hx]⟩)⟩
        · have hci : (k : Int) ≤ (cap : Int) := by omega
          have hcl : (k : Int) ≤ (k : Int) := by omega
          go_enter Tryz.func23, Tryz.ntmps23
          go_wp2
          go_region_held3 (fun w' => w'.cell? ⟨bd, 0, none⟩ = some (.pointer (some ⟨bq, 0, none⟩)) ∧ w'.cell? ⟨W.heap.size, 1, none⟩ = some (.int .i64 n)) (first | exact ⟨k0', i1'⟩ | exact DS) ((go_at_call 52; refine c1.mono ?_; rintro e w2 ⟨p2, l2, c2, rfl, DS, hside, d5, ld, SC, HF⟩))
          have hD : Below w2.heap.size w2 w2 := Below.refl _ w2
          have HS : Hid _ := hside
          clear c1 hside hW1
          go_wp2_with (go_at_call 16; refine (SC.out _ hD).mono ?_; rintro e w3 ⟨rfl, b3⟩; have hsd := (b3.block bd ld).trans HS.out; have m5 := row_cell (i := 5) hsd rfl; have f5 := row_free (i := 5) hsd; have HSD : Hid _ := hsd; have B3 : Hid (Below w2.heap.size w2 w3) := b3; clear hsd b3)
          go_ret
          exact ⟨rfl, HF.out.2 _ (.slice (some ⟨g, o + k * 4, none⟩) 0 (cap - k)) (fun x hx hne => (Below.heap_setCell _ _ _ _ hne).trans (B3.out.block x hx)) (by rw [World.size_setCell]; exact B3.out.size) B3.out.os B3.out.tape B3.out.output (set_row HSD.out) (by have := LV.drop (l := lf) (n := k) (by rw [HLN.out]; exact HF.out.1) (by have := HLN.out; omega); rw [HLN.out, Nat.sub_self] at this; exact this) (fun x hx => by injection hx with hx; exact ⟨o, by rw [← hx]⟩)⟩
    · have b1 : decide ((k : Int) < 1) = false := by simp; omega
      have b2 : decide ((ln : Int) < (k : Int)) = false := by simp; omega
      by_cases hck : cap = k
      · subst hck
        have hlc : ln = cap := by omega
        subst hlc
        have hci : (ln : Int) ≤ (ln : Int) := by omega
        have hcl : (ln : Int) ≤ (ln : Int) := by omega
        go_enter Tryz.func23, Tryz.ntmps23
        go_wp2
        go_region_held3 (fun w' => w'.cell? ⟨bd, 0, none⟩ = some (.pointer (some ⟨bq, 0, none⟩)) ∧ w'.cell? ⟨W.heap.size, 1, none⟩ = some (.int .i64 (ln : Int))) (first | exact ⟨k0', i1'⟩ | exact DS) ((go_at_call 52; refine c1.mono ?_; rintro e w2 ⟨p2, l2, c2, rfl, DS, hside, d5, ld, SC, HF⟩))
        have hD : Below w2.heap.size w2 w2 := Below.refl _ w2
        have HS : Hid _ := hside
        clear c1 hside hW1
        go_wp2_with (go_at_call 16; refine (SC.out _ hD).mono ?_; rintro e w3 ⟨rfl, b3⟩; have hsd := (b3.block bd ld).trans HS.out; have m5 := row_cell (i := 5) hsd rfl; have f5 := row_free (i := 5) hsd; have HSD : Hid _ := hsd; have B3 : Hid (Below w2.heap.size w2 w3) := b3; clear hsd b3)
        go_ret
        exact ⟨rfl, HF.out.2 _ (.slice (some ⟨g, o, none⟩) 0 0) (fun x hx hne => (Below.heap_setCell _ _ _ _ hne).trans (B3.out.block x hx)) (by rw [World.size_setCell]; exact B3.out.size) B3.out.os B3.out.tape B3.out.output (set_row HSD.out) (by rw [List.drop_of_length_le (by have := HLN.out; omega)]; exact LV.none (l := lf) (by rw [HLN.out]; exact HF.out.1)) (fun x hx => by injection hx with hx; exact ⟨o, by rw [← hx]⟩)⟩
      · have hci : (k : Int) ≤ (cap : Int) := by omega
        have hcl : (k : Int) ≤ (ln : Int) := by omega
        go_enter Tryz.func23, Tryz.ntmps23
        go_wp2
        go_region_held3 (fun w' => w'.cell? ⟨bd, 0, none⟩ = some (.pointer (some ⟨bq, 0, none⟩)) ∧ w'.cell? ⟨W.heap.size, 1, none⟩ = some (.int .i64 (k : Int))) (first | exact ⟨k0', i1'⟩ | exact DS) ((go_at_call 52; refine c1.mono ?_; rintro e w2 ⟨p2, l2, c2, rfl, DS, hside, d5, ld, SC, HF⟩))
        have hD : Below w2.heap.size w2 w2 := Below.refl _ w2
        have HS : Hid _ := hside
        clear c1 hside hW1
        go_wp2_with (go_at_call 16; refine (SC.out _ hD).mono ?_; rintro e w3 ⟨rfl, b3⟩; have hsd := (b3.block bd ld).trans HS.out; have m5 := row_cell (i := 5) hsd rfl; have f5 := row_free (i := 5) hsd; have HSD : Hid _ := hsd; have B3 : Hid (Below w2.heap.size w2 w3) := b3; clear hsd b3)
        go_ret
        exact ⟨rfl, HF.out.2 _ (.slice (some ⟨g, o + k * 4, none⟩) (ln - k) (cap - k)) (fun x hx hne => (Below.heap_setCell _ _ _ _ hne).trans (B3.out.block x hx)) (by rw [World.size_setCell]; exact B3.out.size) B3.out.os B3.out.tape B3.out.output (set_row HSD.out) (by have := LV.drop (l := lf) (n := k) (by rw [HLN.out]; exact HF.out.1) (by have := HLN.out; omega); rw [HLN.out] at this; exact this) (fun x hx => by injection hx with hx; exact ⟨o, by rw [← hx]⟩)⟩

end Go.Proofs.YtljcljipppjnoaaGreatDoor

namespace Go.Proofs.YtljcljipppjnoaaGreatDoor
open Go.RowKit Go.Shelf

set_option maxRecDepth 100000 in
set_option maxHeartbeats 2000000 in
/-- Any step. -/
theorem step_any {w0 : World} {aL aI : Addr} {m : Int} (B : Base w0 aL aI m) {q : Gh} (hq : q.Ok) {bd : Nat} {st : Option (List Ev)} {O : Nat → Prop} {W : World} (hW : Below w0.heap.size w0 W) (hlow : ∀ x, O x → w0.heap.size ≤ x) (h : SAt aL aI q bd st O W) (hl : (leftOf q st).length ≤ 4804) (k n : Int) (two : Bool) :
    Calls Tryz.prog 23 #[.pointer (some ⟨bd, 0, none⟩), .agg #[.int .i64 k, .int .i64 n, .bool two]] W fun e w' => e = .returned (.bool true) ∧ ∃ st' O', (leftOf q st').length ≤ 4804 ∧ SAt aL aI q bd st' O' w' ∧ Fp O O' W w' := by
  have fin : ∀ {e : Ending} {w' : World}, (e = .returned (.bool true) ∧ ∃ st' O', st'.length ≤ (leftOf q st).length ∧ SAt aL aI q bd (some st') O' w' ∧ Fp O O' W w') → e = .returned (.bool true) ∧ ∃ st' O', (leftOf q st').length ≤ 4804 ∧ SAt aL aI q bd st' O' w' ∧ Fp O O' W w' := by
    rintro e w' ⟨rfl, st', O', h1, h2, h3⟩
    exact ⟨rfl, some st', O', Nat.le_trans h1 hl, h2, h3⟩
  by_cases h1 : k = 1
  · subst h1
    cases hs : leftOf q st with
    | nil => exact (step_next0 B hq hW hlow h hs n two).mono fun e w' h => fin h
    | cons ev r => exact (step_next1 B hq hW hlow h ev r hs (by rw [hs, List.length_cons] at hl; omega) n two).mono fun e w' h => fin h
  by_cases h2 : k = 2
  · subst h2
    exact (step_all B hq hW hlow h (by omega) n two).mono fun e w' h => fin h
  by_cases h3 : k = 3
  · subst h3
    exact (step_err B hq hW hlow h n two).mono fun e w' h => fin h
  have b1 : (k == (1 : Int)) = false := by simpa using h1
  have b2 : (k == (2 : Int)) = false := by simpa using h2
  have b3 : (k == (3 : Int)) = false := by simpa using h3
  have H : Hid (SAt aL aI q bd st O W) := h
  clear fin hlow hW hq B h h1 h2 h3
  go_enter Tryz.func23, Tryz.ntmps23
  go_wp2
  go_ret
  have hb := (Below.refl W.heap.size W).alloc (Nat.le_refl _) (.cells #[.int .i64 k, .int .i64 n, .bool two] 54)
  exact ⟨rfl, st, O, hl, H.out.keep (fun x hx => hb.block x (H.out.lt x hx)) hb.size, Fp.below hb⟩

/-- Two sides. -/
def Two (w0 : World) (aL aI : Addr) (q u : Gh) (bd be : Nat) (W : World) : Prop :=
  ∃ st su O P, SAt aL aI q bd st O W ∧ SAt aL aI u be su P W ∧ (leftOf q st).length ≤ 4804 ∧ (leftOf u su).length ≤ 4804 ∧ (∀ x, O x → ¬ P x) ∧ (∀ x, O x → w0.heap.size ≤ x) ∧ (∀ x, P x → w0.heap.size ≤ x) ∧ Below w0.heap.size w0 W
theorem Two.swap {w0 : World} {aL aI : Addr} {q u : Gh} {bd be : Nat} {W : World} (h : Two w0 aL aI q u bd be W) : Two w0 aL aI u q be bd W := by
  obtain ⟨st, su, O, P, h1, h2, h3, h4, h5, h6, h7, h8⟩ := h
  exact ⟨su, st, P, O, h2, h1, h4, h3, fun x hp ho => h5 x ho hp, h7, h6, h8⟩
theorem Two.below {w0 : World} {aL aI : Addr} {q u : Gh} {bd be : Nat} {W w' : World} (h : Two w0 aL aI q u bd be W) (hb : Below W.heap.size W w') : Two w0 aL aI q u bd be w' := by
  obtain ⟨st, su, O, P, h1, h2, h3, h4, h5, h6, h7, h8⟩ := h
  exact ⟨st, su, O, P, h1.keep (fun x hx => hb.block x (h1.lt x hx)) hb.size, h2.keep (fun x hx => hb.block x (h2.lt x hx)) hb.size, h3, h4, h5, h6, h7, h8.trans (hb.mono h8.size)⟩
theorem Two.base {w0 : World} {aL aI : Addr} {q u : Gh} {bd be : Nat} {W : World} (h : Two w0 aL aI q u bd be W) : Below w0.heap.size w0 W := by
  obtain ⟨st, su, O, P, h1, h2, h3, h4, h5, h6, h7, h8⟩ := h
  exact h8
/-- A step of the first one. -/
theorem Two.step {w0 : World} {aL aI : Addr} {m : Int} (B : Base w0 aL aI m) {q u : Gh} (hq : q.Ok) {bd be : Nat} {W : World} (h : Two w0 aL aI q u bd be W) (k n : Int) (two : Bool) :
    Calls Tryz.prog 23 #[.pointer (some ⟨bd, 0, none⟩), .agg #[.int .i64 k, .int .i64 n, .bool two]] W fun e w' => e = .returned (.bool true) ∧ Two w0 aL aI q u bd be w' := by
  obtain ⟨st, su, O, P, h1, h2, h3, h4, h5, h6, h7, h8⟩ := h
  refine (step_any B hq h8 h6 h1 h3 k n two).mono ?_
  rintro e w' ⟨rfl, st', O', g1, g2, g3⟩
  exact ⟨rfl, st', su, O', P, g2, h2.keep (g3.other h5 h2.lt) g3.size, g1, h4, g3.apart h5 h2.lt, g3.low h8.size h6, h7, h8.trans (g3.under h8.size h6)⟩

end Go.Proofs.YtljcljipppjnoaaGreatDoor

namespace Go.Proofs.YtljcljipppjnoaaGreatDoor
open Go.RowKit Go.Shelf

/-- The steps of a script, in memory. -/
def OpsAt (p : Option Addr) (ops : List (Int × Int × Bool)) (W : World) : Prop :=
  ops = [] ∨ ∃ g o, p = some ⟨g, o, none⟩ ∧ g < W.heap.size ∧ ∀ i k n t, ops[i]? = some (k, n, t) → W.cell? ⟨g, o + i * 3, none⟩ = some (.int .i64 k) ∧ W.cell? ⟨g, o + i * 3 + 1, none⟩ = some (.int .i64 n) ∧ W.cell? ⟨g, o + i * 3 + 2, none⟩ = some (.bool t)

/-- A source that is none. -/
def noneOf (tx : ByteArray) (cs : List Int) (fa : Int) (wt : Bool) : Gh := ⟨false, tx, cs, fa, wt, .fine ⟨#[]⟩, 0⟩
theorem noneOf_ok (tx : ByteArray) (cs : List Int) (fa : Int) (wt : Bool) (h1 : tx.size ≤ 1048576) (h2 : cs.length ≤ 1048576) : (noneOf tx cs fa wt).Ok := ⟨h1, h2, (fun h => by cases h), fun _ => ⟨rfl, rfl⟩⟩
theorem noneOf_left (tx : ByteArray) (cs : List Int) (fa : Int) (wt : Bool) : evq (noneOf tx cs fa wt) = [] := by
  have e : (outText (noneOf tx cs fa wt).o).data.toList = [] := by
    have : reg ⟨#[]⟩ = [] := by decide
    simp [noneOf, outText, this]
  unfold evq
  rw [e]
  exact events_nil

set_option maxRecDepth 100000 in
set_option maxHeartbeats 4000000 in
theorem pulls_fit (qa qb : Gh) (ha : qa.Ok) (hb : qb.Ok) (hsa : qa.src = true) (hsb : qb.src = true) (ca cb : Option Addr) (pa pb : Nat) (p : Option Addr) (cap : Nat) (ops : List (Int × Int × Bool)) (aL aI : Addr) (m : Int) (W : World)
    (na : NumsAt (.slice ca qa.cs.length pa) qa.cs W) (nb : NumsAt (.slice cb qb.cs.length pb) qb.cs W) (ho : OpsAt p ops W) (hl : ops.length ≤ 1048576) (B0 : Base W aL aI m) :
    Calls Tryz.prog 4 #[.agg #[.string qa.tx, .slice ca qa.cs.length pa, .int .i64 qa.fa, .bool qa.wt], .agg #[.string qb.tx, .slice cb qb.cs.length pb, .int .i64 qb.fa, .bool qb.wt], .slice p ops.length cap] W fun e w' => e = .returned (.bool true) ∧ Below W.heap.size W w' := by
  obtain ⟨w0, hw0⟩ : ∃ w0, (W.alloc (.cells #[.string qa.tx, .slice ca qa.cs.length pa, .int .i64 qa.fa, .bool qa.wt] 33)).alloc (.cells #[.string qb.tx, .slice cb qb.cs.length pb, .int .i64 qb.fa, .bool qb.wt] 33) = w0 := ⟨_, rfl⟩
  have bw : Below W.heap.size W w0 := by rw [← hw0]; exact ((Below.refl _ W).alloc (Nat.le_refl _) _).alloc (by simp) _
  have z0 : w0.heap.size = W.heap.size + 1 + 1 := by rw [← hw0]; simp
  have xa : w0.heap[W.heap.size]? = some (.cells #[.string qa.tx, .slice ca qa.cs.length pa, .int .i64 qa.fa, .bool qa.wt] 33 (0, 0)) := by
    rw [← hw0, Below.heap_alloc _ _ _ (by simp)]
    exact heap_alloc_new W _
  have xb : w0.heap[W.heap.size + 1]? = some (.cells #[.string qb.tx, .slice cb qb.cs.length pb, .int .i64 qb.fa, .bool qb.wt] 33 (0, 0)) := by
    rw [← hw0]
    exact heap_new _ _ (by simp)
  have B : Base w0 aL aI m := B0.to bw
  have BOX : Hid (∀ w, Below w0.heap.size w0 w → (w.cell? ⟨W.heap.size, 0, none⟩ = some (.string qa.tx) ∧ w.cell? ⟨W.heap.size, 1, none⟩ = some (.slice ca qa.cs.length pa) ∧ w.cell? ⟨W.heap.size, 2, none⟩ = some (.int .i64 qa.fa) ∧ w.cell? ⟨W.heap.size, 3, none⟩ = some (.bool qa.wt)) ∧ (w.cell? ⟨W.heap.size + 1, 0, none⟩ = some (.string qb.tx) ∧ w.cell? ⟨W.heap.size + 1, 1, none⟩ = some (.slice cb qb.cs.length pb) ∧ w.cell? ⟨W.heap.size + 1, 2, none⟩ = some (.int .i64 qb.fa) ∧ w.cell? ⟨W.heap.size + 1, 3, none⟩ = some (.bool qb.wt))) := fun w hb => ⟨cells4 ((hb.block _ (by omega)).trans xa), cells4 ((hb.block _ (by omega)).trans xb)⟩
  have hfA := fun W => fit_any qa.tx ca qa.cs.length pa qa.fa qa.wt W
  have hfB := fun W => fit_any qb.tx cb qb.cs.length pb qb.fa qb.wt W
  have sA := ha.small
  have sB := hb.small
  have uA := ha.cuts
  have uB := hb.cuts
  rw [show (decide (qa.tx.size ≤ 1048576) && decide (qa.cs.length ≤ 1048576)) = true by simp [sA, uA]] at hfA
  rw [show (decide (qb.tx.size ≤ 1048576) && decide (qb.cs.length ≤ 1048576)) = true by simp [sB, uB]] at hfB
  have FA : Hid _ := hfA
  have FB : Hid _ := hfB
  obtain ⟨⟨a0, a1, a2, a3⟩, ⟨b0, b1, b2, b3⟩⟩ := BOX.out w0 (Below.refl _ _)
  have NA : ∀ w, Below w0.heap.size w0 w → NumsAt (.slice ca qa.cs.length pa) qa.cs w := fun w hb => na.below (bw.trans (hb.mono bw.size))
  have NB : ∀ w, Below w0.heap.size w0 w → NumsAt (.slice cb qb.cs.length pb) qb.cs w := fun w hb => nb.below (bw.trans (hb.mono bw.size))
  have hqn := noneOf_ok qa.tx qa.cs qa.fa qa.wt ha.small ha.cuts
  have C5 : Hid (∀ w, Below w0.heap.size w0 w → Calls Tryz.prog 18 #[.agg #[.string qa.tx, .slice ca qa.cs.length pa, .int .i64 qa.fa, .bool qa.wt], .bool true] w fun e w' => ∃ bq, e = .returned (.pointer (some ⟨bq, 0, none⟩)) ∧ Hid (∃ O, QAt aL aI (noneOf qa.tx qa.cs qa.fa qa.wt) bq none O w' ∧ (∀ x, O x → w0.heap.size ≤ x) ∧ Below w0.heap.size w0 w')) := fun w hb => by
    refine (qnew_any aL aI (noneOf qa.tx qa.cs qa.fa qa.wt) _ w (NA w hb) ha.cuts).mono ?_
    rintro e w' ⟨bq, O, rfl, h1, h2, h3⟩
    exact ⟨bq, rfl, O, h1, fun x hx => Nat.le_trans hb.size (h2 x hx), hb.trans (h3.mono hb.size)⟩
  have C8 : Hid (∀ w bq, (∃ O, QAt aL aI (noneOf qa.tx qa.cs qa.fa qa.wt) bq none O w ∧ (∀ x, O x → w0.heap.size ≤ x) ∧ Below w0.heap.size w0 w) → Calls Tryz.prog 19 #[.pointer (some ⟨bq, 0, none⟩)] w fun e w' => e = .returned (.tuple #[.agg #[.int .i64 0, .bool false, .int .i64 0, .string ⟨#[]⟩], .bool false]) ∧ Hid (∃ O, QAt aL aI (noneOf qa.tx qa.cs qa.fa qa.wt) bq (some []) O w' ∧ (∀ x, O x → w0.heap.size ≤ x) ∧ Below w0.heap.size w0 w')) := fun w bq ⟨O, h1, h2, h3⟩ => by
    have hc := qnext_any B hqn h3 h2 h1
    have e0 : leftOf (noneOf qa.tx qa.cs qa.fa qa.wt) none = [] := noneOf_left _ _ _ _
    rw [e0] at hc
    refine hc.mono ?_
    rintro e w' ⟨rfl, O', g1, g2⟩
    exact ⟨rfl, O', g1, g2.low h3.size h2, h3.trans (g2.under h3.size h2)⟩
  have C9 : Hid (∀ w bq X, (∃ O, QAt aL aI (noneOf qa.tx qa.cs qa.fa qa.wt) bq (some []) O w ∧ (∀ x, O x → w0.heap.size ≤ x) ∧ Below w0.heap.size w0 w) → X = w.alloc (.cells #[.int .i64 0, .bool false, .int .i64 0, .string ⟨#[]⟩] 39) → Calls Tryz.prog 20 #[.pointer (some ⟨bq, 0, none⟩)] X fun e w' => e = .returned (.tuple #[.agg #[.int .i64 0, .int .i64 0], .int .i64 (0 : Nat)]) ∧ (w'.cell? ⟨w.heap.size, 0, none⟩ = some (.int .i64 0) ∧ w'.cell? ⟨w.heap.size, 1, none⟩ = some (.bool false) ∧ w'.cell? ⟨w.heap.size, 2, none⟩ = some (.int .i64 0) ∧ w'.cell? ⟨w.heap.size, 3, none⟩ = some (.string ⟨#[]⟩)) ∧ w.heap.size < w'.heap.size ∧ Hid (Below w0.heap.size w0 w')) := fun w bq X ⟨O, h1, h2, h3⟩ hX => by
    have hbX : Below w.heap.size w X := by rw [hX]; exact (Below.refl _ w).alloc (Nat.le_refl _) _
    have xX : X.heap[w.heap.size]? = some (.cells #[.int .i64 0, .bool false, .int .i64 0, .string ⟨#[]⟩] 39 (0, 0)) := by rw [hX]; exact heap_alloc_new w _
    have hlX := lt_of_block xX
    have h3X := h3.trans (hbX.mono h3.size)
    refine (qerr_any B hqn h3X h2 (h1.keep (fun x hx => hbX.block x (h1.lt x hx)) hbX.size)).mono ?_
    rintro e w' ⟨rfl, O', g1, g2⟩
    have he := (g2.block w.heap.size hlX (fun hh => by have := h1.lt _ hh; omega)).trans xX
    exact ⟨rfl, cells4 he, lt_of_block he, h3X.trans (g2.under h3X.size h2)⟩
  have CA : Hid (∀ w, Below w0.heap.size w0 w → Calls Tryz.prog 21 #[.agg #[.string qa.tx, .slice ca qa.cs.length pa, .int .i64 qa.fa, .bool qa.wt]] w fun e w' => ∃ bd, e = .returned (.pointer (some ⟨bd, 0, none⟩)) ∧ Hid (∃ O, SAt aL aI qa bd none O w' ∧ (∀ x, O x → w0.heap.size ≤ x) ∧ Below w0.heap.size w0 w')) := fun w hb => by
    refine (side_any aL aI qa ha hsa _ w (NA w hb)).mono ?_
    rintro e w' ⟨bd, O, rfl, h1, h2, h3⟩
    exact ⟨bd, rfl, O, h1, fun x hx => Nat.le_trans hb.size (h2 x hx), hb.trans (h3.mono hb.size)⟩
  have CB : Hid (∀ w bd, (∃ O, SAt aL aI qa bd none O w ∧ (∀ x, O x → w0.heap.size ≤ x) ∧ Below w0.heap.size w0 w) → Calls Tryz.prog 21 #[.agg #[.string qb.tx, .slice cb qb.cs.length pb, .int .i64 qb.fa, .bool qb.wt]] w fun e w' => ∃ be ba bb, e = .returned (.pointer (some ⟨be, 0, none⟩)) ∧ w'.cell? ⟨bd, 0, none⟩ = some (.pointer (some ⟨ba, 0, none⟩)) ∧ w'.cell? ⟨be, 0, none⟩ = some (.pointer (some ⟨bb, 0, none⟩)) ∧ Hid (Calls Tryz.prog 22 #[.pointer (some ⟨ba, 0, none⟩)] w' fun e w2 => e = .returned (.int .i64 0) ∧ w2 = w') ∧ Hid (Calls Tryz.prog 22 #[.pointer (some ⟨bb, 0, none⟩)] w' fun e w2 => e = .returned (.int .i64 0) ∧ w2 = w') ∧ Hid (Two w0 aL aI qa qb bd be w')) := fun w bd ⟨O, h1, h2, h3⟩ => by
    refine (side_any aL aI qb hb hsb _ w (NB w h3)).mono ?_
    rintro e w' ⟨be, P, rfl, g1, g2, g3⟩
    have h1' : SAt aL aI qa bd none O w' := h1.keep (fun x hx => g3.block x (h1.lt x hx)) g3.size
    obtain ⟨ba, va, Oa, s1, s2, _⟩ := id h1'
    obtain ⟨bb, vb, Ob, t1, t2, _⟩ := id g1
    exact ⟨be, ba, bb, rfl, (cells7 s1).1, (cells7 t1).1, qreads_any s2, qreads_any t2, none, none, O, P, h1', g1, evq_len ha, evq_len hb, (fun x ho hp => by have := h1.lt x ho; have := g2 x hp; omega), h2, (fun x hx => Nat.le_trans h3.size (g2 x hx)), h3.trans (g3.mono h3.size)⟩
  have CS : Hid (∀ w bd be k n t, Two w0 aL aI qa qb bd be w → Calls Tryz.prog 23 #[.pointer (some ⟨bd, 0, none⟩), .agg #[.int .i64 k, .int .i64 n, .bool t]] w fun e w' => e = .returned (.bool true) ∧ Hid (Two w0 aL aI qa qb bd be w')) := fun w bd be k n t h => (Two.step B ha h k n t).mono fun e w' h => ⟨h.1, h.2⟩
  have CU : Hid (∀ w bd be k n t, Two w0 aL aI qa qb bd be w → Calls Tryz.prog 23 #[.pointer (some ⟨be, 0, none⟩), .agg #[.int .i64 k, .int .i64 n, .bool t]] w fun e w' => e = .returned (.bool true) ∧ Hid (Two w0 aL aI qa qb bd be w')) := fun w bd be k n t h => (Two.step B hb h.swap k n t).mono fun e w' h => ⟨h.1, Two.swap h.2⟩
  have OPS : Hid (∀ w, Below w0.heap.size w0 w → OpsAt p ops w) := fun w hb => by
    rcases ho with ho | ⟨g, o, h1, h2, h3⟩
    · exact Or.inl ho
    · have hb' := bw.trans (hb.mono bw.size)
      exact Or.inr ⟨g, o, h1, by have := hb'.size; omega, fun i k n t hi => by
        obtain ⟨q1, q2, q3⟩ := h3 i k n t hi
        exact ⟨(hb'.cell (p := ⟨g, o + i * 3, none⟩) h2).trans q1, (hb'.cell (p := ⟨g, o + i * 3 + 1, none⟩) h2).trans q2, (hb'.cell (p := ⟨g, o + i * 3 + 2, none⟩) h2).trans q3⟩⟩
  have BW : Hid (Below W.heap.size W w0) := bw
  have hlo : decide ((1048576 : Int) < (ops.length : Int)) = false := by simp; omega
  clear hfA hfB sA sB uA uB xa xb NA NB hqn na nb ho B B0 bw ha hb
  go_enter Tryz.func4, Tryz.ntmps4
  go_upto_region 2 with (go_at_call 17; refine (FA.out _).mono ?_; rintro e w1 ⟨rfl, k1⟩)
  have K1 : Below w0.heap.size w0 w1 := k1
  clear a0 a1 a2 a3 b0 b1 b2 b3 k1 FA
  obtain ⟨⟨a0, a1, a2, a3⟩, ⟨b0, b1, b2, b3⟩⟩ := BOX.out w1 K1
  have KK : Hid _ := K1
  clear K1
  go_upto_region 3 with (go_at_call 17; refine (FB.out _).mono ?_; rintro e w2 ⟨rfl, k2⟩)
  have K2 : Below w0.heap.size w0 w2 := KK.out.trans (k2.mono KK.out.size)
  clear a0 a1 a2 a3 b0 b1 b2 b3 k2 FB KK
  obtain ⟨⟨a0, a1, a2, a3⟩, ⟨b0, b1, b2, b3⟩⟩ := BOX.out w2 K2
  have KK : Hid _ := K2
  clear K2
  go_upto_region 5 with fail
  go_upto_region 8 with (go_at_call 18; refine (C5.out _ KK.out).mono ?_; rintro e w3 ⟨bq, rfl, HQ⟩)
  clear a0 a1 a2 a3 b0 b1 b2 b3 C5 KK
  go_upto_region 9 with (go_at_call 19; refine (C8.out _ _ HQ.out).mono ?_; rintro e w4 ⟨rfl, HQ4⟩)
  clear C8 HQ
  go_upto_region 10 with (go_at_call 20; refine (C9.out w4 _ _ HQ4.out rfl).mono ?_; rintro e w5 ⟨rfl, ⟨e0, e1, e2, e3⟩, le, HK5⟩)
  go_upto_region 12 with fail
  clear C9 e0 e1 e2 e3 HQ4
  obtain ⟨w6, hw6⟩ : ∃ w6, w5.alloc (.cells #[.int .i64 0, .int .i64 0] 43) = w6 := ⟨_, rfl⟩
  have K6 : Below w0.heap.size w0 w6 := by rw [← hw6]; exact HK5.out.alloc HK5.out.size _
  rw [hw6]
  clear hw6 le HK5
  obtain ⟨⟨a0, a1, a2, a3⟩, ⟨b0, b1, b2, b3⟩⟩ := BOX.out w6 K6
  have KK : Hid _ := K6
  clear K6
  go_upto_region 13 with (go_at_call 21; refine (CA.out _ KK.out).mono ?_; rintro e w7 ⟨bd, rfl, HS⟩)
  clear a0 a1 a2 a3 b0 b1 b2 b3 KK CA
  obtain ⟨_, ⟨b0, b1, b2, b3⟩⟩ := BOX.out w7 (by obtain ⟨O, _, _, h⟩ := HS.out; exact h)
  go_upto_region 14 with (go_at_call 21; refine (CB.out _ _ HS.out).mono ?_; rintro e w8 ⟨be, ba, bb, rfl, d0, d1, RA, RB, HT⟩)
  clear b0 b1 b2 b3 HS CB BOX
  go_upto_region 17 with (go_at_call 22; refine RA.out.mono ?_; rintro e w9 ⟨rfl, rfl⟩)
  go_upto_region 18 with (go_at_call 22; refine RB.out.mono ?_; rintro e w10 ⟨rfl, rfl⟩)
  clear RA RB d0 d1
  go_wp2
  go_loopg [11, 18] ops.length (fun gk _ v wr => ∃ k : Nat, k ≤ ops.length ∧ ops.length ≤ k + gk ∧ v = .int .i64 k ∧ Hid (Two w0 aL aI qa qb bd be wr))
  case atStart => exact ⟨0, Nat.zero_le _, by omega, rfl, HT⟩
  case round =>
    clear HT
    obtain ⟨k, hk, hgk, rfl, HT⟩ := hrel
    by_cases hlt : k < ops.length
    · obtain ⟨⟨kk, nn, tt⟩, hop⟩ : ∃ x, ops[k]? = some x := ⟨ops[k], List.getElem?_eq_getElem hlt⟩
      obtain ⟨g, o, rfl, lg, hcs⟩ : ∃ g o, p = some ⟨g, o, none⟩ ∧ g < wr.heap.size ∧ ∀ i k n t, ops[i]? = some (k, n, t) → wr.cell? ⟨g, o + i * 3, none⟩ = some (.int .i64 k) ∧ wr.cell? ⟨g, o + i * 3 + 1, none⟩ = some (.int .i64 n) ∧ wr.cell? ⟨g, o + i * 3 + 2, none⟩ = some (.bool t) := by
        rcases OPS.out wr HT.out.base with h | h
        · rw [h] at hlt; cases hlt
        · exact h
      obtain ⟨c0, c1, c2⟩ := hcs k kk nn tt hop
      have hlt' : (k : Int) < (ops.length : Int) := by omega
      clear hcs hop OPS
      cases tt with
      | true =>
        go_wp2_with (go_at_call 23; refine (CU.out _ _ _ _ _ _ HT.out).mono ?_; rintro e w11 ⟨rfl, HT2⟩)
        go_roundg (gk - 1)
        case measure => omega
        case rel => exact ⟨k + 1, by omega, by omega, by go_num, HT2⟩
      | false =>
        go_wp2_with (go_at_call 23; refine (CS.out _ _ _ _ _ _ HT.out).mono ?_; rintro e w11 ⟨rfl, HT2⟩)
        go_roundg (gk - 1)
        case measure => omega
        case rel => exact ⟨k + 1, by omega, by omega, by go_num, HT2⟩
    · have hlt' : decide ((k : Int) < (ops.length : Int)) = false := by simp; omega
      clear OPS CU
      go_upto_region 29 with (go_at_call 23; refine (CS.out _ _ _ 2 0 false HT.out).mono ?_; rintro e w11 ⟨rfl, HT2⟩)
      go_wp2_with (go_at_call 23; refine (CS.out _ _ _ 3 0 false HT2.out).mono ?_; rintro e w12 ⟨rfl, HT3⟩)
      go_ret
      exact ⟨rfl, BW.out.trans (HT3.out.base.mono BW.out.size)⟩

set_option maxRecDepth 100000 in
set_option maxHeartbeats 2000000 in
theorem pulls_unfit (ta tb : ByteArray) (ca cb : Option Addr) (la lb pa pb : Nat) (fa fb : Int) (wa wb : Bool) (p : Option Addr) (ln cap : Nat) (W : World) (hn : ¬ ((ta.size ≤ 1048576 ∧ la ≤ 1048576) ∧ (tb.size ≤ 1048576 ∧ lb ≤ 1048576) ∧ ln ≤ 1048576)) :
    Calls Tryz.prog 4 #[.agg #[.string ta, .slice ca la pa, .int .i64 fa, .bool wa], .agg #[.string tb, .slice cb lb pb, .int .i64 fb, .bool wb], .slice p ln cap] W fun e w' => e = .returned (.bool true) ∧ Below W.heap.size W w' := by
  obtain ⟨w0, hw0⟩ : ∃ w0, (W.alloc (.cells #[.string ta, .slice ca la pa, .int .i64 fa, .bool wa] 33)).alloc (.cells #[.string tb, .slice cb lb pb, .int .i64 fb, .bool wb] 33) = w0 := ⟨_, rfl⟩
  have bw : Below W.heap.size W w0 := by rw [← hw0]; exact ((Below.refl _ W).alloc (Nat.le_refl _) _).alloc (by simp) _
  have z0 : w0.heap.size = W.heap.size + 1 + 1 := by rw [← hw0]; simp
  have xa : w0.heap[W.heap.size]? = some (.cells #[.string ta, .slice ca la pa, .int .i64 fa, .bool wa] 33 (0, 0)) := by
    rw [← hw0, Below.heap_alloc _ _ _ (by simp)]
    exact heap_alloc_new W _
  have xb : w0.heap[W.heap.size + 1]? = some (.cells #[.string tb, .slice cb lb pb, .int .i64 fb, .bool wb] 33 (0, 0)) := by
    rw [← hw0]
    exact heap_new _ _ (by simp)
  have BB : Hid (∀ w, Below w0.heap.size w0 w → w.cell? ⟨W.heap.size + 1, 0, none⟩ = some (.string tb) ∧ w.cell? ⟨W.heap.size + 1, 1, none⟩ = some (.slice cb lb pb) ∧ w.cell? ⟨W.heap.size + 1, 2, none⟩ = some (.int .i64 fb) ∧ w.cell? ⟨W.heap.size + 1, 3, none⟩ = some (.bool wb)) := fun w hb => cells4 ((hb.block _ (by omega)).trans xb)
  obtain ⟨a0, a1, a2, a3⟩ := cells4 xa
  have hfA := fun W => fit_any ta ca la pa fa wa W
  have hfB := fun W => fit_any tb cb lb pb fb wb W
  obtain ⟨va, hva⟩ : ∃ va, (decide (ta.size ≤ 1048576) && decide (la ≤ 1048576)) = va := ⟨_, rfl⟩
  obtain ⟨vb, hvb⟩ : ∃ vb, (decide (tb.size ≤ 1048576) && decide (lb ≤ 1048576)) = vb := ⟨_, rfl⟩
  have hall : va = false ∨ vb = false ∨ decide ((1048576 : Int) < (ln : Int)) = true := by
    cases va with
    | false => exact Or.inl rfl
    | true =>
      cases vb with
      | false => exact Or.inr (Or.inl rfl)
      | true =>
        right; right
        simp at hva hvb
        simp
        omega
  rw [hva] at hfA
  rw [hvb] at hfB
  have FA : Hid _ := hfA
  have FB : Hid _ := hfB
  have BW : Hid (Below W.heap.size W w0) := bw
  clear hfA hfB xa xb hva hvb hn bw
  have hdr : decide ((1048576 : Int) < (ln : Int)) = true ∨ decide ((1048576 : Int) < (ln : Int)) = false := by cases decide ((1048576 : Int) < (ln : Int)) <;> simp
  cases va <;> cases vb <;> rcases hdr with hd | hd
  all_goals first
    | (exfalso; simp [hd] at hall; done)
    | (clear hall
       go_enter Tryz.func4, Tryz.ntmps4
       go_upto_region 2 with (go_at_call 17; refine (FA.out _).mono ?_; rintro e w1 ⟨rfl, k1⟩)
       obtain ⟨b0, b1, b2, b3⟩ := BB.out w1 k1
       go_upto_region 3 with (go_at_call 17; refine (FB.out _).mono ?_; rintro e w2 ⟨rfl, k2⟩)
       have K2 : Hid (Below w0.heap.size w0 w2) := Below.trans k1 (k2.mono k1.size)
       clear a0 a1 a2 a3 b0 b1 b2 b3 k2 k1 FB FA
       go_wp2
       go_ret
       exact ⟨rfl, BW.out.trans (K2.out.mono BW.out.size)⟩)

end Go.Proofs.YtljcljipppjnoaaGreatDoor
