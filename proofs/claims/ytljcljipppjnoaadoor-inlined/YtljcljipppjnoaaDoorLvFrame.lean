import Derived.Test.YtljcljipppjnoaaDoorDevListed
import Derived.Test.YtljcljipppjnoaaDoorBldL
import Derived.Test.YtljcljipppjnoaaDoorLvWords
namespace Go.Proofs.YtljcljipppjnoaaDoor
open Go.RowKit Go.Shelf

/-- A text as events. -/
def textS (p : List UInt8) : List Ev := if p = [] then [] else [⟨8, false, 0, p⟩]
/-- No text stands last. -/
def lastOk (o : List Ev) : Prop := ∀ e, o.getLast? = some e → e.kind ≠ 8
theorem last_nil : lastOk [] := fun e h => by cases h
theorem last_snoc (o : List Ev) (e : Ev) (h : e.kind ≠ 8) : lastOk (o ++ [e]) := fun x hx => by
  simp at hx
  subst hx
  exact h
theorem text_add (o : List Ev) (p t : List UInt8) (h : lastOk o) (ht : t ≠ []) : addS (o ++ textS p) t = o ++ textS (p ++ t) := by
  by_cases hp : p = []
  · subst hp
    rw [add_behind o (textS []) t (Or.inr h)]
    simp [textS, ht, add_nil]
  · rw [add_behind o (textS p) t (Or.inl (by simp [textS, hp]))]
    simp [textS, hp]
    exact (add_last [] ⟨8, false, 0, p⟩ t).trans (by simp)

/-- Where the things of the teller lie that joins texts: the list, the builder, the end, what is done with each event. -/
structure Tl where
  kd : Nat
  b0 : Nat
  bT : Nat
  bE : Nat
  bD : Nat

/-- What stays as it was: all but the builder, rows of bytes behind it, and what is the list's own. -/
structure Kl (q : Tl) (W w' : World) : Prop where
  os : w'.os = W.os
  tape : w'.tape = W.tape
  output : w'.output = W.output
  size : W.heap.size ≤ w'.heap.size
  block : ∀ b, b < W.heap.size → (b < q.bT ∨ (b ≠ q.bT ∧ ¬ Row8 W b)) → ¬ Own q.b0 W b → w'.heap[b]? = W.heap[b]?
  own : ∀ b, b < W.heap.size → Own q.b0 w' b → Own q.b0 W b
theorem Kl.refl (q : Tl) (W : World) : Kl q W W := ⟨rfl, rfl, rfl, Nat.le_refl _, fun _ _ _ _ => rfl, fun _ _ h => h⟩
theorem Kl.trans {q : Tl} {a b c : World} (h : Kl q a b) (k : Kl q b c) : Kl q a c :=
  ⟨k.os.trans h.os, k.tape.trans h.tape, k.output.trans h.output, Nat.le_trans h.size k.size,
    fun i hi hc ho => by
      have e := h.block i hi hc ho
      have hc' : i < q.bT ∨ (i ≠ q.bT ∧ ¬ Row8 b i) := hc.imp id fun x => ⟨x.1, fun ⟨c, fz, hh⟩ => x.2 ⟨c, fz, by rw [← e]; exact hh⟩⟩
      exact (k.block i (Nat.lt_of_lt_of_le hi h.size) hc' (fun ho' => ho (h.own i hi ho'))).trans e,
    fun i hi ho => h.own i hi (k.own i (Nat.lt_of_lt_of_le hi h.size) ho)⟩
theorem Kl.of_kp {q : Tl} {W w' : World} (h : Kp q.b0 none W.heap.size W w') : Kl q W w' :=
  ⟨h.os, h.tape, h.output, h.size, fun b hb _ ho => h.block b hb (by simp) ho, fun b hb ho => h.own b hb ho⟩
theorem Kl.below {q : Tl} {W w' : World} (h : Below W.heap.size W w') (h0 : q.b0 < W.heap.size) : Kl q W w' := Kl.of_kp (Kp.below h h0)
theorem Kl.bld {q : Tl} {W w' : World} (hB : Below q.bT W w') (hO : Lib.OthersKept 5 (some q.bT) W w') (h0 : q.b0 < q.bT) : Kl q W w' :=
  ⟨hB.os, hB.tape, hB.output, hB.size,
    fun b hb hc _ => by
      rcases hc with hc | ⟨h1, h2⟩
      · exact hB.block b hc
      · have e : W.heap[b]? = some W.heap[b] := Array.getElem?_eq_getElem hb
        rw [e]
        exact hO b _ e (by simpa using h1) (fun c fz h => h2 ⟨c, fz, by rw [e, h]⟩),
    fun b _ ho => (Own.same (hB.block q.b0 h0) b).1 ho⟩

theorem HasL.kp {B b b0 : Nat} {p : List UInt8} {acc : List Ev} {W w' : World} (h : HasL B b p W) (hT : Told b0 acc W) (hK : Kp b0 none W.heap.size W w') : HasL B b p w' := by
  obtain ⟨_, x, v, hb, _⟩ := h.at
  refine h.keep (hK.block b h.lt (by simp) (hT.off hb (by decide) (by decide))) fun g hg => ?_
  obtain ⟨c, fz, hg⟩ := hg
  exact hK.block g (Array.getElem?_eq_some_iff.1 hg).1 (by simp) (hT.off hg (by decide) (by decide))
theorem Told.bld {b0 bT B : Nat} {p : List UInt8} {acc : List Ev} {W w' : World} (h : Told b0 acc W) (hH : HasL B bT p W) (hO : Lib.OthersKept 5 (some bT) W w') : Told b0 acc w' :=
  h.keep fun b ho => by
    obtain ⟨c, T, fz, hh, hT⟩ := h.own_type ho
    rw [hh]
    exact oth_cell hH hO hh (by rcases hT with rfl | rfl <;> decide) (by rcases hT with rfl | rfl <;> decide)

/-- What has been told to the teller that joins texts. -/
structure Tell (q : Tl) (acc : List Ev) (W : World) : Prop where
  st : ∃ p o, acc = o ++ textS p ∧ lastOk o ∧ Told q.b0 o W ∧ HasL q.bT q.bT p W
  lt : q.b0 < q.bT
  e : W.heap[q.bE]? = some (.cells #[.func (.func 55) #[] #[.pointer (some ⟨q.bT, 0, none⟩), .pointer (some ⟨q.bD, 0, none⟩)]] 1 (0, 0))
  d : W.heap[q.bD]? = some (.cells #[doV q.kd q.b0] 111 (0, 0))
  dc : DoC q.kd
theorem Tell.b0lt {q : Tl} {acc : List Ev} {W : World} (h : Tell q acc W) : q.b0 < W.heap.size := by
  obtain ⟨p, o, _, _, hT, _⟩ := h.st
  exact hT.lt
theorem Tell.below {q : Tl} {acc : List Ev} {W w' : World} (h : Tell q acc W) (hb : Below W.heap.size W w') : Tell q acc w' := by
  obtain ⟨p, o, h1, h2, h3, h4⟩ := h.st
  exact ⟨⟨p, o, h1, h2, h3.below hb, h4.below hb⟩, h.lt, (hb.block _ (lt_of_block h.e)).trans h.e, (hb.block _ (lt_of_block h.d)).trans h.d, h.dc⟩
/-- What another kind of block holds stays while something is told. -/
theorem Tell.kept {q : Tl} {acc : List Ev} {W w' : World} (h : Tell q acc W) (hK : Kl q W w') {b : Nat} {c : Array Value} {T : TypeId} {fz : Nat × Nat} (hb : W.heap[b]? = some (.cells c T fz)) (h1 : T ≠ 5) (h2 : T ≠ 87) (h4 : ¬ Own q.b0 W b) : w'.heap[b]? = some (.cells c T fz) := by
  obtain ⟨p, o, _, _, hT, hH⟩ := h.st
  obtain ⟨_, x, v, hbT, _⟩ := hH.at
  rw [hK.block b (Array.getElem?_eq_some_iff.1 hb).1 (Or.inr ⟨fun h => ?_, fun ⟨c', fz', h⟩ => ?_⟩) h4]
  · exact hb
  · subst h
    rw [hb] at hbT
    injection hbT with hbT
    injection hbT with _ hbT _
    exact h2 hbT
  · rw [hb] at h
    injection h with h
    injection h with _ h _
    exact h1 h
theorem Tell.off {q : Tl} {acc : List Ev} {W : World} (h : Tell q acc W) {b : Nat} {c : Array Value} {T : TypeId} {fz : Nat × Nat} (hb : W.heap[b]? = some (.cells c T fz)) (h1 : T ≠ 52) (h2 : T ≠ 76) : ¬ Own q.b0 W b := by
  obtain ⟨p, o, _, _, hT, _⟩ := h.st
  exact hT.off hb h1 h2
/-- A block that came later is not the list's own. -/
theorem Tell.new {q : Tl} {acc : List Ev} {W w' : World} (h : Tell q acc W) (hb : Below W.heap.size W w') {b : Nat} (hl : W.heap.size ≤ b) : ¬ Own q.b0 w' b := by
  obtain ⟨p, o, _, _, hT, _⟩ := h.st
  exact own_new hT (hb.block q.b0 hT.lt) hl

end Go.Proofs.YtljcljipppjnoaaDoor
