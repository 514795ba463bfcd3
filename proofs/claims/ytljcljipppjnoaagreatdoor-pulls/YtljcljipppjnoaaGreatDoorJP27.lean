import Derived.Test.YtljcljipppjnoaaGreatDoorJP26
import Derived.Laws.ResultCell
namespace Go.Proofs.YtljcljipppjnoaaGreatDoor
open Go.RowKit Go.Shelf

/-- Of the box only the two fields turn. -/
def OB (b o : Nat) (W w' : World) : Prop := ∀ c T, W.heap[b]? = some (.cells c T (0, 0)) → ∃ c', w'.heap[b]? = some (.cells c' T (0, 0)) ∧ c'.size = c.size ∧ ∀ i, i ≠ o → i ≠ o + 1 → c'[i]? = c[i]?
theorem OB.same {b o : Nat} {W w' : World} (h : w'.heap[b]? = W.heap[b]?) : OB b o W w' := fun c _ hc => ⟨c, h.trans hc, rfl, fun _ _ _ => rfl⟩
theorem OB.trans {b o : Nat} {A B C : World} (h : OB b o A B) (k : OB b o B C) : OB b o A C := fun c T hc => by
  obtain ⟨c1, h1, h2, h3⟩ := h c T hc
  obtain ⟨c2, k1, k2, k3⟩ := k c1 T h1
  exact ⟨c2, k1, k2.trans h2, fun i a b => (k3 i a b).trans (h3 i a b)⟩
theorem OB.setL {b o : Nat} (W : World) (v : Value) : OB b o W (W.setCell ⟨b, o, none⟩ v) := fun _ _ hc => ⟨_, set_row hc, by simp, fun i h1 _ => by rw [Array.getElem?_setIfInBounds_ne (fun h => h1 h.symm)]⟩
theorem OB.setK {b o : Nat} (W : World) (v : Value) : OB b o W (W.setCell ⟨b, o + 1, none⟩ v) := fun _ _ hc => ⟨_, set_row hc, by simp, fun i _ h1 => by rw [Array.getElem?_setIfInBounds_ne (fun h => h1 h.symm)]⟩

theorem EvAt.ne {b o k : Nat} {v : Value} {bm : Nat} {es : Array MapEntry} {clock : Nat} {c : Array Value} {T : TypeId} {W : World} (h : EvAt b o k v bm es clock c T W) : b ≠ bm := fun e => by
  obtain ⟨h1, _, _, _, h5⟩ := h
  rw [e, h5] at h1
  cases h1
theorem EvAt.lt {b o k : Nat} {v : Value} {bm : Nat} {es : Array MapEntry} {clock : Nat} {c : Array Value} {T : TypeId} {W : World} (h : EvAt b o k v bm es clock c T W) : b < W.heap.size ∧ bm < W.heap.size := ⟨lt_of_block h.1, (Array.getElem?_eq_some_iff.1 h.2.2.2.2).1⟩
theorem EvAt.setL {b o k : Nat} {v : Value} {bm : Nat} {es : Array MapEntry} {clock : Nat} {c : Array Value} {T : TypeId} {W : World} (h : EvAt b o k v bm es clock c T W) (v' : Value) : EvAt b o k v' bm es clock (c.setIfInBounds o v') T (W.setCell ⟨b, o, none⟩ v') := by
  have hne := h.ne
  obtain ⟨h1, h2, h3, h4, h5⟩ := h
  have ho : o < c.size := (Array.getElem?_eq_some_iff.1 h2).1
  exact ⟨set_row h1, Array.getElem?_setIfInBounds_self_of_lt ho, by rw [Array.getElem?_setIfInBounds_ne (by omega)]; exact h3, by rw [Array.getElem?_setIfInBounds_ne (by omega)]; exact h4, by rw [Below.heap_setCell _ _ _ _ (fun e => hne e.symm)]; exact h5⟩
theorem EvAt.setK {b o k : Nat} {v : Value} {bm : Nat} {es : Array MapEntry} {clock : Nat} {c : Array Value} {T : TypeId} {W : World} (h : EvAt b o k v bm es clock c T W) (k' : Nat) : EvAt b o k' v bm es clock (c.setIfInBounds (o + 1) (.int .i64 k')) T (W.setCell ⟨b, o + 1, none⟩ (.int .i64 k')) := by
  have hne := h.ne
  obtain ⟨h1, h2, h3, h4, h5⟩ := h
  have ho : o + 1 < c.size := (Array.getElem?_eq_some_iff.1 h3).1
  exact ⟨set_row h1, by rw [Array.getElem?_setIfInBounds_ne (by omega)]; exact h2, Array.getElem?_setIfInBounds_self_of_lt ho, by rw [Array.getElem?_setIfInBounds_ne (by omega)]; exact h4, by rw [Below.heap_setCell _ _ _ _ (fun e => hne e.symm)]; exact h5⟩
theorem EvAt.same {b o k : Nat} {v : Value} {bm : Nat} {es : Array MapEntry} {clock : Nat} {c : Array Value} {T : TypeId} {W w' : World} (h : EvAt b o k v bm es clock c T W) (h1 : w'.heap[b]? = W.heap[b]?) (h2 : w'.heap[bm]? = W.heap[bm]?) : EvAt b o k v bm es clock c T w' := ⟨h1.trans h.1, h.2.1, h.2.2.1, h.2.2.2.1, h2.trans h.2.2.2.2⟩

/-- What four stores into a box leave. -/
theorem four_set {w : World} {b : Nat} {x y z u x' y' z' u' : Value} {T : TypeId} (h : w.heap[b]? = some (.cells #[x, y, z, u] T (0, 0))) :
    ((((w.setCell ⟨b, 0, none⟩ x').setCell ⟨b, 1, none⟩ y').setCell ⟨b, 2, none⟩ z').setCell ⟨b, 3, none⟩ u').heap[b]? = some (.cells #[x', y', z', u'] T (0, 0)) ∧ (∀ c, c ≠ b → ((((w.setCell ⟨b, 0, none⟩ x').setCell ⟨b, 1, none⟩ y').setCell ⟨b, 2, none⟩ z').setCell ⟨b, 3, none⟩ u').heap[c]? = w.heap[c]?) ∧ ((((w.setCell ⟨b, 0, none⟩ x').setCell ⟨b, 1, none⟩ y').setCell ⟨b, 2, none⟩ z').setCell ⟨b, 3, none⟩ u').heap.size = w.heap.size := by
  refine ⟨?_, ?_, by simp⟩
  · have h1 : (w.setCell ⟨b, 0, none⟩ x').heap[b]? = some (.cells #[x', y, z, u] T (0, 0)) := set_row h
    have h2 : ((w.setCell ⟨b, 0, none⟩ x').setCell ⟨b, 1, none⟩ y').heap[b]? = some (.cells #[x', y', z, u] T (0, 0)) := set_row h1
    have h3 : (((w.setCell ⟨b, 0, none⟩ x').setCell ⟨b, 1, none⟩ y').setCell ⟨b, 2, none⟩ z').heap[b]? = some (.cells #[x', y', z', u] T (0, 0)) := set_row h2
    exact set_row h3
  · intro c hc
    rw [Below.heap_setCell _ _ _ _ hc, Below.heap_setCell _ _ _ _ hc, Below.heap_setCell _ _ _ _ hc, Below.heap_setCell _ _ _ _ hc]
theorem cells4 {w : World} {b : Nat} {x y z u : Value} {T : TypeId} (h : w.heap[b]? = some (.cells #[x, y, z, u] T (0, 0))) : w.cell? ⟨b, 0, none⟩ = some x ∧ w.cell? ⟨b, 1, none⟩ = some y ∧ w.cell? ⟨b, 2, none⟩ = some z ∧ w.cell? ⟨b, 3, none⟩ = some u := by
  have c1 := cell_of_row w b 0 _ _ _ h
  have c2 := cell_of_row w b 1 _ _ _ h
  have c3 := cell_of_row w b 2 _ _ _ h
  have c4 := cell_of_row w b 3 _ _ _ h
  simp at c1 c2 c3 c4
  exact ⟨c1, c2, c3, c4⟩

/-- What a pull comes to. -/
def NextOk (b o : Nat) (S0 : List Stp) (S : List Stp) (k : Nat) (W : World) (e : Ending) (w' : World) : Prop :=
  ∃ (ev : Ev) (ok : Bool) (S' : List Stp) (k' : Nat), e = .returned (.tuple #[evV ev, .bool ok]) ∧ EvS b o S0 S' k' w' ∧ Kv (EvOwn b o) W w' ∧ OB b o W w' ∧ ((ok = true ∧ remS S k = ev :: remS S' k') ∨ (ok = false ∧ ev = ⟨0, false, 0, []⟩ ∧ remS S k = [] ∧ remS S' k' = []))

/-- Where a pull stands ahead of its answer. -/
structure PullAt (b o : Nat) (S0 : List Stp) (W : World) (S1 : List Stp) (k1 : Nat) (wr : World) : Prop where
  st : EvS b o S0 S1 k1 wr
  kv : Kv (EvOwn b o) W wr
  ob : OB b o W wr
  off : ∀ x, EvOwn b o wr x → EvOwn b o W x ∨ W.heap.size < x
  res : wr.heap[W.heap.size]? = some (.cells #[.int .i64 0, .bool false, .int .i64 0, .string ⟨#[]⟩] 92 (0, 0))

/-- The answer is laid down. -/
theorem PullAt.answer {b o : Nat} {S0 S : List Stp} {k : Nat} {W wr : World} {S1 : List Stp} {k1 : Nat} (h0 : EvS b o S0 S k W) (h : PullAt b o S0 W S1 k1 wr) (x y z u : Value) :
    let X := (((wr.setCell ⟨W.heap.size, 0, none⟩ x).setCell ⟨W.heap.size, 1, none⟩ y).setCell ⟨W.heap.size, 2, none⟩ z).setCell ⟨W.heap.size, 3, none⟩ u
    EvS b o S0 S1 k1 X ∧ Kv (EvOwn b o) W X ∧ OB b o W X ∧ X.cell? ⟨W.heap.size, 0, none⟩ = some x ∧ X.cell? ⟨W.heap.size, 1, none⟩ = some y ∧ X.cell? ⟨W.heap.size, 2, none⟩ = some z ∧ X.cell? ⟨W.heap.size, 3, none⟩ = some u := by
  intro X
  obtain ⟨q1, q2, q3⟩ := four_set (x' := x) (y' := y) (z' := z) (u' := u) h.res
  have hno : ¬ EvOwn b o wr W.heap.size := fun ho => by
    rcases h.off _ ho with h1 | h1
    · have := h0.lt h1
      omega
    · omega
  have hkeep : ∀ c, EvOwn b o wr c → X.heap[c]? = wr.heap[c]? := fun c hc => q2 c (fun e => hno (e ▸ hc))
  obtain ⟨s1, s2⟩ := h.st.keep hkeep
  have hkv : Kv (EvOwn b o) W X := ⟨h.kv.os, h.kv.tape, h.kv.output, by rw [q3]; exact h.kv.size, fun i hi ho => (q2 i (by omega)).trans (h.kv.block i hi ho), fun i hi ho => h.kv.own i hi (s2 i ho)⟩
  have hb : b ≠ W.heap.size := fun e => hno (by rw [← e]; exact Or.inl rfl)
  exact ⟨s1, hkv, h.ob.trans (OB.same (q2 b hb)), cells4 q1⟩

/-- A box more. -/
theorem ans_alloc {b o : Nat} {S0 S : List Stp} {k : Nat} {W Y : World} {S1 : List Stp} {k1 : Nat} (h0 : EvS b o S0 S k W) (a1 : EvS b o S0 S1 k1 Y) (a2 : Kv (EvOwn b o) W Y) (a3 : OB b o W Y) (hlY : W.heap.size < Y.heap.size) (ob : Obj) :
    EvS b o S0 S1 k1 (Y.alloc ob) ∧ Kv (EvOwn b o) W (Y.alloc ob) ∧ OB b o W (Y.alloc ob) ∧ ∀ i, (Y.alloc ob).cell? ⟨W.heap.size, i, none⟩ = Y.cell? ⟨W.heap.size, i, none⟩ := by
  have hB : Below Y.heap.size Y (Y.alloc ob) := (Below.refl _ Y).alloc (Nat.le_refl _) ob
  obtain ⟨s1, s2⟩ := a1.keep (w' := Y.alloc ob) fun c hc => hB.block c (a1.lt hc)
  have z1 := a2.size
  exact ⟨s1, ⟨hB.os.trans a2.os, hB.tape.trans a2.tape, hB.output.trans a2.output, Nat.le_trans a2.size hB.size, fun i hi ho => (hB.block i (by omega)).trans (a2.block i hi ho), fun i hi ho => a2.own i hi (s2 i ho)⟩, a3.trans (OB.same (hB.block b (by have := h0.lt (x := b) (Or.inl rfl); omega))), fun i => hB.cell (p := ⟨W.heap.size, i, none⟩) hlY⟩

/-- On the way. -/
theorem PullAt.go {b o : Nat} {S0 S S1 S' : List Stp} {k k1 k' : Nat} {W wr w' : World} {v v' : Value} {bm : Nat} {es es' : Array MapEntry} {clock clock' : Nat} {c c' : Array Value} {T T' : TypeId} (h0 : EvS b o S0 S k W) (h : PullAt b o S0 W S1 k1 wr) (ha : EvAt b o k1 v bm es clock c T wr) (ha' : EvAt b o k' v' bm es' clock' c' T' w') (hst : EvS b o S0 S' k' w')
    (hv : ∀ x, v'.ownBlock = some x → v.ownBlock = some x ∨ wr.heap.size ≤ x) (hes : ∀ e ∈ es'.toList, e ∈ es.toList ∨ ∀ g, e.val.ownBlock = some g → wr.heap.size ≤ g) (hfr : ∀ i, i < wr.heap.size → i ≠ b → i ≠ bm → w'.heap[i]? = wr.heap[i]?) (hz : wr.heap.size ≤ w'.heap.size) (h1 : w'.os = wr.os) (h2 : w'.tape = wr.tape) (h3 : w'.output = wr.output) (hob : OB b o wr w') : PullAt b o S0 W S' k' w' := by
  have kv := ev_kv ha ha' hv hes hfr hz h1 h2 h3
  have hlt := lt_of_block h.res
  have hbm : EvOwn b o wr bm := Or.inr ⟨c, T, ha.1, Or.inr ⟨bm, ha.2.2.2.1, Or.inl rfl⟩⟩
  refine ⟨hst, h.kv.trans kv, h.ob.trans hob, fun x hx => ?_, ?_⟩
  · rcases Nat.lt_or_ge x wr.heap.size with hl | hl
    · exact h.off x (kv.own x hl hx)
    · exact Or.inr (by omega)
  · rw [hfr W.heap.size hlt (fun e => by have := h0.lt (x := b) (Or.inl rfl); omega) (fun e => ?_)]
    · exact h.res
    · rcases h.off bm hbm with h4 | h4
      · have := h0.lt h4
        omega
      · omega

theorem PullAt.below {b o : Nat} {S0 S S1 : List Stp} {k k1 : Nat} {W wr w' : World} (h0 : EvS b o S0 S k W) (h : PullAt b o S0 W S1 k1 wr) (hb : Below wr.heap.size wr w') : PullAt b o S0 W S1 k1 w' := by
  obtain ⟨v, bm, es, clock, c, T, ha, _⟩ := h.st.box
  obtain ⟨s1, _⟩ := h.st.keep (w' := w') fun x hx => hb.block x (h.st.lt hx)
  exact PullAt.go h0 h ha (ha.same (hb.block b ha.lt.1) (hb.block bm ha.lt.2)) s1 (fun _ hx => Or.inl hx) (fun _ he => Or.inl he) (fun i hi _ _ => hb.block i hi) hb.size hb.os hb.tape hb.output (OB.same (hb.block b ha.lt.1))
/-- The first step is done with. -/
theorem PullAt.pop {b o : Nat} {S0 S r : List Stp} {k k1 : Nat} {W wr : World} {s : Stp} {g og cap bm : Nat} {es : Array MapEntry} {clock : Nat} {c : Array Value} {T : TypeId} (h0 : EvS b o S0 S k W) (h : PullAt b o S0 W (s :: r) k1 wr) (ha : EvAt b o k1 (.slice (some ⟨g, og, none⟩) (r.length + 1) cap) bm es clock c T wr) (hT : T ≠ 166 ∧ T ≠ 92) (hm : MapOk es S0 wr) (v' : Value) (hv' : StpV v' r wr) (hov : ∀ x, v'.ownBlock = some x → x = g) :
    PullAt b o S0 W r 0 ((wr.setCell ⟨b, o, none⟩ v').setCell ⟨b, o + 1, none⟩ (.int .i64 (0 : Nat))) := by
  have ha' := (ha.setL v').setK 0
  have hfr : ∀ i, i ≠ b → ((wr.setCell ⟨b, o, none⟩ v').setCell ⟨b, o + 1, none⟩ (.int .i64 (0 : Nat))).heap[i]? = wr.heap[i]? := fun i hne => (Below.heap_setCell _ _ _ _ hne).trans (Below.heap_setCell _ _ _ _ hne)
  have hst : EvS b o S0 r 0 ((wr.setCell ⟨b, o, none⟩ v').setCell ⟨b, o + 1, none⟩ (.int .i64 (0 : Nat))) := by
    refine ⟨suf_tail h.st.suf, h.st.sp, h.st.txt, h.st.small, ⟨fun _ _ _ => rfl, fun _ => rfl, fun _ _ _ _ _ => Nat.zero_le _⟩, _, _, _, _, _, _, ha', hT, hv'.keep fun x hx => ?_, hm.keep fun e' he' x hx => ?_⟩
    · obtain ⟨cur', hc'⟩ := hv'.typ hx
      exact hfr x (fun e => by
        rw [e, ha.1] at hc'
        injection hc' with hc'
        injection hc' with _ hc' _
        exact hT.1 hc')
    · obtain ⟨t', x', y', _, _, h3⟩ := hm e' he'
      obtain ⟨cur', hc'⟩ := h3.typ hx
      exact hfr x (fun e => by
        rw [e, ha.1] at hc'
        injection hc' with hc'
        injection hc' with _ hc' _
        exact hT.2 hc')
  exact PullAt.go h0 h ha ha' hst (fun x hx => Or.inl (by rw [hov x hx]; rfl)) (fun e' he' => Or.inl he') (fun i _ hne _ => hfr i hne) (by simp) rfl rfl rfl ((OB.setL _ _).trans (OB.setK _ _))
/-- The like, where nothing of it was told. -/
theorem PullAt.pop0 {b o : Nat} {S0 S r : List Stp} {k : Nat} {W wr : World} {e : Ev} {g og cap bm : Nat} {es : Array MapEntry} {clock : Nat} {c : Array Value} {T : TypeId} (h0 : EvS b o S0 S k W) (h : PullAt b o S0 W (.ev e :: r) 0 wr) (ha : EvAt b o 0 (.slice (some ⟨g, og, none⟩) (r.length + 1) cap) bm es clock c T wr) (hT : T ≠ 166 ∧ T ≠ 92) (hm : MapOk es S0 wr) (v' : Value) (hv' : StpV v' r wr) (hov : ∀ x, v'.ownBlock = some x → x = g) :
    PullAt b o S0 W r 0 (wr.setCell ⟨b, o, none⟩ v') := by
  have ha' := ha.setL v'
  have hfr : ∀ i, i ≠ b → (wr.setCell ⟨b, o, none⟩ v').heap[i]? = wr.heap[i]? := fun i hne => Below.heap_setCell _ _ _ _ hne
  have hst : EvS b o S0 r 0 (wr.setCell ⟨b, o, none⟩ v') := by
    refine ⟨suf_tail h.st.suf, h.st.sp, h.st.txt, h.st.small, ⟨fun _ _ _ => rfl, fun _ => rfl, fun _ _ _ _ _ => Nat.zero_le _⟩, _, _, _, _, _, _, ha', hT, hv'.keep fun x hx => ?_, hm.keep fun e' he' x hx => ?_⟩
    · obtain ⟨cur', hc'⟩ := hv'.typ hx
      exact hfr x (fun e => by
        rw [e, ha.1] at hc'
        injection hc' with hc'
        injection hc' with _ hc' _
        exact hT.1 hc')
    · obtain ⟨t', x', y', _, _, h3⟩ := hm e' he'
      obtain ⟨cur', hc'⟩ := h3.typ hx
      exact hfr x (fun e => by
        rw [e, ha.1] at hc'
        injection hc' with hc'
        injection hc' with _ hc' _
        exact hT.2 hc')
  exact PullAt.go h0 h ha ha' hst (fun x hx => Or.inl (by rw [hov x hx]; rfl)) (fun e' he' => Or.inl he') (fun i _ hne _ => hfr i hne) (by simp) rfl rfl rfl (OB.setL _ _)
/-- One event more of the first step is told. -/
theorem PullAt.tell {b o : Nat} {S0 S r : List Stp} {k k1 : Nat} {W wr : World} {t : List UInt8} {x y : Nat} (h0 : EvS b o S0 S k W) (h : PullAt b o S0 W (.leaf t x y :: r) k1 wr) (hk : k1 < (inX t).length) :
    PullAt b o S0 W (.leaf t x y :: r) (k1 + 1) (wr.setCell ⟨b, o + 1, none⟩ (.int .i64 ((k1 + 1 : Nat) : Int))) := by
  obtain ⟨v, bm, es, clock, c, T, ha, hT, hv, hm⟩ := h.st.box
  have ha' := ha.setK (k1 + 1)
  have hfr : ∀ i, i ≠ b → (wr.setCell ⟨b, o + 1, none⟩ (.int .i64 ((k1 + 1 : Nat) : Int))).heap[i]? = wr.heap[i]? := fun i hne => Below.heap_setCell _ _ _ _ hne
  have hst : EvS b o S0 (.leaf t x y :: r) (k1 + 1) (wr.setCell ⟨b, o + 1, none⟩ (.int .i64 ((k1 + 1 : Nat) : Int))) := by
    refine ⟨h.st.suf, h.st.sp, h.st.txt, h.st.small, ⟨fun _ _ he => (by cases he), fun he => (by cases he), fun t' x' y' r' he => (by cases he; exact hk)⟩, _, _, _, _, _, _, ha', hT, hv.keep fun z hz => ?_, hm.keep fun e' he' z hz => ?_⟩
    · obtain ⟨cur', hc'⟩ := hv.typ hz
      exact hfr z (fun e => by
        rw [e, ha.1] at hc'
        injection hc' with hc'
        injection hc' with _ hc' _
        exact hT.1 hc')
    · obtain ⟨t', x', y', _, _, h3⟩ := hm e' he'
      obtain ⟨cur', hc'⟩ := h3.typ hz
      exact hfr z (fun e => by
        rw [e, ha.1] at hc'
        injection hc' with hc'
        injection hc' with _ hc' _
        exact hT.2 hc')
  exact PullAt.go h0 h ha ha' hst (fun z hz => Or.inl hz) (fun e' he' => Or.inl he') (fun i _ hne _ => hfr i hne) (by simp) rfl rfl rfl (OB.setK _ _)

end Go.Proofs.YtljcljipppjnoaaGreatDoor
