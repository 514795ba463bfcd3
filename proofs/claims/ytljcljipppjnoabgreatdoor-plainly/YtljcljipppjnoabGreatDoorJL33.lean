import Derived.Test.YtljcljipppjnoabGreatDoorJL03
import Derived.Test.YtljcljipppjnoabGreatDoorJL06
import Derived.Test.YtljcljipppjnoabGreatDoorJL21
import Derived.Test.YtljcljipppjnoabGreatDoorJL29
import Derived.Test.YtljcljipppjnoabGreatDoorJL31
import Derived.Test.YtljcljipppjnoabGreatDoorJL32
namespace Go.Proofs.YtljcljipppjnoabGreatDoor
open Go.RowKit Go.Shelf
structure Gh where
  src : Bool
  tx : ByteArray
  cs : List Int
  fa : Int
  wt : Bool
  o : Out
  n : Nat
structure Gh.Ok (q : Gh) : Prop where
  small : q.tx.size ≤ 1048576
  cuts : q.cs.length ≤ 1048576
  gat : q.src = true → gat q.fa q.wt (q.cs.length + 2) q.tx q.cs 0 ByteArray.empty 0 = some (q.o, q.n)
  none : q.src = false → q.o = .fine ⟨#[]⟩ ∧ q.n = 0
def srcV (q : Gh) (bs : Nat) : Value := if q.src then .iface 34 (.pointer (some ⟨bs, 0, none⟩)) else .nilIface
def evq (q : Gh) : List Ev := eventsS (outText q.o).data.toList
structure Base (w0 : World) (aL aI : Addr) (m : Int) : Prop where
  glob : Glob w0 aL aI
  max : w0.cell? ⟨7, 0, none⟩ = some (.int .i64 m)
theorem Base.lt {w0 : World} {aL aI : Addr} {m : Int} (h : Base w0 aL aI m) : 7 < w0.heap.size ∧ 1 < w0.heap.size ∧ 2 < w0.heap.size := ⟨lt_cell h.max, lt_cell h.glob.long, lt_cell h.glob.idle⟩
theorem Base.to {w0 W : World} {aL aI : Addr} {m : Int} (h : Base w0 aL aI m) (hb : Below w0.heap.size w0 W) : Base W aL aI m := ⟨h.glob.below hb, (hb.cell (p := ⟨7, 0, none⟩) h.lt.1).trans h.max⟩
structure PaFresh (q : Gh) (bp bs : Nat) (O : Nat → Prop) (W : World) : Prop where
  box : W.heap[bp]? = some (.cells #[srcV q bs, .bool false, .nilIface, .slice none 0 0, .int .i64 0, .map none] 77 (0, 0))
  src : ∃ cv, SrcAt bs q.tx cv q.fa q.wt 0 false W ∧ CutsOK bs cv q.cs W ∧ ∀ g o l c, cv = .slice (some ⟨g, o, none⟩) l c → O g ∧ g ≠ bp
  ob : O bp
  os : O bs
  lt : ∀ x, O x → x < W.heap.size
structure PaDone (aL aI : Addr) (q : Gh) (bp bs : Nat) (rem : List Ev) (O : Nat → Prop) (W : World) : Prop where
  st : ∃ S0 S k, EvS bp 3 S0 S k W ∧ remS S k = rem
  box : ∃ c ev, W.heap[bp]? = some (.cells c 77 (0, 0)) ∧ c[0]? = some .nilIface ∧ c[1]? = some (.bool true) ∧ c[2]? = some ev ∧ ErrAt aL aI q.o ev O W
  src : ∃ tx' cv' ov', SrcAt bs tx' cv' q.fa q.wt q.n ov' W
  own : ∀ x, EvOwn bp 3 W x → O x
  os : O bs
  lt : ∀ x, O x → x < W.heap.size
def PaAt (aL aI : Addr) (q : Gh) (bp bs : Nat) (st : Option (List Ev)) (O : Nat → Prop) (W : World) : Prop :=
  match st with
  | none => PaFresh q bp bs O W
  | some rem => PaDone aL aI q bp bs rem O W
def leftOf (q : Gh) (st : Option (List Ev)) : List Ev := st.getD (evq q)
theorem PaAt.lt {aL aI : Addr} {q : Gh} {bp bs : Nat} {st : Option (List Ev)} {O : Nat → Prop} {W : World} (h : PaAt aL aI q bp bs st O W) : ∀ x, O x → x < W.heap.size := by
  cases st with
  | none => exact PaFresh.lt h
  | some rem => exact PaDone.lt h
theorem PaAt.keep {aL aI : Addr} {q : Gh} {bp bs : Nat} {st : Option (List Ev)} {O : Nat → Prop} {W w' : World} (h : PaAt aL aI q bp bs st O W) (hk : ∀ x, O x → w'.heap[x]? = W.heap[x]?) (hz : W.heap.size ≤ w'.heap.size) : PaAt aL aI q bp bs st O w' := by
  cases st with
  | none =>
    obtain ⟨h1, ⟨cv, s1, s2, s3⟩, h3, h4, h5⟩ := (show PaFresh q bp bs O W from h)
    refine (show PaFresh q bp bs O w' from ⟨(hk bp h3).trans h1, ⟨cv, (hk bs h4).trans s1, ?_, s3⟩, h3, h4, fun x hx => Nat.lt_of_lt_of_le (h5 x hx) hz⟩)
    obtain ⟨g, o, cap, hcv, a1, a2, a3, a4, a5⟩ := s2
    exact ⟨g, o, cap, hcv, a1, a2, a3, by omega, fun i c hi => (World.cell?_of_block (hk g (s3 g o _ _ hcv).1) : w'.cell? ⟨g, o + i, none⟩ = W.cell? ⟨g, o + i, none⟩).trans (a5 i c hi)⟩
  | some rem =>
    obtain ⟨⟨S0, S, k, e1, e2⟩, ⟨c, ev, b1, b2, b3, b4, b5⟩, ⟨tx', cv', ov', s1⟩, h4, h5, h6⟩ := (show PaDone aL aI q bp bs rem O W from h)
    obtain ⟨k1, k2⟩ := e1.keep (w' := w') (fun x hx => hk x (h4 x hx))
    exact (show PaDone aL aI q bp bs rem O w' from ⟨⟨S0, S, k, k1, e2⟩, ⟨c, ev, (hk bp (h4 bp (Or.inl rfl))).trans b1, b2, b3, b4, b5.keep hk⟩, ⟨tx', cv', ov', (hk bs h5).trans s1⟩, fun x hx => h4 x (k2 x hx), h5, fun x hx => Nat.lt_of_lt_of_le (h6 x hx) hz⟩)
theorem PaAt.below {aL aI : Addr} {q : Gh} {bp bs : Nat} {st : Option (List Ev)} {O : Nat → Prop} {W w' : World} (h : PaAt aL aI q bp bs st O W) (hb : Below W.heap.size W w') : PaAt aL aI q bp bs st O w' := h.keep (fun x hx => hb.block x (h.lt x hx)) hb.size
theorem PaAt.reads {aL aI : Addr} {q : Gh} {bp bs : Nat} {st : Option (List Ev)} {O : Nat → Prop} {W : World} (h : PaAt aL aI q bp bs st O W) : W.cell? ⟨bs, 4, none⟩ = some (.int .i64 (if st.isSome then q.n else 0)) := by
  cases st with
  | none =>
    obtain ⟨cv, s1, _⟩ := (show PaFresh q bp bs O W from h).src
    exact s1.cells.2.2.2.2.1
  | some rem =>
    obtain ⟨tx', cv', ov', s1⟩ := (show PaDone aL aI q bp bs rem O W from h).src
    exact s1.cells.2.2.2.2.1
theorem EvS.typ {b o : Nat} {S0 S : List Stp} {k : Nat} {W : World} (h : EvS b o S0 S k W) {x : Nat} (hx : EvOwn b o W x) : x = b ∨ (∃ es cl, W.heap[x]? = some (.map es cl)) ∨ ∃ cur T, W.heap[x]? = some (.cells cur T (0, 0)) ∧ (T = 129 ∨ T = 83) := by
  obtain ⟨v, bm, es, clock, c, T, ⟨a1, a2, a3, a4, a5⟩, _, hv, hm⟩ := h.box
  rcases hx with rfl | ⟨d, U, q1, q2⟩
  · exact Or.inl rfl
  · right
    rw [a1] at q1
    injection q1 with q1
    injection q1 with q1 _
    subst q1
    rcases q2 with ⟨u, q3, q4⟩ | ⟨bm', q3, q4⟩
    · rw [a2] at q3
      injection q3 with q3
      subst q3
      obtain ⟨cur, hc⟩ := hv.typ q4
      exact Or.inr ⟨cur, _, hc, Or.inl rfl⟩
    · rw [a4] at q3
      injection q3 with q3
      injection q3 with q3
      injection q3 with q3
      subst q3
      rcases q4 with rfl | ⟨es2, cl2, e, q5, q6, q7⟩
      · exact Or.inl ⟨_, _, a5⟩
      · rw [a5] at q5
        injection q5 with q5
        injection q5 with q5 _
        subst q5
        obtain ⟨t, x', y, _, _, h3⟩ := hm e q6
        obtain ⟨cur, hc⟩ := h3.typ q7
        exact Or.inr ⟨cur, _, hc, Or.inr rfl⟩
theorem EvS.off {b o : Nat} {S0 S : List Stp} {k : Nat} {W : World} (h : EvS b o S0 S k W) {x : Nat} {c d : Array Value} {T U : TypeId} (hb : W.heap[b]? = some (.cells d U (0, 0))) (hx : W.heap[x]? = some (.cells c T (0, 0))) (hT : T ≠ U ∧ T ≠ 129 ∧ T ≠ 83) : ¬ EvOwn b o W x := fun ho => by
  rcases h.typ ho with rfl | ⟨es, cl, he⟩ | ⟨cur, T', he, hh⟩
  · rw [hb] at hx
    injection hx with hx
    injection hx with _ hx _
    exact hT.1 hx.symm
  · rw [hx] at he; cases he
  · rw [hx] at he
    injection he with he
    injection he with _ he _
    rcases hh with hh | hh
    · exact hT.2.1 (he.trans hh)
    · exact hT.2.2 (he.trans hh)
end Go.Proofs.YtljcljipppjnoabGreatDoor

namespace Go.Proofs.YtljcljipppjnoabGreatDoor
open Go.RowKit Go.Shelf
theorem src_gather {w0 : World} {aL aI : Addr} {m : Int} (B : Base w0 aL aI m) {q : Gh} (hq : q.Ok) (bs : Nat) (W : World) (hW : Below w0.heap.size w0 W) (hbs : w0.heap.size ≤ bs) (cv : Value) (s1 : SrcAt bs q.tx cv q.fa q.wt 0 false W) (s2 : CutsOK bs cv q.cs W) :
    Calls Tryz.prog 28 #[srcV q bs] W fun e w' => (∃ v, e = .returned (.tuple #[.string (outText q.o), v]) ∧ ErrAt aL aI q.o v (fun x => W.heap.size ≤ x ∧ x < w'.heap.size) w') ∧ (∃ tx' cv' ov', SrcAt bs tx' cv' q.fa q.wt q.n ov' w') ∧ Kept bs W w' := by
  have hl := B.lt
  cases hs : q.src with
  | true =>
    have hg := hq.gat hs
    have h1 := hq.small
    have h2 := hq.cuts
    have e : srcV q bs = .iface 34 (.pointer (some ⟨bs, 0, none⟩)) := by unfold srcV; rw [hs]; rfl
    rw [e]
    exact pgather_at bs (q.cs.length + 2) q.tx cv q.cs q.fa q.wt q.o q.n aL aI W s1 s2 (by omega) (by omega) hg ⟨by omega, by omega⟩ (B.to hW).glob
  | false =>
    obtain ⟨h1, h2⟩ := hq.none hs
    have e : srcV q bs = .nilIface := by unfold srcV; rw [hs]; rfl
    rw [e, h1, h2]
    refine (pgather_nil W).mono ?_
    rintro e w' ⟨rfl, hb⟩
    exact ⟨⟨_, rfl, rfl⟩, ⟨_, _, _, s1.below hb s1.lt⟩, Kept.of_below hb⟩
theorem ErrAt.forms {aL aI : Addr} {o : Out} {v : Value} {O : Nat → Prop} {W : World} (h : ErrAt aL aI o v O W) : v = .nilIface ∨ ∃ t a, v = .iface t (.pointer (some a)) := by
  cases o with
  | fine s => exact Or.inl h
  | long => exact Or.inr ⟨_, _, h⟩
  | idle => exact Or.inr ⟨_, _, h⟩
  | fail k =>
    obtain ⟨gE, gO, h1, _⟩ := h
    exact Or.inr ⟨_, _, h1⟩
theorem cells6 {w : World} {b : Nat} {x y z u s t : Value} {T : TypeId} (h : w.heap[b]? = some (.cells #[x, y, z, u, s, t] T (0, 0))) : w.cell? ⟨b, 0, none⟩ = some x ∧ w.cell? ⟨b, 1, none⟩ = some y ∧ w.cell? ⟨b, 2, none⟩ = some z ∧ w.cell? ⟨b, 3, none⟩ = some u ∧ w.cell? ⟨b, 4, none⟩ = some s ∧ w.cell? ⟨b, 5, none⟩ = some t := by
  refine ⟨?_, ?_, ?_, ?_, ?_, ?_⟩ <;> (rw [Lib.cell_of_heap h]; rfl)
theorem rem_events {t : List UInt8} {n : Nat} {S : List Stp} (h : SpOk 0 n S (blocksAt 3 (linesL [] t))) : remS S 0 = eventsS t := by
  have hx : ∀ p l, expX inX p l = expS p l := by
    intro p l
    induction l generalizing p with
    | nil => rfl
    | cons e r ih => rw [expX, expS, ih]; rfl
  rw [events_exp, ← hx, h.exp]
  simp [remS]
theorem flat_mem {S : List Stp} {t : List UInt8} {x y : Nat} (h : Stp.leaf t x y ∈ S) : (⟨8, false, 0, t⟩ : Ev) ∈ flat S := by
  unfold flat
  exact List.mem_flatMap.2 ⟨_, h, by simp [evOf]⟩
theorem leaf_short {t : List UInt8} {n : Nat} {S : List Stp} (h : SpOk 0 n S (blocksAt 3 (linesL [] t))) {u : List UInt8} {x y : Nat} (hm : Stp.leaf u x y ∈ S) : u.length ≤ 2 * t.length + 2 := by
  have h1 := flat_mem hm
  rw [h.flat] at h1
  have h2 := (blocksAt_text 3 (linesL [] t)).1 _ h1
  have h3 := tot_lines t
  simp only at h2
  omega
theorem outText_small {q : Gh} (hq : q.Ok) : (outText q.o).data.toList.length ≤ 1200 := by
  cases hs : q.src with
  | true =>
    have hg := hq.gat hs
    cases ho : q.o with
    | fine s =>
      rw [ho] at hg
      have h1 := gat_size hg
      have h2 := reg_len s
      simp [outText]
      omega
    | long => simp [outText]
    | idle => simp [outText]
    | fail k => simp [outText]
  | false =>
    obtain ⟨h1, _⟩ := hq.none hs
    rw [h1]
    have : (reg ⟨#[]⟩) = [] := by decide
    simp [outText, this]
theorem EvS.begin {t : List UInt8} (ht : t.length ≤ 1200) {n : Nat} {S : List Stp} (h : SpOk 0 n S (blocksAt 3 (linesL [] t))) {b bm : Nat} {v : Value} {B : Nat} {c : Array Value} {T : TypeId} {W : World} (hb : W.heap[b]? = some (.cells c T (0, 0))) (c3 : c[3]? = some v) (c4 : c[3 + 1]? = some (.int .i64 (0 : Nat))) (c5 : c[3 + 2]? = some (.map (some bm))) (hT : T ≠ 129 ∧ T ≠ 83) (hm : W.heap[bm]? = some (.map #[] 0)) (hv : W.ownsRow B 129 6 v S.length (stpCs S)) : EvS b 3 S S 0 W := by
  refine ⟨List.suffix_refl _, ⟨n, h.spans⟩, fun u x y hu => ?_, fun u x y hu => ?_, ⟨fun _ _ _ => rfl, fun _ => rfl, fun _ _ _ _ _ => Nat.zero_le _⟩, v, bm, #[], 0, c, T, ⟨hb, c3, c4, c5, hm⟩, hT, StpV.of_own hv, fun e he => ?_⟩
  · have := leaf_short h hu
    omega
  · have h1 := leaf_short h hu
    have h2 := (inlF_facts (u.length + 1)).1 u false
    show (inlineS u false).length ≤ _
    unfold inlineS
    omega
  · simp at he
set_option maxRecDepth 100000 in
set_option maxHeartbeats 2000000 in
theorem gather_fresh {w0 : World} {aL aI : Addr} {m : Int} (B : Base w0 aL aI m) {q : Gh} (hq : q.Ok) {bp bs : Nat} {O : Nat → Prop} {W : World} (hW : Below w0.heap.size w0 W) (hlow : ∀ x, O x → w0.heap.size ≤ x) (h : PaFresh q bp bs O W) :
    Calls Tryz.prog 16 #[.pointer (some ⟨bp, 0, none⟩)] W fun e w' => e = .returned (.tuple #[]) ∧ ∃ O', PaDone aL aI q bp bs (evq q) O' w' ∧ Fp O O' W w' := by
  obtain ⟨hbox, ⟨cv, s1, s2, s3⟩, ob, os, lt⟩ := h
  have hl := B.lt
  have lbp := hlow bp ob
  have lbs := hlow bs os
  have ltp := lt bp ob
  have lts := lt bs os
  have hne : bp ≠ bs := fun e => by
    have h1 : W.heap[bs]? = _ := s1
    rw [← e, hbox] at h1
    injection h1 with h1
    injection h1 with _ h1 _
    exact absurd h1 (by decide)
  obtain ⟨W1, hW1⟩ : ∃ W1, W.setCell ⟨bp, 1, none⟩ (.bool true) = W1 := ⟨_, rfl⟩
  have x1 : W1.heap[bp]? = some (.cells #[srcV q bs, .bool true, .nilIface, .slice none 0 0, .int .i64 0, .map none] 77 (0, 0)) := by rw [← hW1]; exact set_row hbox
  have z1 : W1.heap.size = W.heap.size := by rw [← hW1]; simp
  have f1 : ∀ x, x ≠ bp → W1.heap[x]? = W.heap[x]? := fun x hx => by rw [← hW1]; exact Below.heap_setCell _ _ _ _ hx
  have o1 : W1.os = W.os ∧ W1.tape = W.tape ∧ W1.output = W.output := by rw [← hW1]; exact ⟨rfl, rfl, rfl⟩
  have hW1b : Below w0.heap.size w0 W1 := by rw [← hW1]; exact hW.setCell (p := ⟨bp, 1, none⟩) lbp _
  have s1' : SrcAt bs q.tx cv q.fa q.wt 0 false W1 := (f1 bs (Ne.symm hne)).trans s1
  have s2' : CutsOK bs cv q.cs W1 := by
    obtain ⟨g, o, cap, hcv, a1, a2, a3, a4, a5⟩ := s2
    exact ⟨g, o, cap, hcv, a1, a2, a3, by omega, fun i c hi => (World.cell?_of_block (f1 g (s3 g o _ _ hcv).2) : W1.cell? ⟨g, o + i, none⟩ = W.cell? ⟨g, o + i, none⟩).trans (a5 i c hi)⟩
  have c1 := src_gather B hq bs W1 hW1b lbs cv s1' s2'
  have c2 : Calls Tryz.prog 28 #[srcV q bs] (W.setCell ⟨bp, 1, none⟩ (.bool true)) fun e w1 => ∃ v, e = .returned (.tuple #[.string (outText q.o), v]) ∧ w1.heap[bp]? = some (.cells #[srcV q bs, .bool true, .nilIface, .slice none 0 0, .int .i64 0, .map none] 77 (0, 0)) ∧ Hid (ErrAt aL aI q.o v (fun x => W1.heap.size ≤ x ∧ x < w1.heap.size) w1 ∧ (∃ tx' cv' ov', SrcAt bs tx' cv' q.fa q.wt q.n ov' w1) ∧ Kept bs W1 w1) := by
    rw [hW1]
    refine c1.mono ?_
    rintro e w1 ⟨⟨v, rfl, h1⟩, h2, h3⟩
    exact ⟨v, rfl, (h3.block bp (by omega) hne).trans x1, h1, h2, h3⟩
  have hts := outText_small hq
  have c3 : ∀ w1 v, w1.heap[bp]? = some (.cells #[srcV q bs, .bool true, .nilIface, .slice none 0 0, .int .i64 0, .map none] 77 (0, 0)) → Kept bs W1 w1 → Calls Tryz.prog 29 #[.string (outText q.o)] ((w1.setCell ⟨bp, 0, none⟩ .nilIface).setCell ⟨bp, 2, none⟩ v) fun e w2 => ∃ p ln cp bm, e = .returned (.agg #[.slice p ln cp, .int .i64 0, .map (some bm)]) ∧ w2.heap[bp]? = some (.cells #[.nilIface, .bool true, v, .slice none 0 0, .int .i64 0, .map none] 77 (0, 0)) ∧ Hid ((∃ S n, SpOk 0 n S (blocksAt 3 (linesL [] (outText q.o).data.toList)) ∧ w2.ownsRow w1.heap.size 129 6 (.slice p ln cp) S.length (stpCs S)) ∧ w2.heap[bm]? = some (.map #[] 0) ∧ w1.heap.size ≤ bm ∧ (∀ x, x < w1.heap.size → x ≠ bp → w2.heap[x]? = w1.heap[x]?) ∧ w1.heap.size ≤ w2.heap.size ∧ w2.os = w1.os ∧ w2.tape = w1.tape ∧ w2.output = w1.output) := by
    intro w1 v hb hk
    obtain ⟨W2, hW2⟩ : ∃ W2, (w1.setCell ⟨bp, 0, none⟩ .nilIface).setCell ⟨bp, 2, none⟩ v = W2 := ⟨_, rfl⟩
    have y1 : W2.heap[bp]? = some (.cells #[.nilIface, .bool true, v, .slice none 0 0, .int .i64 0, .map none] 77 (0, 0)) := by
      rw [← hW2]
      have h1 : (w1.setCell ⟨bp, 0, none⟩ .nilIface).heap[bp]? = some (.cells #[.nilIface, .bool true, .nilIface, .slice none 0 0, .int .i64 0, .map none] 77 (0, 0)) := set_row hb
      exact set_row h1
    have z2 : W2.heap.size = w1.heap.size := by rw [← hW2]; simp
    have f2 : ∀ x, x ≠ bp → W2.heap[x]? = w1.heap[x]? := fun x hx => by rw [← hW2, Below.heap_setCell _ _ _ _ hx, Below.heap_setCell _ _ _ _ hx]
    have o2 : W2.os = w1.os ∧ W2.tape = w1.tape ∧ W2.output = w1.output := by rw [← hW2]; exact ⟨rfl, rfl, rfl⟩
    have hk0 := hk.size
    have hmx : W2.cell? ⟨7, 0, none⟩ = some (.int .i64 m) := by
      have e1 : W2.heap[7]? = w0.heap[7]? := (f2 _ (by omega)).trans ((hk.block _ (by have := hW1b.size; omega) (by omega)).trans (hW1b.block _ hl.1))
      exact (World.cell?_of_block e1 : W2.cell? ⟨7, 0, none⟩ = w0.cell? ⟨7, 0, none⟩).trans B.max
    have hc := pOf_any (outText q.o).data.toList m W2 (by omega) hmx
    have et : (⟨(outText q.o).data.toList.toArray⟩ : ByteArray) = outText q.o := by simp
    rw [et] at hc
    rw [hW2]
    refine hc.mono ?_
    rintro e w2 ⟨u, bm, S, n, rfl, p1, p2, p3, p4, p5⟩
    rw [z2] at p2 p4
    obtain ⟨p, ln, cp, rfl⟩ : ∃ p ln cp, u = .slice p ln cp := by
      rcases Joins.ownsRow_forms p2 with ⟨h, _⟩ | ⟨g', cap', h⟩
      · exact ⟨_, _, _, h⟩
      · exact ⟨_, _, _, h⟩
    have := p5.size
    exact ⟨p, ln, cp, bm, rfl, (p5.block bp (by omega)).trans y1, ⟨S, n, p1, p2⟩, p3, p4, fun x hx hxb => (p5.block x (by omega)).trans (f2 x hxb), by omega, p5.os.trans o2.1, p5.tape.trans o2.2.1, p5.output.trans o2.2.2⟩
  obtain ⟨b0, b1, b2, b3, b4, b5⟩ := cells6 hbox
  have r1 := row_free (i := 1) hbox
  have FIN : Hid (∀ (w1 : World) (v : Value) (w2 : World) (p : Option Addr) (ln cp bm : Nat), (ErrAt aL aI q.o v (fun x => W1.heap.size ≤ x ∧ x < w1.heap.size) w1 ∧ (∃ tx' cv' ov', SrcAt bs tx' cv' q.fa q.wt q.n ov' w1) ∧ Kept bs W1 w1) → w2.heap[bp]? = some (.cells #[.nilIface, .bool true, v, .slice none 0 0, .int .i64 0, .map none] 77 (0, 0)) → ((∃ S n, SpOk 0 n S (blocksAt 3 (linesL [] (outText q.o).data.toList)) ∧ w2.ownsRow w1.heap.size 129 6 (.slice p ln cp) S.length (stpCs S)) ∧ w2.heap[bm]? = some (.map #[] 0) ∧ w1.heap.size ≤ bm ∧ (∀ x, x < w1.heap.size → x ≠ bp → w2.heap[x]? = w1.heap[x]?) ∧ w1.heap.size ≤ w2.heap.size ∧ w2.os = w1.os ∧ w2.tape = w1.tape ∧ w2.output = w1.output) →
      ∃ O', PaDone aL aI q bp bs (evq q) O' (((w2.setCell ⟨bp, 3, none⟩ (.slice p ln cp)).setCell ⟨bp, 4, none⟩ (.int .i64 0)).setCell ⟨bp, 5, none⟩ (.map (some bm))) ∧ Fp O O' W (((w2.setCell ⟨bp, 3, none⟩ (.slice p ln cp)).setCell ⟨bp, 4, none⟩ (.int .i64 0)).setCell ⟨bp, 5, none⟩ (.map (some bm)))) := by
    rintro w1 v w2 p ln cp bm ⟨g1, ⟨tx', cv', ov', g2⟩, g3⟩ hb ⟨⟨S, n, k1, k2⟩, k3, k4, k5, k6, k7, k8, k9⟩
    obtain ⟨X, hX⟩ : ∃ X, ((w2.setCell ⟨bp, 3, none⟩ (.slice p ln cp)).setCell ⟨bp, 4, none⟩ (.int .i64 0)).setCell ⟨bp, 5, none⟩ (.map (some bm)) = X := ⟨_, rfl⟩
    have y1 : X.heap[bp]? = some (.cells #[.nilIface, .bool true, v, .slice p ln cp, .int .i64 0, .map (some bm)] 77 (0, 0)) := by
      rw [← hX]
      have h1 : (w2.setCell ⟨bp, 3, none⟩ (.slice p ln cp)).heap[bp]? = some (.cells #[.nilIface, .bool true, v, .slice p ln cp, .int .i64 0, .map none] 77 (0, 0)) := set_row hb
      have h2 : ((w2.setCell ⟨bp, 3, none⟩ (.slice p ln cp)).setCell ⟨bp, 4, none⟩ (.int .i64 0)).heap[bp]? = some (.cells #[.nilIface, .bool true, v, .slice p ln cp, .int .i64 0, .map none] 77 (0, 0)) := set_row h1
      exact set_row h2
    have zX : X.heap.size = w2.heap.size := by rw [← hX]; simp
    have fX : ∀ x, x ≠ bp → X.heap[x]? = w2.heap[x]? := fun x hx => by rw [← hX, Below.heap_setCell _ _ _ _ hx, Below.heap_setCell _ _ _ _ hx, Below.heap_setCell _ _ _ _ hx]
    have oX : X.os = w2.os ∧ X.tape = w2.tape ∧ X.output = w2.output := by rw [← hX]; exact ⟨rfl, rfl, rfl⟩
    have g4 := g3.size
    rw [hX]
    have kX : X.ownsRow w1.heap.size 129 6 (.slice p ln cp) S.length (stpCs S) := by
      rw [← hX]
      exact ownsRow_setCell_below (ownsRow_setCell_below (ownsRow_setCell_below k2 (by show bp < _; omega) _) (by show bp < _; omega) _) (by show bp < _; omega) _
    have hst : EvS bp 3 S S 0 X := EvS.begin hts k1 y1 rfl rfl rfl ⟨by decide, by decide⟩ ((fX bm (by omega)).trans k3) kX
    have fr : ∀ x, x < w1.heap.size → x ≠ bp → X.heap[x]? = w1.heap[x]? := fun x hx hxb => (fX x hxb).trans (k5 x hx hxb)
    refine ⟨fun x => O x ∨ (W.heap.size ≤ x ∧ x < X.heap.size), ⟨⟨S, S, 0, hst, rem_events k1⟩, ⟨_, v, y1, rfl, rfl, rfl, (g1.keep (w' := X) fun x hx => fr x hx.2 (by omega)).mono fun x hx => Or.inr ⟨by omega, by omega⟩⟩, ⟨tx', cv', ov', (fr bs (by omega) (Ne.symm hne)).trans g2⟩, fun x hx => ?_, Or.inl os, fun x hx => ?_⟩, ⟨?_, ?_, ?_, by omega, fun x hx ho => ?_, fun x hx => hx.imp id And.left⟩⟩
    · have hxl := hst.lt hx
      rcases hx with rfl | ⟨d, U, q1, q2⟩
      · exact Or.inl ob
      · rw [y1] at q1
        injection q1 with q1
        injection q1 with q1 _
        subst q1
        rcases q2 with ⟨u, q3, q4⟩ | ⟨bm', q3, q4⟩
        · have q3 : some (Value.slice p ln cp) = some u := q3
          injection q3 with q3
          subst q3
          have := (kX.lt x q4).1
          exact Or.inr ⟨by omega, hxl⟩
        · have q3 : some (Value.map (some bm)) = some (.map (some bm')) := q3
          injection q3 with q3
          injection q3 with q3
          injection q3 with q3
          subst q3
          rcases q4 with rfl | ⟨es, cl, e, q5, q6, q7⟩
          · exact Or.inr ⟨by omega, hxl⟩
          · rw [(fX bm (by omega)).trans k3] at q5
            injection q5 with q5
            injection q5 with q5 _
            subst q5
            simp at q6
    · rcases hx with hx | hx
      · have := lt x hx
        omega
      · exact hx.2
    · exact oX.1.trans (k7.trans (g3.os.trans o1.1))
    · exact oX.2.1.trans (k8.trans (g3.tape.trans o1.2.1))
    · exact oX.2.2.trans (k9.trans (g3.output.trans o1.2.2))
    · have n1 : x ≠ bp := fun e => ho (e ▸ ob)
      have n2 : x ≠ bs := fun e => ho (e ▸ os)
      exact (fr x (by omega) n1).trans ((g3.block x (by omega) n2).trans (f1 x n1))
  obtain ⟨m0, m1, m2, m3, m4, m5⟩ := cells6 x1
  rw [hW1] at c2
  clear s1 s2 s3 s1' s2' c1 x1 f1 o1 hW1b hlow lt hq hW hl hts hbox
  generalize srcV q bs = sv at *
  generalize outText q.o = ot at *
  go_enter Tryz.func16, Tryz.ntmps16
  go_wp2_with (first
    | (go_at_call 28; refine c2.mono ?_; rintro e w1 ⟨v, rfl, hb, HF⟩; obtain ⟨d0, d1, d2, d3, d4, d5⟩ := cells6 hb; have r0 := row_free (i := 0) hb; have r2 := row_free (i := 2) hb; have c4 := c3 w1 v hb HF.out.2.2; rcases ErrAt.forms HF.out.1 with rfl | ⟨tt, a, rfl⟩)
    | (go_at_call 29; refine c4.mono ?_; rintro e w2 ⟨p, ln, cp, bm, rfl, hb2, HG⟩; obtain ⟨e0, e1, e2, e3, e4, e5⟩ := cells6 hb2; have t3 := row_free (i := 3) hb2; have t4 := row_free (i := 4) hb2; have t5 := row_free (i := 5) hb2))
  all_goals
    go_end0
    exact ⟨rfl, FIN.out w1 _ w2 p ln cp bm HF.out hb2 HG.out⟩
end Go.Proofs.YtljcljipppjnoabGreatDoor

namespace Go.Proofs.YtljcljipppjnoabGreatDoor
open Go.RowKit Go.Shelf
set_option maxRecDepth 100000 in
set_option maxHeartbeats 1000000 in
theorem gather_any {w0 : World} {aL aI : Addr} {m : Int} (B : Base w0 aL aI m) {q : Gh} (hq : q.Ok) {bp bs : Nat} {st : Option (List Ev)} {O : Nat → Prop} {W : World} (hW : Below w0.heap.size w0 W) (hlow : ∀ x, O x → w0.heap.size ≤ x) (h : PaAt aL aI q bp bs st O W) :
    Calls Tryz.prog 16 #[.pointer (some ⟨bp, 0, none⟩)] W fun e w' => e = .returned (.tuple #[]) ∧ ∃ O', PaDone aL aI q bp bs (leftOf q st) O' w' ∧ Fp O O' W w' := by
  cases st with
  | none => exact gather_fresh B hq hW hlow h
  | some rem =>
    have h' : PaDone aL aI q bp bs rem O W := h
    obtain ⟨c, ev, hb, c0, c1, c2, _⟩ := h'.box
    have g1 := row_cell hb c1
    have H : Hid (PaDone aL aI q bp bs rem O W) := h'
    clear h h' hb c0 c1 c2
    go_enter Tryz.func16, Tryz.ntmps16
    go_wp2
    refine bodyPost_ret (results_none rfl _ _ _) rfl ?_
    exact ⟨rfl, O, H.out, Fp.refl O W⟩
def pulled (l : List Ev) : Ev × Bool × List Ev :=
  match l with
  | [] => (⟨0, false, 0, []⟩, false, [])
  | e :: r => (e, true, r)
theorem next_done {w0 : World} {aL aI : Addr} {m : Int} (B : Base w0 aL aI m) {q : Gh} {bp bs : Nat} {rem : List Ev} {O : Nat → Prop} {W : World} (hW : Below w0.heap.size w0 W) (hlow : ∀ x, O x → w0.heap.size ≤ x) (h : PaDone aL aI q bp bs rem O W) :
    Calls Tryz.prog 33 #[.pointer (some ⟨bp, 3, none⟩)] W fun e w' => e = .returned (.tuple #[evV (pulled rem).1, .bool (pulled rem).2.1]) ∧ ∃ O', PaDone aL aI q bp bs (pulled rem).2.2 O' w' ∧ Fp O O' W w' := by
  obtain ⟨⟨S0, S, k, hst, hrem⟩, ⟨c, ev, b1, b2, b3, b4, b5⟩, ⟨tx', cv', ov', s1⟩, h4, h5, h6⟩ := h
  have hl := B.lt
  have hmo : ¬ EvOwn bp 3 W 7 := fun ho => by
    have := hlow _ (h4 _ ho)
    omega
  refine (next_any bp 3 S0 S k m W hst hmo (B.to hW).max).mono ?_
  rintro e w' ⟨ev', ok, S', k', rfl, e1, e2, e3, e4⟩
  obtain ⟨c', d1, d2, d3⟩ := e3 c _ b1
  have hsrc : ¬ EvOwn bp 3 W bs := hst.off b1 s1 ⟨by decide, by decide, by decide⟩
  have herr : ErrAt aL aI q.o ev (fun x => O x ∨ EvOwn bp 3 w' x) w' := by
    cases ho : q.o with
    | fine s => rw [ho] at b5; exact b5
    | long => rw [ho] at b5; exact b5
    | idle => rw [ho] at b5; exact b5
    | fail n =>
      rw [ho] at b5
      obtain ⟨gE, gO, x1, x2, x3⟩ := b5
      exact ⟨gE, gO, x1, Or.inl x2, (e2.block gE (h6 gE x2) (hst.off b1 x3 ⟨by decide, by decide, by decide⟩)).trans x3⟩
  have hans : ev' = (pulled rem).1 ∧ ok = (pulled rem).2.1 ∧ remS S' k' = (pulled rem).2.2 := by
    rw [← hrem]
    rcases e4 with ⟨r1, r2⟩ | ⟨r1, r2, r3, r4⟩
    · rw [r2]
      exact ⟨rfl, r1, rfl⟩
    · rw [r3]
      exact ⟨r2, r1, r4⟩
  obtain ⟨a1, a2, a3⟩ := hans
  rw [a1, a2]
  refine ⟨rfl, fun x => O x ∨ EvOwn bp 3 w' x, ⟨⟨S0, S', k', e1, a3⟩, ⟨c', ev, d1, (d3 0 (by decide) (by decide)).trans b2, (d3 1 (by decide) (by decide)).trans b3, (d3 2 (by decide) (by decide)).trans b4, herr⟩, ⟨tx', cv', ov', (e2.block bs (h6 bs h5) hsrc).trans s1⟩, fun x hx => Or.inr hx, Or.inl h5, fun x hx => ?_⟩, ⟨e2.os, e2.tape, e2.output, e2.size, fun x hx ho => e2.block x hx fun hh => ho (h4 x hh), fun x hx => ?_⟩⟩
  · rcases hx with hx | hx
    · exact Nat.lt_of_lt_of_le (h6 x hx) e2.size
    · exact e1.lt hx
  · rcases hx with hx | hx
    · exact Or.inl hx
    · rcases Nat.lt_or_ge x W.heap.size with hl | hl
      · exact Or.inl (h4 x (e2.own x hl hx))
      · exact Or.inr hl
theorem PaDone.keep {aL aI : Addr} {q : Gh} {bp bs : Nat} {rem : List Ev} {O : Nat → Prop} {W w' : World} (h : PaDone aL aI q bp bs rem O W) (hk : ∀ x, O x → w'.heap[x]? = W.heap[x]?) (hz : W.heap.size ≤ w'.heap.size) : PaDone aL aI q bp bs rem O w' := PaAt.keep (st := some rem) h hk hz
set_option maxRecDepth 100000 in
set_option maxHeartbeats 1000000 in
theorem pnext_any {w0 : World} {aL aI : Addr} {m : Int} (B : Base w0 aL aI m) {q : Gh} (hq : q.Ok) {bp bs : Nat} {st : Option (List Ev)} {O : Nat → Prop} {W : World} (hW : Below w0.heap.size w0 W) (hlow : ∀ x, O x → w0.heap.size ≤ x) (h : PaAt aL aI q bp bs st O W) :
    Calls Tryz.prog 21 #[.pointer (some ⟨bp, 0, none⟩)] W fun e w' => e = .returned (.tuple #[evV (pulled (leftOf q st)).1, .bool (pulled (leftOf q st)).2.1]) ∧ ∃ O', PaDone aL aI q bp bs (pulled (leftOf q st)).2.2 O' w' ∧ Fp O O' W w' := by
  obtain ⟨W1, hW1⟩ : ∃ W1, W.alloc (.cells #[.int .i64 0, .bool false, .int .i64 0, .string ⟨#[]⟩] 83) = W1 := ⟨_, rfl⟩
  have hb1 : Below W.heap.size W W1 := by rw [← hW1]; exact (Below.refl _ W).alloc (Nat.le_refl _) _
  have z1 : W1.heap.size = W.heap.size + 1 := by rw [← hW1]; simp
  have x1 : W1.heap[W.heap.size]? = some (.cells #[.int .i64 0, .bool false, .int .i64 0, .string ⟨#[]⟩] 83 (0, 0)) := by rw [← hW1]; exact heap_alloc_new W _
  have hWz := hW.size
  have hw1 : Below w0.heap.size w0 W1 := hW.trans (hb1.mono hWz)
  have c1 := gather_any B hq hw1 hlow (h.below hb1)
  have hlt := h.lt
  generalize leftOf q st = rem at c1 ⊢
  have c2 : ∀ O1 w1, PaDone aL aI q bp bs rem O1 w1 → Fp O O1 W1 w1 → Calls Tryz.prog 33 #[.pointer (some ⟨bp, 3, none⟩)] w1 fun e w2 => e = .returned (.tuple #[evV (pulled rem).1, .bool (pulled rem).2.1]) ∧ w2.heap[W.heap.size]? = some (.cells #[.int .i64 0, .bool false, .int .i64 0, .string ⟨#[]⟩] 83 (0, 0)) ∧ Hid (∃ O', PaDone aL aI q bp bs (pulled rem).2.2 O' w2 ∧ Fp O O' W w2 ∧ ¬ O' W.heap.size) := by
    intro O1 w1 hd hf
    refine (next_done B (hw1.trans (hf.under hw1.size hlow)) (hf.low hw1.size hlow) hd).mono ?_
    rintro e w2 ⟨rfl, O2, hd2, hf2⟩
    have hf3 := hf.trans hf2
    refine ⟨rfl, (hf3.block _ (by omega) fun ho => ?_).trans x1, O2, hd2, (Fp.below (O := O) hb1).trans hf3, fun ho => ?_⟩
    · have := hlt _ ho
      omega
    · rcases hf3.grow _ ho with h1 | h1
      · have := hlt _ h1
        omega
      · omega
  clear h hlow hlt hW hWz hw1 B hb1 x1 z1
  rw [← hW1] at c1 c2
  clear hW1
  generalize pulled rem = pr at c2 ⊢
  obtain ⟨⟨ek, ef, el, et⟩, ok, rr⟩ := pr
  unfold evV at c2 ⊢
  simp only at c2 ⊢
  go_enter Tryz.func21, Tryz.ntmps21
  go_wp2_with (go_at_call 16; refine c1.mono ?_; rintro e w1 ⟨rfl, O1, hd, hf⟩)
  have c3 := c2 O1 w1 hd hf
  clear c1 c2 hd hf
  go_wp2_with (go_at_call 33; refine c3.mono ?_; rintro e w2 ⟨rfl, hres, HF⟩; obtain ⟨s0, s1, s2, s3⟩ := cells4 hres; have g0 := row_free (i := 0) hres; have g1 := row_free (i := 1) hres; have g2 := row_free (i := 2) hres; have g3 := row_free (i := 3) hres; have HR : Hid _ := hres; clear hres)
  obtain ⟨q1, q2, q3⟩ := four_set (x' := .int .i64 ek) (y' := .bool ef) (z' := .int .i64 el) (u' := .string ⟨et.toArray⟩) HR.out
  obtain ⟨p0, p1, p2, p3⟩ := cells4 q1
  obtain ⟨O2, hd, hf, hno⟩ := HF.out
  refine bodyPost_ret (v := .tuple #[.agg #[.int .i64 ek, .bool ef, .int .i64 el, .string ⟨et.toArray⟩], .bool ok]) (by simp [results, Tryz.results21, go_sem, p0, p1, p2, p3]) rfl ⟨rfl, O2, hd.keep (fun x hx => q2 x fun e => hno (e ▸ hx)) (by omega), hf.past (Nat.le_refl _) q2 q3 rfl rfl rfl⟩
set_option maxRecDepth 100000 in
set_option maxHeartbeats 1000000 in
theorem perr_any {w0 : World} {aL aI : Addr} {m : Int} (B : Base w0 aL aI m) {q : Gh} (hq : q.Ok) {bp bs : Nat} {st : Option (List Ev)} {O : Nat → Prop} {W : World} (hW : Below w0.heap.size w0 W) (hlow : ∀ x, O x → w0.heap.size ≤ x) (h : PaAt aL aI q bp bs st O W) :
    Calls Tryz.prog 10 #[.pointer (some ⟨bp, 0, none⟩)] W fun e w' => ∃ O' v, e = .returned v ∧ ErrAt aL aI q.o v O' w' ∧ PaDone aL aI q bp bs (leftOf q st) O' w' ∧ Fp O O' W w' := by
  have c1 := gather_any B hq hW hlow h
  have c2 : Calls Tryz.prog 16 #[.pointer (some ⟨bp, 0, none⟩)] W fun e w' => e = .returned (.tuple #[]) ∧ ∃ v, w'.cell? ⟨bp, 2, none⟩ = some v ∧ Hid (∃ O', ErrAt aL aI q.o v O' w' ∧ PaDone aL aI q bp bs (leftOf q st) O' w' ∧ Fp O O' W w') := by
    refine c1.mono ?_
    rintro e w' ⟨rfl, O', hd, hf⟩
    obtain ⟨c, ev, b1, b2, b3, b4, b5⟩ := hd.box
    exact ⟨rfl, ev, row_cell b1 b4, O', b5, hd, hf⟩
  clear c1 h hlow hW B hq
  go_enter Tryz.func10, Tryz.ntmps10
  go_wp2_with (go_at_call 16; refine c2.mono ?_; rintro e w1 ⟨rfl, v, hv, HF⟩)
  go_ret
  obtain ⟨O', h1, h2, h3⟩ := HF.out
  exact ⟨O', v, rfl, h1, h2, h3⟩
end Go.Proofs.YtljcljipppjnoabGreatDoor

namespace Go.Proofs.YtljcljipppjnoabGreatDoor
open Go.RowKit Go.Shelf
theorem Fp.left {O O' P : Nat → Prop} {W w' : World} (h : Fp O O' W w') : Fp (fun x => O x ∨ P x) (fun x => O' x ∨ P x) W w' :=
  ⟨h.os, h.tape, h.output, h.size, fun b hb ho => h.block b hb fun h1 => ho (Or.inl h1), fun b ho => by
    rcases ho with ho | ho
    · exact (h.grow b ho).imp Or.inl id
    · exact Or.inl (Or.inr ho)⟩
theorem Fp.right {O O' P : Nat → Prop} {W w' : World} (h : Fp O O' W w') : Fp (fun x => P x ∨ O x) (fun x => P x ∨ O' x) W w' :=
  ⟨h.os, h.tape, h.output, h.size, fun b hb ho => h.block b hb fun h1 => ho (Or.inr h1), fun b ho => by
    rcases ho with ho | ho
    · exact Or.inl (Or.inl ho)
    · exact (h.grow b ho).imp Or.inr id⟩
theorem evq_len {q : Gh} (hq : q.Ok) : (evq q).length ≤ 4804 := by
  have h1 := outText_small hq
  have h2 := events_len (outText q.o).data.toList
  unfold evq
  omega
end Go.Proofs.YtljcljipppjnoabGreatDoor

namespace Go.Proofs.YtljcljipppjnoabGreatDoor
open Go.RowKit Go.Shelf
set_option maxRecDepth 100000 in
set_option maxHeartbeats 1000000 in
theorem new_any (v : Value) (hv : v = .nilIface ∨ ∃ t a, v = .iface t (.pointer (some a))) (W : World) :
    Calls Tryz.prog 9 #[v] W fun e w' => e = .returned (.pointer (some ⟨W.heap.size, 0, none⟩)) ∧ w' = W.alloc (.cells #[v, .bool false, .nilIface, .slice none 0 0, .int .i64 0, .map none] 77) := by
  rcases hv with rfl | ⟨t, a, rfl⟩
  · go_enter Tryz.func9, Tryz.ntmps9
    go_wp2
    go_ret
    exact ⟨rfl, rfl⟩
  · go_enter Tryz.func9, Tryz.ntmps9
    go_wp2
    go_ret
    exact ⟨rfl, rfl⟩
end Go.Proofs.YtljcljipppjnoabGreatDoor

namespace Go.Proofs.YtljcljipppjnoabGreatDoor
open Go.RowKit Go.Shelf
end Go.Proofs.YtljcljipppjnoabGreatDoor

namespace Go.Proofs.YtljcljipppjnoabGreatDoor
open Go.RowKit Go.Shelf
set_option maxRecDepth 100000 in
set_option maxHeartbeats 1000000 in
theorem pall_any (bp : Nat) (W : World) :
    Calls Tryz.prog 13 #[.pointer (some ⟨bp, 0, none⟩)] W fun e w' => e = .returned (.func (.func 20) #[] #[.pointer (some ⟨W.heap.size, 0, none⟩)]) ∧ w' = W.alloc (.cells #[.pointer (some ⟨bp, 0, none⟩)] 51) := by
  have hmf : ∀ (fn : Fn) (first cap : Array Value) (w : World), (Instr.makeFunc fn first cap).run Tryz.prog w = .ok (.func fn first cap) w := fun _ _ _ _ => rfl
  go_enter Tryz.func13, Tryz.ntmps13
  go_wp2
  go_ret
  exact ⟨rfl, rfl⟩
theorem Tryz.seqNil (fn : Fn) (f c : Array Value) (w : World) : (binOp .eql 59 (.func fn f c) .nilFunc).run Tryz.prog w = .ok (.bool false) w := by kernel_rfl
end Go.Proofs.YtljcljipppjnoabGreatDoor
