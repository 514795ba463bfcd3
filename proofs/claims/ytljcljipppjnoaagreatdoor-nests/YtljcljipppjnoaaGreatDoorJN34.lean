import Derived.Test.YtljcljipppjnoaaGreatDoorJN04
import Derived.Test.YtljcljipppjnoaaGreatDoorJN07
import Derived.Test.YtljcljipppjnoaaGreatDoorJN24
import Derived.Test.YtljcljipppjnoaaGreatDoorJN30
import Derived.Test.YtljcljipppjnoaaGreatDoorJN32
import Derived.Test.YtljcljipppjnoaaGreatDoorJN33
import Derived.Deep.RegionHeld3
namespace Go.Proofs.YtljcljipppjnoaaGreatDoor
open Go.RowKit Go.Shelf
structure Gh where
  src : Bool
  tx : ByteArray
  cs : List Int
  fa : Int
  wt : Bool
  o : Out
  n : Nat
structure Gh.Ok (q : Gh) : Prop where
  small : q.tx.size ≤ 1048576
  cuts : q.cs.length ≤ 1048576
  gat : q.src = true → gat q.fa q.wt (q.cs.length + 2) q.tx q.cs 0 ByteArray.empty 0 = some (q.o, q.n)
  none : q.src = false → q.o = .fine ⟨#[]⟩ ∧ q.n = 0
def srcV (q : Gh) (bs : Nat) : Value := if q.src then .iface 84 (.pointer (some ⟨bs, 0, none⟩)) else .nilIface
def evq (q : Gh) : List Ev := eventsS (outText q.o).data.toList
structure Base (w0 : World) (aL aI : Addr) (m : Int) : Prop where
  glob : Glob w0 aL aI
  max : w0.cell? ⟨6, 0, none⟩ = some (.int .i64 m)
theorem Base.lt {w0 : World} {aL aI : Addr} {m : Int} (h : Base w0 aL aI m) : 6 < w0.heap.size ∧ 1 < w0.heap.size ∧ 2 < w0.heap.size := ⟨lt_cell h.max, lt_cell h.glob.long, lt_cell h.glob.idle⟩
theorem Base.to {w0 W : World} {aL aI : Addr} {m : Int} (h : Base w0 aL aI m) (hb : Below w0.heap.size w0 W) : Base W aL aI m := ⟨h.glob.below hb, (hb.cell (p := ⟨6, 0, none⟩) h.lt.1).trans h.max⟩
structure PaFresh (q : Gh) (bp bs : Nat) (O : Nat → Prop) (W : World) : Prop where
  box : W.heap[bp]? = some (.cells #[srcV q bs, .bool false, .nilIface, .slice none 0 0, .int .i64 0, .map none] 132 (0, 0))
  src : ∃ cv, SrcAt bs q.tx cv q.fa q.wt 0 false W ∧ CutsOK bs cv q.cs W ∧ ∀ g o l c, cv = .slice (some ⟨g, o, none⟩) l c → O g ∧ g ≠ bp
  ob : O bp
  os : O bs
  lt : ∀ x, O x → x < W.heap.size
structure PaDone (aL aI : Addr) (q : Gh) (bp bs : Nat) (rem : List Ev) (O : Nat → Prop) (W : World) : Prop where
  st : ∃ S0 S k, EvS bp 3 S0 S k W ∧ remS S k = rem
  box : ∃ c ev, W.heap[bp]? = some (.cells c 132 (0, 0)) ∧ c[0]? = some .nilIface ∧ c[1]? = some (.bool true) ∧ c[2]? = some ev ∧ ErrAt aL aI q.o ev O W
  src : ∃ tx' cv' ov', SrcAt bs tx' cv' q.fa q.wt q.n ov' W
  own : ∀ x, EvOwn bp 3 W x → O x
  os : O bs
  lt : ∀ x, O x → x < W.heap.size
def PaAt (aL aI : Addr) (q : Gh) (bp bs : Nat) (st : Option (List Ev)) (O : Nat → Prop) (W : World) : Prop :=
  match st with
  | none => PaFresh q bp bs O W
  | some rem => PaDone aL aI q bp bs rem O W
def leftOf (q : Gh) (st : Option (List Ev)) : List Ev := st.getD (evq q)
theorem PaAt.lt {aL aI : Addr} {q : Gh} {bp bs : Nat} {st : Option (List Ev)} {O : Nat → Prop} {W : World} (h : PaAt aL aI q bp bs st O W) : ∀ x, O x → x < W.heap.size := by
  cases st with
  | none => exact PaFresh.lt h
  | some rem => exact PaDone.lt h
theorem PaAt.keep {aL aI : Addr} {q : Gh} {bp bs : Nat} {st : Option (List Ev)} {O : Nat → Prop} {W w' : World} (h : PaAt aL aI q bp bs st O W) (hk : ∀ x, O x → w'.heap[x]? = W.heap[x]?) (hz : W.heap.size ≤ w'.heap.size) : PaAt aL aI q bp bs st O w' := by
  cases st with
  | none =>
    obtain ⟨h1, ⟨cv, s1, s2, s3⟩, h3, h4, h5⟩ := (show PaFresh q bp bs O W from h)
    refine (show PaFresh q bp bs O w' from ⟨(hk bp h3).trans h1, ⟨cv, (hk bs h4).trans s1, ?_, s3⟩, h3, h4, fun x hx => Nat.lt_of_lt_of_le (h5 x hx) hz⟩)
    obtain ⟨g, o, cap, hcv, a1, a2, a3, a4, a5⟩ := s2
    exact ⟨g, o, cap, hcv, a1, a2, a3, by omega, fun i c hi => (World.cell?_of_block (hk g (s3 g o _ _ hcv).1) : w'.cell? ⟨g, o + i, none⟩ = W.cell? ⟨g, o + i, none⟩).trans (a5 i c hi)⟩
  | some rem =>
    obtain ⟨⟨S0, S, k, e1, e2⟩, ⟨c, ev, b1, b2, b3, b4, b5⟩, ⟨tx', cv', ov', s1⟩, h4, h5, h6⟩ := (show PaDone aL aI q bp bs rem O W from h)
    obtain ⟨k1, k2⟩ := e1.keep (w' := w') (fun x hx => hk x (h4 x hx))
    exact (show PaDone aL aI q bp bs rem O w' from ⟨⟨S0, S, k, k1, e2⟩, ⟨c, ev, (hk bp (h4 bp (Or.inl rfl))).trans b1, b2, b3, b4, b5.keep hk⟩, ⟨tx', cv', ov', (hk bs h5).trans s1⟩, fun x hx => h4 x (k2 x hx), h5, fun x hx => Nat.lt_of_lt_of_le (h6 x hx) hz⟩)
theorem PaAt.below {aL aI : Addr} {q : Gh} {bp bs : Nat} {st : Option (List Ev)} {O : Nat → Prop} {W w' : World} (h : PaAt aL aI q bp bs st O W) (hb : Below W.heap.size W w') : PaAt aL aI q bp bs st O w' := h.keep (fun x hx => hb.block x (h.lt x hx)) hb.size
theorem PaAt.reads {aL aI : Addr} {q : Gh} {bp bs : Nat} {st : Option (List Ev)} {O : Nat → Prop} {W : World} (h : PaAt aL aI q bp bs st O W) : W.cell? ⟨bs, 4, none⟩ = some (.int .i64 (if st.isSome then q.n else 0)) := by
  cases st with
  | none =>
    obtain ⟨cv, s1, _⟩ := (show PaFresh q bp bs O W from h).src
    exact s1.cells.2.2.2.2.1
  | some rem =>
    obtain ⟨tx', cv', ov', s1⟩ := (show PaDone aL aI q bp bs rem O W from h).src
    exact s1.cells.2.2.2.2.1
theorem EvS.typ {b o : Nat} {S0 S : List Stp} {k : Nat} {W : World} (h : EvS b o S0 S k W) {x : Nat} (hx : EvOwn b o W x) : x = b ∨ (∃ es cl, W.heap[x]? = some (.map es cl)) ∨ ∃ cur T, W.heap[x]? = some (.cells cur T (0, 0)) ∧ (T = 166 ∨ T = 92) := by
  obtain ⟨v, bm, es, clock, c, T, ⟨a1, a2, a3, a4, a5⟩, _, hv, hm⟩ := h.box
  rcases hx with rfl | ⟨d, U, q1, q2⟩
  · exact Or.inl rfl
  · right
    rw [a1] at q1
    injection q1 with q1
    injection q1 with q1 _
    subst q1
    rcases q2 with ⟨u, q3, q4⟩ | ⟨bm', q3, q4⟩
    · rw [a2] at q3
      injection q3 with q3
      subst q3
      obtain ⟨cur, hc⟩ := hv.typ q4
      exact Or.inr ⟨cur, _, hc, Or.inl rfl⟩
    · rw [a4] at q3
      injection q3 with q3
      injection q3 with q3
      injection q3 with q3
      subst q3
      rcases q4 with rfl | ⟨es2, cl2, e, q5, q6, q7⟩
      · exact Or.inl ⟨_, _, a5⟩
      · rw [a5] at q5
        injection q5 with q5
        injection q5 with q5 _
        subst q5
        obtain ⟨t, x', y, _, _, h3⟩ := hm e q6
        obtain ⟨cur, hc⟩ := h3.typ q7
        exact Or.inr ⟨cur, _, hc, Or.inr rfl⟩
theorem EvS.off {b o : Nat} {S0 S : List Stp} {k : Nat} {W : World} (h : EvS b o S0 S k W) {x : Nat} {c d : Array Value} {T U : TypeId} (hb : W.heap[b]? = some (.cells d U (0, 0))) (hx : W.heap[x]? = some (.cells c T (0, 0))) (hT : T ≠ U ∧ T ≠ 166 ∧ T ≠ 92) : ¬ EvOwn b o W x := fun ho => by
  rcases h.typ ho with rfl | ⟨es, cl, he⟩ | ⟨cur, T', he, hh⟩
  · rw [hb] at hx
    injection hx with hx
    injection hx with _ hx _
    exact hT.1 hx.symm
  · rw [hx] at he; cases he
  · rw [hx] at he
    injection he with he
    injection he with _ he _
    rcases hh with hh | hh
    · exact hT.2.1 (he.trans hh)
    · exact hT.2.2 (he.trans hh)
end Go.Proofs.YtljcljipppjnoaaGreatDoor

namespace Go.Proofs.YtljcljipppjnoaaGreatDoor
open Go.RowKit Go.Shelf
theorem src_gather {w0 : World} {aL aI : Addr} {m : Int} (B : Base w0 aL aI m) {q : Gh} (hq : q.Ok) (bs : Nat) (W : World) (hW : Below w0.heap.size w0 W) (hbs : w0.heap.size ≤ bs) (cv : Value) (s1 : SrcAt bs q.tx cv q.fa q.wt 0 false W) (s2 : CutsOK bs cv q.cs W) :
    Calls Tryz.prog 77 #[srcV q bs] W fun e w' => (∃ v, e = .returned (.tuple #[.string (outText q.o), v]) ∧ ErrAt aL aI q.o v (fun x => W.heap.size ≤ x ∧ x < w'.heap.size) w') ∧ (∃ tx' cv' ov', SrcAt bs tx' cv' q.fa q.wt q.n ov' w') ∧ Kept bs W w' := by
  have hl := B.lt
  cases hs : q.src with
  | true =>
    have hg := hq.gat hs
    have h1 := hq.small
    have h2 := hq.cuts
    have e : srcV q bs = .iface 84 (.pointer (some ⟨bs, 0, none⟩)) := by unfold srcV; rw [hs]; rfl
    rw [e]
    exact pgather_at bs (q.cs.length + 2) q.tx cv q.cs q.fa q.wt q.o q.n aL aI W s1 s2 (by omega) (by omega) hg ⟨by omega, by omega⟩ (B.to hW).glob
  | false =>
    obtain ⟨h1, h2⟩ := hq.none hs
    have e : srcV q bs = .nilIface := by unfold srcV; rw [hs]; rfl
    rw [e, h1, h2]
    refine (pgather_nil W).mono ?_
    rintro e w' ⟨rfl, hb⟩
    exact ⟨⟨_, rfl, rfl⟩, ⟨_, _, _, s1.below hb s1.lt⟩, Kept.of_below hb⟩
theorem ErrAt.forms {aL aI : Addr} {o : Out} {v : Value} {O : Nat → Prop} {W : World} (h : ErrAt aL aI o v O W) : v = .nilIface ∨ ∃ t a, v = .iface t (.pointer (some a)) := by
  cases o with
  | fine s => exact Or.inl h
  | long => exact Or.inr ⟨_, _, h⟩
  | idle => exact Or.inr ⟨_, _, h⟩
  | fail k =>
    obtain ⟨gE, gO, h1, _⟩ := h
    exact Or.inr ⟨_, _, h1⟩
theorem cells6 {w : World} {b : Nat} {x y z u s t : Value} {T : TypeId} (h : w.heap[b]? = some (.cells #[x, y, z, u, s, t] T (0, 0))) : w.cell? ⟨b, 0, none⟩ = some x ∧ w.cell? ⟨b, 1, none⟩ = some y ∧ w.cell? ⟨b, 2, none⟩ = some z ∧ w.cell? ⟨b, 3, none⟩ = some u ∧ w.cell? ⟨b, 4, none⟩ = some s ∧ w.cell? ⟨b, 5, none⟩ = some t := by
  refine ⟨?_, ?_, ?_, ?_, ?_, ?_⟩ <;> (rw [Lib.cell_of_heap h]; rfl)
theorem rem_events {t : List UInt8} {n : Nat} {S : List Stp} (h : SpOk 0 n S (blocksAt 3 (linesL [] t))) : remS S 0 = eventsS t := by
  have hx : ∀ p l, expX inX p l = expS p l := by
    intro p l
    induction l generalizing p with
    | nil => rfl
    | cons e r ih => rw [expX, expS, ih]; rfl
  rw [events_exp, ← hx, h.exp]
  simp [remS]
theorem flat_mem {S : List Stp} {t : List UInt8} {x y : Nat} (h : Stp.leaf t x y ∈ S) : (⟨8, false, 0, t⟩ : Ev) ∈ flat S := by
  unfold flat
  exact List.mem_flatMap.2 ⟨_, h, by simp [evOf]⟩
theorem leaf_short {t : List UInt8} {n : Nat} {S : List Stp} (h : SpOk 0 n S (blocksAt 3 (linesL [] t))) {u : List UInt8} {x y : Nat} (hm : Stp.leaf u x y ∈ S) : u.length ≤ 2 * t.length + 2 := by
  have h1 := flat_mem hm
  rw [h.flat] at h1
  have h2 := (blocksAt_text 3 (linesL [] t)).1 _ h1
  have h3 := tot_lines t
  simp only at h2
  omega
theorem outText_small {q : Gh} (hq : q.Ok) : (outText q.o).data.toList.length ≤ 1200 := by
  cases hs : q.src with
  | true =>
    have hg := hq.gat hs
    cases ho : q.o with
    | fine s =>
      rw [ho] at hg
      have h1 := gat_size hg
      have h2 := reg_len s
      simp [outText]
      omega
    | long => simp [outText]
    | idle => simp [outText]
    | fail k => simp [outText]
  | false =>
    obtain ⟨h1, _⟩ := hq.none hs
    rw [h1]
    have : (reg ⟨#[]⟩) = [] := by decide
    simp [outText, this]
theorem EvS.begin {t : List UInt8} (ht : t.length ≤ 1200) {n : Nat} {S : List Stp} (h : SpOk 0 n S (blocksAt 3 (linesL [] t))) {b bm : Nat} {v : Value} {B : Nat} {c : Array Value} {T : TypeId} {W : World} (hb : W.heap[b]? = some (.cells c T (0, 0))) (c3 : c[3]? = some v) (c4 : c[3 + 1]? = some (.int .i64 (0 : Nat))) (c5 : c[3 + 2]? = some (.map (some bm))) (hT : T ≠ 166 ∧ T ≠ 92) (hm : W.heap[bm]? = some (.map #[] 0)) (hv : W.ownsRow B 166 6 v S.length (stpCs S)) : EvS b 3 S S 0 W := by
  refine ⟨List.suffix_refl _, ⟨n, h.spans⟩, fun u x y hu => ?_, fun u x y hu => ?_, ⟨fun _ _ _ => rfl, fun _ => rfl, fun _ _ _ _ _ => Nat.zero_le _⟩, v, bm, #[], 0, c, T, ⟨hb, c3, c4, c5, hm⟩, hT, StpV.of_own hv, fun e he => ?_⟩
  · have := leaf_short h hu
    omega
  · have h1 := leaf_short h hu
    have h2 := (inlF_facts (u.length + 1)).1 u false
    show (inlineS u false).length ≤ _
    unfold inlineS
    omega
  · simp at he
set_option maxRecDepth 100000 in
set_option maxHeartbeats 2000000 in
theorem gather_fresh {w0 : World} {aL aI : Addr} {m : Int} (B : Base w0 aL aI m) {q : Gh} (hq : q.Ok) {bp bs : Nat} {O : Nat → Prop} {W : World} (hW : Below w0.heap.size w0 W) (hlow : ∀ x, O x → w0.heap.size ≤ x) (h : PaFresh q bp bs O W) :
    Calls Tryz.prog 67 #[.pointer (some ⟨bp, 0, none⟩)] W fun e w' => e = .returned (.tuple #[]) ∧ ∃ O', PaDone aL aI q bp bs (evq q) O' w' ∧ Fp O O' W w' := by
  obtain ⟨hbox, ⟨cv, s1, s2, s3⟩, ob, os, lt⟩ := h
  have hl := B.lt
  have lbp := hlow bp ob
  have lbs := hlow bs os
  have ltp := lt bp ob
  have lts := lt bs os
  have hne : bp ≠ bs := fun e => by
    have h1 : W.heap[bs]? = _ := s1
    rw [← e, hbox] at h1
    injection h1 with h1
    injection h1 with _ h1 _
    exact absurd h1 (by decide)
  obtain ⟨W1, hW1⟩ : ∃ W1, W.setCell ⟨bp, 1, none⟩ (.bool true) = W1 := ⟨_, rfl⟩
  have x1 : W1.heap[bp]? = some (.cells #[srcV q bs, .bool true, .nilIface, .slice none 0 0, .int .i64 0, .map none] 132 (0, 0)) := by rw [← hW1]; exact set_row hbox
  have z1 : W1.heap.size = W.heap.size := by rw [← hW1]; simp
  have f1 : ∀ x, x ≠ bp → W1.heap[x]? = W.heap[x]? := fun x hx => by rw [← hW1]; exact Below.heap_setCell _ _ _ _ hx
  have o1 : W1.os = W.os ∧ W1.tape = W.tape ∧ W1.output = W.output := by rw [← hW1]; exact ⟨rfl, rfl, rfl⟩
  have hW1b : Below w0.heap.size w0 W1 := by rw [← hW1]; exact hW.setCell (p := ⟨bp, 1, none⟩) lbp _
  have s1' : SrcAt bs q.tx cv q.fa q.wt 0 false W1 := (f1 bs (Ne.symm hne)).trans s1
  have s2' : CutsOK bs cv q.cs W1 := by
    obtain ⟨g, o, cap, hcv, a1, a2, a3, a4, a5⟩ := s2
    exact ⟨g, o, cap, hcv, a1, a2, a3, by omega, fun i c hi => (World.cell?_of_block (f1 g (s3 g o _ _ hcv).2) : W1.cell? ⟨g, o + i, none⟩ = W.cell? ⟨g, o + i, none⟩).trans (a5 i c hi)⟩
  have c1 := src_gather B hq bs W1 hW1b lbs cv s1' s2'
  have c2 : Calls Tryz.prog 77 #[srcV q bs] (W.setCell ⟨bp, 1, none⟩ (.bool true)) fun e w1 => ∃ v, e = .returned (.tuple #[.string (outText q.o), v]) ∧ w1.heap[bp]? = some (.cells #[srcV q bs, .bool true, .nilIface, .slice none 0 0, .int .i64 0, .map none] 132 (0, 0)) ∧ Hid (ErrAt aL aI q.o v (fun x => W1.heap.size ≤ x ∧ x < w1.heap.size) w1 ∧ (∃ tx' cv' ov', SrcAt bs tx' cv' q.fa q.wt q.n ov' w1) ∧ Kept bs W1 w1) := by
    rw [hW1]
    refine c1.mono ?_
    rintro e w1 ⟨⟨v, rfl, h1⟩, h2, h3⟩
    exact ⟨v, rfl, (h3.block bp (by omega) hne).trans x1, h1, h2, h3⟩
  have hts := outText_small hq
  have c3 : ∀ w1 v, w1.heap[bp]? = some (.cells #[srcV q bs, .bool true, .nilIface, .slice none 0 0, .int .i64 0, .map none] 132 (0, 0)) → Kept bs W1 w1 → Calls Tryz.prog 85 #[.string (outText q.o)] ((w1.setCell ⟨bp, 0, none⟩ .nilIface).setCell ⟨bp, 2, none⟩ v) fun e w2 => ∃ p ln cp bm, e = .returned (.agg #[.slice p ln cp, .int .i64 0, .map (some bm)]) ∧ w2.heap[bp]? = some (.cells #[.nilIface, .bool true, v, .slice none 0 0, .int .i64 0, .map none] 132 (0, 0)) ∧ Hid ((∃ S n, SpOk 0 n S (blocksAt 3 (linesL [] (outText q.o).data.toList)) ∧ w2.ownsRow w1.heap.size 166 6 (.slice p ln cp) S.length (stpCs S)) ∧ w2.heap[bm]? = some (.map #[] 0) ∧ w1.heap.size ≤ bm ∧ (∀ x, x < w1.heap.size → x ≠ bp → w2.heap[x]? = w1.heap[x]?) ∧ w1.heap.size ≤ w2.heap.size ∧ w2.os = w1.os ∧ w2.tape = w1.tape ∧ w2.output = w1.output) := by
    intro w1 v hb hk
    obtain ⟨W2, hW2⟩ : ∃ W2, (w1.setCell ⟨bp, 0, none⟩ .nilIface).setCell ⟨bp, 2, none⟩ v = W2 := ⟨_, rfl⟩
    have y1 : W2.heap[bp]? = some (.cells #[.nilIface, .bool true, v, .slice none 0 0, .int .i64 0, .map none] 132 (0, 0)) := by
      rw [← hW2]
      have h1 : (w1.setCell ⟨bp, 0, none⟩ .nilIface).heap[bp]? = some (.cells #[.nilIface, .bool true, .nilIface, .slice none 0 0, .int .i64 0, .map none] 132 (0, 0)) := set_row hb
      exact set_row h1
    have z2 : W2.heap.size = w1.heap.size := by rw [← hW2]; simp
    have f2 : ∀ x, x ≠ bp → W2.heap[x]? = w1.heap[x]? := fun x hx => by rw [← hW2, Below.heap_setCell _ _ _ _ hx, Below.heap_setCell _ _ _ _ hx]
    have o2 : W2.os = w1.os ∧ W2.tape = w1.tape ∧ W2.output = w1.output := by rw [← hW2]; exact ⟨rfl, rfl, rfl⟩
    have hk0 := hk.size
    have hmx : W2.cell? ⟨6, 0, none⟩ = some (.int .i64 m) := by
      have e1 : W2.heap[6]? = w0.heap[6]? := (f2 _ (by omega)).trans ((hk.block _ (by have := hW1b.size; omega) (by omega)).trans (hW1b.block _ hl.1))
      exact (World.cell?_of_block e1 : W2.cell? ⟨6, 0, none⟩ = w0.cell? ⟨6, 0, none⟩).trans B.max
    have hc := pOf_any (outText q.o).data.toList m W2 (by omega) hmx
    have et : (⟨(outText q.o).data.toList.toArray⟩ : ByteArray) = outText q.o := by simp
    rw [et] at hc
    rw [hW2]
    refine hc.mono ?_
    rintro e w2 ⟨u, bm, S, n, rfl, p1, p2, p3, p4, p5⟩
    rw [z2] at p2 p4
    obtain ⟨p, ln, cp, rfl⟩ : ∃ p ln cp, u = .slice p ln cp := by
      rcases Joins.ownsRow_forms p2 with ⟨h, _⟩ | ⟨g', cap', h⟩
      · exact ⟨_, _, _, h⟩
      · exact ⟨_, _, _, h⟩
    have := p5.size
    exact ⟨p, ln, cp, bm, rfl, (p5.block bp (by omega)).trans y1, ⟨S, n, p1, p2⟩, p3, p4, fun x hx hxb => (p5.block x (by omega)).trans (f2 x hxb), by omega, p5.os.trans o2.1, p5.tape.trans o2.2.1, p5.output.trans o2.2.2⟩
  obtain ⟨b0, b1, b2, b3, b4, b5⟩ := cells6 hbox
  have r1 := row_free (i := 1) hbox
  have FIN : Hid (∀ (w1 : World) (v : Value) (w2 : World) (p : Option Addr) (ln cp bm : Nat), (ErrAt aL aI q.o v (fun x => W1.heap.size ≤ x ∧ x < w1.heap.size) w1 ∧ (∃ tx' cv' ov', SrcAt bs tx' cv' q.fa q.wt q.n ov' w1) ∧ Kept bs W1 w1) → w2.heap[bp]? = some (.cells #[.nilIface, .bool true, v, .slice none 0 0, .int .i64 0, .map none] 132 (0, 0)) → ((∃ S n, SpOk 0 n S (blocksAt 3 (linesL [] (outText q.o).data.toList)) ∧ w2.ownsRow w1.heap.size 166 6 (.slice p ln cp) S.length (stpCs S)) ∧ w2.heap[bm]? = some (.map #[] 0) ∧ w1.heap.size ≤ bm ∧ (∀ x, x < w1.heap.size → x ≠ bp → w2.heap[x]? = w1.heap[x]?) ∧ w1.heap.size ≤ w2.heap.size ∧ w2.os = w1.os ∧ w2.tape = w1.tape ∧ w2.output = w1.output) →
      ∃ O', PaDone aL aI q bp bs (evq q) O' (((w2.setCell ⟨bp, 3, none⟩ (.slice p ln cp)).setCell ⟨bp, 4, none⟩ (.int .i64 0)).setCell ⟨bp, 5, none⟩ (.map (some bm))) ∧ Fp O O' W (((w2.setCell ⟨bp, 3, none⟩ (.slice p ln cp)).setCell ⟨bp, 4, none⟩ (.int .i64 0)).setCell ⟨bp, 5, none⟩ (.map (some bm)))) := by
    rintro w1 v w2 p ln cp bm ⟨g1, ⟨tx', cv', ov', g2⟩, g3⟩ hb ⟨⟨S, n, k1, k2⟩, k3, k4, k5, k6, k7, k8, k9⟩
    obtain ⟨X, hX⟩ : ∃ X, ((w2.setCell ⟨bp, 3, none⟩ (.slice p ln cp)).setCell ⟨bp, 4, none⟩ (.int .i64 0)).setCell ⟨bp, 5, none⟩ (.map (some bm)) = X := ⟨_, rfl⟩
    have y1 : X.heap[bp]? = some (.cells #[.nilIface, .bool true, v, .slice p ln cp, .int .i64 0, .map (some bm)] 132 (0, 0)) := by
      rw [← hX]
      have h1 : (w2.setCell ⟨bp, 3, none⟩ (.slice p ln cp)).heap[bp]? = some (.cells #[.nilIface, .bool true, v, .slice p ln cp, .int .i64 0, .map none] 132 (0, 0)) := set_row hb
      have h2 : ((w2.setCell ⟨bp, 3, none⟩ (.slice p ln cp)).setCell ⟨bp, 4, none⟩ (.int .i64 0)).heap[bp]? = some (.cells #[.nilIface, .bool true, v, .slice p ln cp, .int .i64 0, .map none] 132 (0, 0)) := set_row h1
      exact set_row h2
    have zX : X.heap.size = w2.heap.size := by rw [← hX]; simp
    have fX : ∀ x, x ≠ bp → X.heap[x]? = w2.heap[x]? := fun x hx => by rw [← hX, Below.heap_setCell _ _ _ _ hx, Below.heap_setCell _ _ _ _ hx, Below.heap_setCell _ _ _ _ hx]
    have oX : X.os = w2.os ∧ X.tape = w2.tape ∧ X.output = w2.output := by rw [← hX]; exact ⟨rfl, rfl, rfl⟩
    have g4 := g3.size
    rw [hX]
    have kX : X.ownsRow w1.heap.size 166 6 (.slice p ln cp) S.length (stpCs S) := by
      rw [← hX]
      exact ownsRow_setCell_below (ownsRow_setCell_below (ownsRow_setCell_below k2 (by show bp < _; omega) _) (by show bp < _; omega) _) (by show bp < _; omega) _
    have hst : EvS bp 3 S S 0 X := EvS.begin hts k1 y1 rfl rfl rfl ⟨by decide, by decide⟩ ((fX bm (by omega)).trans k3) kX
    have fr : ∀ x, x < w1.heap.size → x ≠ bp → X.heap[x]? = w1.heap[x]? := fun x hx hxb => (fX x hxb).trans (k5 x hx hxb)
    refine ⟨fun x => O x ∨ (W.heap.size ≤ x ∧ x < X.heap.size), ⟨⟨S, S, 0, hst, rem_events k1⟩, ⟨_, v, y1, rfl, rfl, rfl, (g1.keep (w' := X) fun x hx => fr x hx.2 (by omega)).mono fun x hx => Or.inr ⟨by omega, by omega⟩⟩, ⟨tx', cv', ov', (fr bs (by omega) (Ne.symm hne)).trans g2⟩, fun x hx => ?_, Or.inl os, fun x hx => ?_⟩, ⟨?_, ?_, ?_, by omega, fun x hx ho => ?_, fun x hx => hx.imp id And.left⟩⟩
    · have hxl := hst.lt hx
      rcases hx with rfl | ⟨d, U, q1, q2⟩
      · exact Or.inl ob
      · rw [y1] at q1
        injection q1 with q1
        injection q1 with q1 _
        subst q1
        rcases q2 with ⟨u, q3, q4⟩ | ⟨bm', q3, q4⟩
        · have q3 : some (Value.slice p ln cp) = some u := q3
          injection q3 with q3
          subst q3
          have := (kX.lt x q4).1
          exact Or.inr ⟨by omega, hxl⟩
        · have q3 : some (Value.map (some bm)) = some (.map (some bm')) := q3
          injection q3 with q3
          injection q3 with q3
          injection q3 with q3
          subst q3
          rcases q4 with rfl | ⟨es, cl, e, q5, q6, q7⟩
          · exact Or.inr ⟨by omega, hxl⟩
          · rw [(fX bm (by omega)).trans k3] at q5
            injection q5 with q5
            injection q5 with q5 _
            subst q5
            simp at q6
    · rcases hx with hx | hx
      · have := lt x hx
        omega
      · exact hx.2
    · exact oX.1.trans (k7.trans (g3.os.trans o1.1))
    · exact oX.2.1.trans (k8.trans (g3.tape.trans o1.2.1))
    · exact oX.2.2.trans (k9.trans (g3.output.trans o1.2.2))
    · have n1 : x ≠ bp := fun e => ho (e ▸ ob)
      have n2 : x ≠ bs := fun e => ho (e ▸ os)
      exact (fr x (by omega) n1).trans ((g3.block x (by omega) n2).trans (f1 x n1))
  obtain ⟨m0, m1, m2, m3, m4, m5⟩ := cells6 x1
  rw [hW1] at c2
  clear s1 s2 s3 s1' s2' c1 x1 f1 o1 hW1b hlow lt hq hW hl hts hbox
  generalize srcV q bs = sv at *
  generalize outText q.o = ot at *
  go_enter Tryz.func67, Tryz.ntmps67
  go_wp2_with (first
    | (go_at_call 77; refine c2.mono ?_; rintro e w1 ⟨v, rfl, hb, HF⟩; obtain ⟨d0, d1, d2, d3, d4, d5⟩ := cells6 hb; have r0 := row_free (i := 0) hb; have r2 := row_free (i := 2) hb; have c4 := c3 w1 v hb HF.out.2.2; rcases ErrAt.forms HF.out.1 with rfl | ⟨tt, a, rfl⟩)
    | (go_at_call 85; refine c4.mono ?_; rintro e w2 ⟨p, ln, cp, bm, rfl, hb2, HG⟩; obtain ⟨e0, e1, e2, e3, e4, e5⟩ := cells6 hb2; have t3 := row_free (i := 3) hb2; have t4 := row_free (i := 4) hb2; have t5 := row_free (i := 5) hb2))
  all_goals
    go_end0
    exact ⟨rfl, FIN.out w1 _ w2 p ln cp bm HF.out hb2 HG.out⟩
end Go.Proofs.YtljcljipppjnoaaGreatDoor

namespace Go.Proofs.YtljcljipppjnoaaGreatDoor
open Go.RowKit Go.Shelf
set_option maxRecDepth 100000 in
set_option maxHeartbeats 1000000 in
theorem gather_any {w0 : World} {aL aI : Addr} {m : Int} (B : Base w0 aL aI m) {q : Gh} (hq : q.Ok) {bp bs : Nat} {st : Option (List Ev)} {O : Nat → Prop} {W : World} (hW : Below w0.heap.size w0 W) (hlow : ∀ x, O x → w0.heap.size ≤ x) (h : PaAt aL aI q bp bs st O W) :
    Calls Tryz.prog 67 #[.pointer (some ⟨bp, 0, none⟩)] W fun e w' => e = .returned (.tuple #[]) ∧ ∃ O', PaDone aL aI q bp bs (leftOf q st) O' w' ∧ Fp O O' W w' := by
  cases st with
  | none => exact gather_fresh B hq hW hlow h
  | some rem =>
    have h' : PaDone aL aI q bp bs rem O W := h
    obtain ⟨c, ev, hb, c0, c1, c2, _⟩ := h'.box
    have g1 := row_cell hb c1
    have H : Hid (PaDone aL aI q bp bs rem O W) := h'
    clear h h' hb c0 c1 c2
    go_enter Tryz.func67, Tryz.ntmps67
    go_wp2
    refine bodyPost_ret (results_none rfl _ _ _) rfl ?_
    exact ⟨rfl, O, H.out, Fp.refl O W⟩
def pulled (l : List Ev) : Ev × Bool × List Ev :=
  match l with
  | [] => (⟨0, false, 0, []⟩, false, [])
  | e :: r => (e, true, r)
theorem next_done {w0 : World} {aL aI : Addr} {m : Int} (B : Base w0 aL aI m) {q : Gh} {bp bs : Nat} {rem : List Ev} {O : Nat → Prop} {W : World} (hW : Below w0.heap.size w0 W) (hlow : ∀ x, O x → w0.heap.size ≤ x) (h : PaDone aL aI q bp bs rem O W) :
    Calls Tryz.prog 68 #[.pointer (some ⟨bp, 3, none⟩)] W fun e w' => e = .returned (.tuple #[evV (pulled rem).1, .bool (pulled rem).2.1]) ∧ ∃ O', PaDone aL aI q bp bs (pulled rem).2.2 O' w' ∧ Fp O O' W w' := by
  obtain ⟨⟨S0, S, k, hst, hrem⟩, ⟨c, ev, b1, b2, b3, b4, b5⟩, ⟨tx', cv', ov', s1⟩, h4, h5, h6⟩ := h
  have hl := B.lt
  have hmo : ¬ EvOwn bp 3 W 6 := fun ho => by
    have := hlow _ (h4 _ ho)
    omega
  refine (next_any bp 3 S0 S k m W hst hmo (B.to hW).max).mono ?_
  rintro e w' ⟨ev', ok, S', k', rfl, e1, e2, e3, e4⟩
  obtain ⟨c', d1, d2, d3⟩ := e3 c _ b1
  have hsrc : ¬ EvOwn bp 3 W bs := hst.off b1 s1 ⟨by decide, by decide, by decide⟩
  have herr : ErrAt aL aI q.o ev (fun x => O x ∨ EvOwn bp 3 w' x) w' := by
    cases ho : q.o with
    | fine s => rw [ho] at b5; exact b5
    | long => rw [ho] at b5; exact b5
    | idle => rw [ho] at b5; exact b5
    | fail n =>
      rw [ho] at b5
      obtain ⟨gE, gO, x1, x2, x3⟩ := b5
      exact ⟨gE, gO, x1, Or.inl x2, (e2.block gE (h6 gE x2) (hst.off b1 x3 ⟨by decide, by decide, by decide⟩)).trans x3⟩
  have hans : ev' = (pulled rem).1 ∧ ok = (pulled rem).2.1 ∧ remS S' k' = (pulled rem).2.2 := by
    rw [← hrem]
    rcases e4 with ⟨r1, r2⟩ | ⟨r1, r2, r3, r4⟩
    · rw [r2]
      exact ⟨rfl, r1, rfl⟩
    · rw [r3]
      exact ⟨r2, r1, r4⟩
  obtain ⟨a1, a2, a3⟩ := hans
  rw [a1, a2]
  refine ⟨rfl, fun x => O x ∨ EvOwn bp 3 w' x, ⟨⟨S0, S', k', e1, a3⟩, ⟨c', ev, d1, (d3 0 (by decide) (by decide)).trans b2, (d3 1 (by decide) (by decide)).trans b3, (d3 2 (by decide) (by decide)).trans b4, herr⟩, ⟨tx', cv', ov', (e2.block bs (h6 bs h5) hsrc).trans s1⟩, fun x hx => Or.inr hx, Or.inl h5, fun x hx => ?_⟩, ⟨e2.os, e2.tape, e2.output, e2.size, fun x hx ho => e2.block x hx fun hh => ho (h4 x hh), fun x hx => ?_⟩⟩
  · rcases hx with hx | hx
    · exact Nat.lt_of_lt_of_le (h6 x hx) e2.size
    · exact e1.lt hx
  · rcases hx with hx | hx
    · exact Or.inl hx
    · rcases Nat.lt_or_ge x W.heap.size with hl | hl
      · exact Or.inl (h4 x (e2.own x hl hx))
      · exact Or.inr hl
theorem PaDone.keep {aL aI : Addr} {q : Gh} {bp bs : Nat} {rem : List Ev} {O : Nat → Prop} {W w' : World} (h : PaDone aL aI q bp bs rem O W) (hk : ∀ x, O x → w'.heap[x]? = W.heap[x]?) (hz : W.heap.size ≤ w'.heap.size) : PaDone aL aI q bp bs rem O w' := PaAt.keep (st := some rem) h hk hz
set_option maxRecDepth 100000 in
set_option maxHeartbeats 1000000 in
theorem pnext_any {w0 : World} {aL aI : Addr} {m : Int} (B : Base w0 aL aI m) {q : Gh} (hq : q.Ok) {bp bs : Nat} {st : Option (List Ev)} {O : Nat → Prop} {W : World} (hW : Below w0.heap.size w0 W) (hlow : ∀ x, O x → w0.heap.size ≤ x) (h : PaAt aL aI q bp bs st O W) :
    Calls Tryz.prog 47 #[.pointer (some ⟨bp, 0, none⟩)] W fun e w' => e = .returned (.tuple #[evV (pulled (leftOf q st)).1, .bool (pulled (leftOf q st)).2.1]) ∧ ∃ O', PaDone aL aI q bp bs (pulled (leftOf q st)).2.2 O' w' ∧ Fp O O' W w' := by
  obtain ⟨W1, hW1⟩ : ∃ W1, W.alloc (.cells #[.int .i64 0, .bool false, .int .i64 0, .string ⟨#[]⟩] 92) = W1 := ⟨_, rfl⟩
  have hb1 : Below W.heap.size W W1 := by rw [← hW1]; exact (Below.refl _ W).alloc (Nat.le_refl _) _
  have z1 : W1.heap.size = W.heap.size + 1 := by rw [← hW1]; simp
  have x1 : W1.heap[W.heap.size]? = some (.cells #[.int .i64 0, .bool false, .int .i64 0, .string ⟨#[]⟩] 92 (0, 0)) := by rw [← hW1]; exact heap_alloc_new W _
  have hWz := hW.size
  have hw1 : Below w0.heap.size w0 W1 := hW.trans (hb1.mono hWz)
  have c1 := gather_any B hq hw1 hlow (h.below hb1)
  have hlt := h.lt
  generalize leftOf q st = rem at c1 ⊢
  have c2 : ∀ O1 w1, PaDone aL aI q bp bs rem O1 w1 → Fp O O1 W1 w1 → Calls Tryz.prog 68 #[.pointer (some ⟨bp, 3, none⟩)] w1 fun e w2 => e = .returned (.tuple #[evV (pulled rem).1, .bool (pulled rem).2.1]) ∧ w2.heap[W.heap.size]? = some (.cells #[.int .i64 0, .bool false, .int .i64 0, .string ⟨#[]⟩] 92 (0, 0)) ∧ Hid (∃ O', PaDone aL aI q bp bs (pulled rem).2.2 O' w2 ∧ Fp O O' W w2 ∧ ¬ O' W.heap.size) := by
    intro O1 w1 hd hf
    refine (next_done B (hw1.trans (hf.under hw1.size hlow)) (hf.low hw1.size hlow) hd).mono ?_
    rintro e w2 ⟨rfl, O2, hd2, hf2⟩
    have hf3 := hf.trans hf2
    refine ⟨rfl, (hf3.block _ (by omega) fun ho => ?_).trans x1, O2, hd2, (Fp.below (O := O) hb1).trans hf3, fun ho => ?_⟩
    · have := hlt _ ho
      omega
    · rcases hf3.grow _ ho with h1 | h1
      · have := hlt _ h1
        omega
      · omega
  clear h hlow hlt hW hWz hw1 B hb1 x1 z1
  rw [← hW1] at c1 c2
  clear hW1
  generalize pulled rem = pr at c2 ⊢
  obtain ⟨⟨ek, ef, el, et⟩, ok, rr⟩ := pr
  unfold evV at c2 ⊢
  simp only at c2 ⊢
  go_enter Tryz.func47, Tryz.ntmps47
  go_wp2_with (go_at_call 67; refine c1.mono ?_; rintro e w1 ⟨rfl, O1, hd, hf⟩)
  have c3 := c2 O1 w1 hd hf
  clear c1 c2 hd hf
  go_wp2_with (go_at_call 68; refine c3.mono ?_; rintro e w2 ⟨rfl, hres, HF⟩; obtain ⟨s0, s1, s2, s3⟩ := cells4 hres; have g0 := row_free (i := 0) hres; have g1 := row_free (i := 1) hres; have g2 := row_free (i := 2) hres; have g3 := row_free (i := 3) hres; have HR : Hid _ := hres; clear hres)
  obtain ⟨q1, q2, q3⟩ := four_set (x' := .int .i64 ek) (y' := .bool ef) (z' := .int .i64 el) (u' := .string ⟨et.toArray⟩) HR.out
  obtain ⟨p0, p1, p2, p3⟩ := cells4 q1
  obtain ⟨O2, hd, hf, hno⟩ := HF.out
  refine bodyPost_ret (v := .tuple #[.agg #[.int .i64 ek, .bool ef, .int .i64 el, .string ⟨et.toArray⟩], .bool ok]) (by simp [results, Tryz.results47, go_sem, p0, p1, p2, p3]) rfl ⟨rfl, O2, hd.keep (fun x hx => q2 x fun e => hno (e ▸ hx)) (by omega), hf.past (Nat.le_refl _) q2 q3 rfl rfl rfl⟩
set_option maxRecDepth 100000 in
set_option maxHeartbeats 1000000 in
theorem perr_any {w0 : World} {aL aI : Addr} {m : Int} (B : Base w0 aL aI m) {q : Gh} (hq : q.Ok) {bp bs : Nat} {st : Option (List Ev)} {O : Nat → Prop} {W : World} (hW : Below w0.heap.size w0 W) (hlow : ∀ x, O x → w0.heap.size ≤ x) (h : PaAt aL aI q bp bs st O W) :
    Calls Tryz.prog 50 #[.pointer (some ⟨bp, 0, none⟩)] W fun e w' => ∃ O' v, e = .returned v ∧ ErrAt aL aI q.o v O' w' ∧ PaDone aL aI q bp bs (leftOf q st) O' w' ∧ Fp O O' W w' := by
  have c1 := gather_any B hq hW hlow h
  have c2 : Calls Tryz.prog 67 #[.pointer (some ⟨bp, 0, none⟩)] W fun e w' => e = .returned (.tuple #[]) ∧ ∃ v, w'.cell? ⟨bp, 2, none⟩ = some v ∧ Hid (∃ O', ErrAt aL aI q.o v O' w' ∧ PaDone aL aI q bp bs (leftOf q st) O' w' ∧ Fp O O' W w') := by
    refine c1.mono ?_
    rintro e w' ⟨rfl, O', hd, hf⟩
    obtain ⟨c, ev, b1, b2, b3, b4, b5⟩ := hd.box
    exact ⟨rfl, ev, row_cell b1 b4, O', b5, hd, hf⟩
  clear c1 h hlow hW B hq
  go_enter Tryz.func50, Tryz.ntmps50
  go_wp2_with (go_at_call 67; refine c2.mono ?_; rintro e w1 ⟨rfl, v, hv, HF⟩)
  go_ret
  obtain ⟨O', h1, h2, h3⟩ := HF.out
  exact ⟨O', v, rfl, h1, h2, h3⟩
end Go.Proofs.YtljcljipppjnoaaGreatDoor

namespace Go.Proofs.YtljcljipppjnoaaGreatDoor
open Go.RowKit Go.Shelf
def AllAt (aL aI : Addr) (q : Gh) (bp bs br bt bl bn : Nat) (n : Int) (O OY : Nat → Prop) (W : World) (all : List Ev) (st : Option (List Ev)) (acc pend : List Ev) (sp : Bool) (wr : World) : Prop :=
  ∃ O1 OY1, PaAt aL aI q bp bs st O1 wr ∧ YAt br bt bl bn acc sp n OY1 wr ∧ (∀ x, O1 x → ¬ OY1 x) ∧ Fp (fun x => O x ∨ OY x) (fun x => O1 x ∨ OY1 x) W wr ∧ acc ++ (pend ++ leftOf q st) = all
theorem AllAt.below {aL aI : Addr} {q : Gh} {bp bs br bt bl bn : Nat} {n : Int} {O OY : Nat → Prop} {W : World} {all : List Ev} {st : Option (List Ev)} {acc pend : List Ev} {sp : Bool} {wr w' : World} (h : AllAt aL aI q bp bs br bt bl bn n O OY W all st acc pend sp wr) (hb : Below wr.heap.size wr w') : AllAt aL aI q bp bs br bt bl bn n O OY W all st acc pend sp w' := by
  obtain ⟨O1, OY1, h1, h2, h3, h4, h5⟩ := h
  exact ⟨O1, OY1, h1.below hb, h2.keep (fun x hx => hb.block x (h2.lt x hx)) hb.size, h3, h4.trans (Fp.below hb), h5⟩
theorem Fp.left {O O' P : Nat → Prop} {W w' : World} (h : Fp O O' W w') : Fp (fun x => O x ∨ P x) (fun x => O' x ∨ P x) W w' :=
  ⟨h.os, h.tape, h.output, h.size, fun b hb ho => h.block b hb fun h1 => ho (Or.inl h1), fun b ho => by
    rcases ho with ho | ho
    · exact (h.grow b ho).imp Or.inl id
    · exact Or.inl (Or.inr ho)⟩
theorem Fp.right {O O' P : Nat → Prop} {W w' : World} (h : Fp O O' W w') : Fp (fun x => P x ∨ O x) (fun x => P x ∨ O' x) W w' :=
  ⟨h.os, h.tape, h.output, h.size, fun b hb ho => h.block b hb fun h1 => ho (Or.inr h1), fun b ho => by
    rcases ho with ho | ho
    · exact Or.inl (Or.inl ho)
    · exact (h.grow b ho).imp Or.inr id⟩
theorem AllAt.next {w0 : World} {aL aI : Addr} {m : Int} (B : Base w0 aL aI m) {q : Gh} (hq : q.Ok) {bp bs br bt bl bn : Nat} {n : Int} {O OY : Nat → Prop} {W : World} (hW : Below w0.heap.size w0 W) (hlow : ∀ x, (O x ∨ OY x) → w0.heap.size ≤ x) {all : List Ev} {st : Option (List Ev)} {acc : List Ev} {wr : World} (h : AllAt aL aI q bp bs br bt bl bn n O OY W all st acc [] false wr) :
    Calls Tryz.prog 47 #[.pointer (some ⟨bp, 0, none⟩)] wr fun e w' => (leftOf q st = [] ∧ e = .returned (.tuple #[evV ⟨0, false, 0, []⟩, .bool false]) ∧ AllAt aL aI q bp bs br bt bl bn n O OY W all (some []) acc [] false w') ∨ ∃ ev r, leftOf q st = ev :: r ∧ e = .returned (.tuple #[evV ev, .bool true]) ∧ AllAt aL aI q bp bs br bt bl bn n O OY W all (some r) acc [ev] false w' := by
  obtain ⟨O1, OY1, h1, h2, h3, h4, h5⟩ := h
  have hb := hW.trans (h4.under hW.size hlow)
  have hl := h4.low hW.size hlow
  refine (pnext_any B hq hb (fun x hx => hl x (Or.inl hx)) h1).mono ?_
  rintro e w' ⟨rfl, O2, hd, hf⟩
  have y := h2.keep (hf.other h3 h2.lt) hf.size
  have ap := hf.apart h3 h2.lt
  have fp := h4.trans hf.left
  cases hs : leftOf q st with
  | nil =>
    rw [hs] at hd h5
    exact Or.inl ⟨rfl, rfl, O2, OY1, hd, y, ap, fp, h5⟩
  | cons ev r =>
    rw [hs] at hd h5
    exact Or.inr ⟨ev, r, rfl, rfl, O2, OY1, hd, y, ap, fp, h5⟩
theorem AllAt.yield {aL aI : Addr} {q : Gh} {bp bs br bt bl bn : Nat} {n : Int} {O OY : Nat → Prop} {W : World} {all : List Ev} {st : Option (List Ev)} {acc : List Ev} {ev : Ev} {wr : World} (h : AllAt aL aI q bp bs br bt bl bn n O OY W all st acc [ev] false wr) (hlen : acc.length < 5000) :
    Calls Tryz.prog 72 #[evV ev, .pointer (some ⟨br, 0, none⟩), .pointer (some ⟨bt, 0, none⟩), .pointer (some ⟨bl, 0, none⟩), .pointer (some ⟨bn, 0, none⟩)] wr fun e w' => e = .returned (.bool (!decide ((acc.length : Int) + 1 = n))) ∧ AllAt aL aI q bp bs br bt bl bn n O OY W all st (acc ++ [ev]) [] (decide ((acc.length : Int) + 1 = n)) w' := by
  obtain ⟨O1, OY1, h1, h2, h3, h4, h5⟩ := h
  refine (yield_any br bt bl bn acc ev n OY1 wr h2 hlen).mono ?_
  rintro e w' ⟨rfl, OY2, hy, hf⟩
  have h3' : ∀ x, OY1 x → ¬ O1 x := fun x a b => h3 x b a
  have y := h1.keep (hf.other h3' h1.lt) hf.size
  have ap := hf.apart h3' h1.lt
  exact ⟨rfl, O1, OY2, y, hy, fun x a b => ap x b a, h4.trans hf.right, by rw [List.append_assoc]; exact h5⟩
theorem evq_len {q : Gh} (hq : q.Ok) : (evq q).length ≤ 4804 := by
  have h1 := outText_small hq
  have h2 := events_len (outText q.o).data.toList
  unfold evq
  omega
def yieldV (br bt bl bn : Nat) : Value := .func (.func 72) #[] #[.pointer (some ⟨br, 0, none⟩), .pointer (some ⟨bt, 0, none⟩), .pointer (some ⟨bl, 0, none⟩), .pointer (some ⟨bn, 0, none⟩)]
set_option maxRecDepth 100000 in
set_option maxHeartbeats 2000000 in
theorem all_walk {w0 : World} {aL aI : Addr} {m : Int} (B : Base w0 aL aI m) {q : Gh} (hq : q.Ok) {bp bs br bt bl bn bb : Nat} {n : Int} {O OY : Nat → Prop} {W : World} (hW : Below w0.heap.size w0 W) (hlow : ∀ x, (O x ∨ OY x) → w0.heap.size ≤ x) {all : List Ev} {st : Option (List Ev)} (hall : all.length ≤ 4999) (h : AllAt aL aI q bp bs br bt bl bn n O OY W all st [] [] false W)
    (hbb : W.heap[bb]? = some (.cells #[.pointer (some ⟨bp, 0, none⟩)] 86 (0, 0))) (hno : ¬ (O bb ∨ OY bb)) :
    Calls Tryz.prog 93 #[yieldV br bt bl bn, .pointer (some ⟨bb, 0, none⟩)] W fun e w' => e = .returned (.tuple #[]) ∧ ∃ acc r sp, AllAt aL aI q bp bs br bt bl bn n O OY W all (some r) acc [] sp w' ∧ ((r = [] ∧ (n < 1 ∨ (acc.length : Int) < n)) ∨ ((acc.length : Int) = n ∧ 1 ≤ n)) := by
  have hlt := lt_of_block hbb
  have key : ∀ st acc pend sp wr, AllAt aL aI q bp bs br bt bl bn n O OY W all st acc pend sp wr → wr.cell? ⟨bb, 0, none⟩ = some (.pointer (some ⟨bp, 0, none⟩)) := fun st acc pend sp wr ⟨O1, OY1, h1, h2, h3, h4, h5⟩ => cell_of_one ((h4.block bb hlt hno).trans hbb)
  have cN := fun st acc wr (h : AllAt aL aI q bp bs br bt bl bn n O OY W all st acc [] false wr) => AllAt.next B hq hW hlow h
  have cY := fun st acc ev wr (h : AllAt aL aI q bp bs br bt bl bn n O OY W all st acc [ev] false wr) (hl : acc.length < 5000) => AllAt.yield h hl
  have ey := enters_of Tryz.func72 (by kernel_rfl) rfl
  have hl : ∀ st acc pend sp wr, AllAt aL aI q bp bs br bt bl bn n O OY W all st acc pend sp wr → acc.length + (pend.length + (leftOf q st).length) = all.length := fun st acc pend sp wr ⟨O1, OY1, h1, h2, h3, h4, h5⟩ => by rw [← h5]; simp
  have H0 : Hid (AllAt aL aI q bp bs br bt bl bn n O OY W all st [] [] false W) := h
  have KEY : Hid _ := key
  have CN : Hid _ := cN
  have CY : Hid _ := cY
  have HL : Hid _ := hl
  unfold yieldV
  clear h hbb hno B hq hW hlow key cN cY hl hlt
  go_enter Tryz.func93, Tryz.ntmps93
  go_wp2
  go_loopg [] ((leftOf q st).length + 1) (fun gk wr => ∃ (st1 : Option (List Ev)) (acc : List Ev), (leftOf q st1).length < gk ∧ Hid (AllAt aL aI q bp bs br bt bl bn n O OY W all st1 acc [] false wr) ∧ Hid (n < 1 ∨ (acc.length : Int) < n))
  case atStart =>
    refine ⟨st, [], Nat.lt_succ_self _, H0, ?_⟩
    show n < 1 ∨ _
    simp
    omega
  case round =>
    obtain ⟨st1, acc, hgk, HA, HN⟩ := hrel
    have kc := KEY.out _ _ _ _ _ HA.out
    have hacc : acc.length < 5000 := by have := HL.out _ _ _ _ _ HA.out; omega
    cases hs : leftOf q st1 with
    | nil =>
      have c1 : Calls Tryz.prog 47 #[.pointer (some ⟨bp, 0, none⟩)] wr fun e w' => e = .returned (.tuple #[.agg #[.int .i64 0, .bool false, .int .i64 0, .string ⟨#[]⟩], .bool false]) ∧ Hid (AllAt aL aI q bp bs br bt bl bn n O OY W all (some []) acc [] false w') := by
        refine (CN.out _ _ _ HA.out).mono ?_
        rintro e w' (⟨h1, rfl, h3⟩ | ⟨ev, r, h1, _, _⟩)
        · exact ⟨rfl, h3⟩
        · rw [hs] at h1; cases h1
      go_wp2_with (go_at_call 47; refine c1.mono ?_; rintro e w1 ⟨rfl, HF⟩)
      refine bodyPost_ret (results_none rfl _ _ _) rfl ?_
      exact ⟨rfl, acc, [], false, HF.out.below ((Below.refl _ w1).alloc (Nat.le_refl _) _), Or.inl ⟨rfl, HN.out⟩⟩
    | cons ev r =>
      have c1 : Calls Tryz.prog 47 #[.pointer (some ⟨bp, 0, none⟩)] wr fun e w' => e = .returned (.tuple #[.agg #[.int .i64 ev.kind, .bool ev.fin, .int .i64 ev.level, .string ⟨ev.text.toArray⟩], .bool true]) ∧ Hid (AllAt aL aI q bp bs br bt bl bn n O OY W all (some r) acc [ev] false w') := by
        refine (CN.out _ _ _ HA.out).mono ?_
        rintro e w' (⟨h1, _, _⟩ | ⟨ev', r', h1, rfl, h3⟩)
        · rw [hs] at h1; cases h1
        · rw [hs] at h1
          injection h1 with h1 h2
          subst h1
          subst h2
          exact ⟨rfl, h3⟩
      have c2 := fun w1 w2 (h : AllAt aL aI q bp bs br bt bl bn n O OY W all (some r) acc [ev] false w1) (hb : Below w1.heap.size w1 w2) => CY.out (some r) acc ev w2 (h.below hb) hacc
      unfold evV at c2
      rw [hs, List.length_cons] at hgk
      obtain ⟨sp, hsp⟩ : ∃ sp, decide ((acc.length : Int) + 1 = n) = sp := ⟨_, rfl⟩
      rw [hsp] at c2
      have C2 : Hid _ := c2
      have HS : Hid (decide ((acc.length : Int) + 1 = n) = sp) := hsp
      clear c2 hsp hs HA
      cases sp with
      | true =>
        go_wp2_with (first
          | (go_at_call 47; refine c1.mono ?_; rintro e w1 ⟨rfl, HF⟩)
          | (go_at_call 72; refine (C2.out w1 _ HF.out ((Below.refl _ w1).alloc (Nat.le_refl _) _)).mono ?_; rintro e w2 ⟨rfl, HG⟩))
        refine bodyPost_ret (results_none rfl _ _ _) rfl ?_
        exact ⟨rfl, acc ++ [ev], r, true, HG, Or.inr (by have := of_decide_eq_true HS.out; rw [List.length_append, List.length_singleton]; omega)⟩
      | false =>
        go_wp2_with (first
          | (go_at_call 47; refine c1.mono ?_; rintro e w1 ⟨rfl, HF⟩)
          | (go_at_call 72; refine (C2.out w1 _ HF.out ((Below.refl _ w1).alloc (Nat.le_refl _) _)).mono ?_; rintro e w2 ⟨rfl, HG0⟩; have HG : Hid _ := HG0; clear HG0))
        go_roundg (r.length + 1)
        case measure => omega
        case rel => exact ⟨some r, acc ++ [ev], Nat.lt_succ_self _, HG, by
          have := of_decide_eq_false HS.out
          have h2 := HN.out
          show n < 1 ∨ _
          simp
          omega⟩
end Go.Proofs.YtljcljipppjnoaaGreatDoor

namespace Go.Proofs.YtljcljipppjnoaaGreatDoor
open Go.RowKit Go.Shelf
def QAt (aL aI : Addr) (q : Gh) (bq : Nat) (st : Option (List Ev)) (O : Nat → Prop) (W : World) : Prop :=
  ∃ bp bs O1, W.heap[bq]? = some (.cells #[.pointer (some ⟨bp, 0, none⟩), .pointer (some ⟨bs, 0, none⟩)] 88 (0, 0)) ∧ PaAt aL aI q bp bs st O1 W ∧ ¬ O1 bq ∧ O = fun x => O1 x ∨ x = bq
theorem QAt.lt {aL aI : Addr} {q : Gh} {bq : Nat} {st : Option (List Ev)} {O : Nat → Prop} {W : World} (h : QAt aL aI q bq st O W) : ∀ x, O x → x < W.heap.size := by
  obtain ⟨bp, bs, O1, h1, h2, h3, rfl⟩ := h
  intro x hx
  rcases hx with hx | rfl
  · exact h2.lt x hx
  · exact lt_of_block h1
theorem QAt.keep {aL aI : Addr} {q : Gh} {bq : Nat} {st : Option (List Ev)} {O : Nat → Prop} {W w' : World} (h : QAt aL aI q bq st O W) (hk : ∀ x, O x → w'.heap[x]? = W.heap[x]?) (hz : W.heap.size ≤ w'.heap.size) : QAt aL aI q bq st O w' := by
  obtain ⟨bp, bs, O1, h1, h2, h3, rfl⟩ := h
  exact ⟨bp, bs, O1, (hk bq (Or.inr rfl)).trans h1, h2.keep (fun x hx => hk x (Or.inl hx)) hz, h3, rfl⟩
theorem Fp.beside {O O' : Nat → Prop} {W w' : World} (h : Fp O O' W w') {b : Nat} (hb : b < W.heap.size) (hn : ¬ O b) : Fp (fun x => O x ∨ x = b) (fun x => O' x ∨ x = b) W w' ∧ ¬ O' b ∧ w'.heap[b]? = W.heap[b]? :=
  ⟨h.left, fun ho => by
    rcases h.grow b ho with h1 | h1
    · exact hn h1
    · omega, h.block b hb hn⟩
set_option maxRecDepth 100000 in
set_option maxHeartbeats 1000000 in
theorem new_any (v : Value) (hv : v = .nilIface ∨ ∃ t a, v = .iface t (.pointer (some a))) (W : World) :
    Calls Tryz.prog 46 #[v] W fun e w' => e = .returned (.pointer (some ⟨W.heap.size, 0, none⟩)) ∧ w' = W.alloc (.cells #[v, .bool false, .nilIface, .slice none 0 0, .int .i64 0, .map none] 132) := by
  rcases hv with rfl | ⟨t, a, rfl⟩
  · go_enter Tryz.func46, Tryz.ntmps46
    go_wp2
    go_ret
    exact ⟨rfl, rfl⟩
  · go_enter Tryz.func46, Tryz.ntmps46
    go_wp2
    go_ret
    exact ⟨rfl, rfl⟩
set_option maxRecDepth 100000 in
set_option maxHeartbeats 2000000 in
theorem qnew_any (aL aI : Addr) (q : Gh) (cv0 : Value) (W : World) (h : NumsAt cv0 q.cs W) (hl : q.cs.length ≤ 1048576) :
    Calls Tryz.prog 18 #[.agg #[.string q.tx, cv0, .int .i64 q.fa, .bool q.wt], .bool (!q.src)] W fun e w' => ∃ bq O, e = .returned (.pointer (some ⟨bq, 0, none⟩)) ∧ QAt aL aI q bq none O w' ∧ (∀ x, O x → W.heap.size ≤ x) ∧ Below W.heap.size W w' := by
  obtain ⟨ca, n0, cp, hcv⟩ : ∃ ca n0 cp, cv0 = .slice ca n0 cp := by
    rcases h with ⟨_, ca, cap, rfl⟩ | ⟨g, o, cap, rfl, _⟩
    · exact ⟨_, _, _, rfl⟩
    · exact ⟨_, _, _, rfl⟩
  subst hcv
  obtain ⟨W1, hW1⟩ : ∃ W1, W.alloc (.cells #[.string q.tx, .slice ca n0 cp, .int .i64 q.fa, .bool q.wt] 33) = W1 := ⟨_, rfl⟩
  have hb1 : Below W.heap.size W W1 := by rw [← hW1]; exact (Below.refl _ W).alloc (Nat.le_refl _) _
  have z1 : W1.heap.size = W.heap.size + 1 := by rw [← hW1]; simp
  have h1 : NumsAt (.slice ca n0 cp) q.cs W1 := by
    rcases h with h | ⟨g, o, cap, h1, h2, h3⟩
    · exact Or.inl h
    · refine Or.inr ⟨g, o, cap, h1, by omega, fun j c hj => ?_⟩
      rw [← h3 j c hj]
      exact World.cell?_of_block (hb1.block g h2)
  have c1 := source_new q.tx (.slice ca n0 cp) q.cs q.fa q.wt W1 h1 hl
  have x1 : W1.heap[W.heap.size]? = some (.cells #[.string q.tx, .slice ca n0 cp, .int .i64 q.fa, .bool q.wt] 33 (0, 0)) := by rw [← hW1]; exact heap_alloc_new W _
  obtain ⟨i0, i1, i2, i3⟩ := cells4 x1
  have c2 := fun v hv W => new_any v hv W
  have FIN : Hid (∀ bs cv w1 w2, SrcAt bs q.tx cv q.fa q.wt 0 false w1 → CutsOK bs cv q.cs w1 → (∀ g o l c, cv = .slice (some ⟨g, o, none⟩) l c → W1.heap.size ≤ g ∧ g ≠ bs ∧ g < w1.heap.size) → W1.heap.size ≤ bs → Below W1.heap.size W1 w1 → w2 = ((w1.alloc (.cells #[.pointer (some ⟨w1.heap.size + 1, 0, none⟩), .pointer (some ⟨bs, 0, none⟩)] 88)).alloc (.cells #[srcV q bs, .bool false, .nilIface, .slice none 0 0, .int .i64 0, .map none] 132)) → ∃ O, QAt aL aI q w1.heap.size none O w2 ∧ (∀ x, O x → W.heap.size ≤ x) ∧ Below W.heap.size W w2) := by
    intro bs cv w1 w2 s1 s2 s3 hbs b1 hw2
    have bz := b1.size
    have hbl := s1.lt
    have e1 : w2.heap.size = w1.heap.size + 2 := by rw [hw2]; simp
    have hq : w2.heap[w1.heap.size]? = some (.cells #[.pointer (some ⟨w1.heap.size + 1, 0, none⟩), .pointer (some ⟨bs, 0, none⟩)] 88 (0, 0)) := by
      rw [hw2, Below.heap_alloc _ _ _ (by simp)]
      exact heap_alloc_new w1 _
    have hp : w2.heap[w1.heap.size + 1]? = some (.cells #[srcV q bs, .bool false, .nilIface, .slice none 0 0, .int .i64 0, .map none] 132 (0, 0)) := by
      rw [hw2]
      have := heap_alloc_new (w1.alloc (.cells #[.pointer (some ⟨w1.heap.size + 1, 0, none⟩), .pointer (some ⟨bs, 0, none⟩)] 88)) (.cells #[srcV q bs, .bool false, .nilIface, .slice none 0 0, .int .i64 0, .map none] 132)
      rw [World.size_alloc] at this
      exact this
    have hold : ∀ x, x < w1.heap.size → w2.heap[x]? = w1.heap[x]? := fun x hx => by
      rw [hw2, Below.heap_alloc _ _ _ (by simp; omega), Below.heap_alloc _ _ _ hx]
    have hos : w2.os = w1.os ∧ w2.tape = w1.tape ∧ w2.output = w1.output := by rw [hw2]; exact ⟨rfl, rfl, rfl⟩
    obtain ⟨g, o, cap, hcv, a1, a2, a3, a4, a5⟩ := s2
    have hg := s3 g o _ _ hcv
    refine ⟨fun x => (x = w1.heap.size + 1 ∨ x = bs ∨ x = g) ∨ x = w1.heap.size, ⟨w1.heap.size + 1, bs, fun x => x = w1.heap.size + 1 ∨ x = bs ∨ x = g, hq, (show PaFresh q _ bs _ w2 from ⟨hp, ⟨cv, (hold bs hbl).trans s1, ⟨g, o, cap, hcv, a1, a2, a3, by omega, fun i c hi => (World.cell?_of_block (hold g a4) : w2.cell? ⟨g, o + i, none⟩ = w1.cell? ⟨g, o + i, none⟩).trans (a5 i c hi)⟩, fun g2 o2 l2 c2 he => ?_⟩, Or.inl rfl, Or.inr (Or.inl rfl), fun x hx => by omega⟩), by omega, rfl⟩, fun x hx => by omega, ?_⟩
    · rw [hcv] at he
      injection he with he _ _
      injection he with he
      injection he with he _
      subst he
      exact ⟨Or.inr (Or.inr rfl), by omega⟩
    · have b2 : Below W1.heap.size W1 w2 := ⟨hos.1.trans b1.os, hos.2.1.trans b1.tape, hos.2.2.trans b1.output, by omega, fun x hx => (hold x (by omega)).trans (b1.block x hx)⟩
      exact hb1.trans (b2.mono (by omega))
  unfold srcV at FIN
  clear h h1 hl hb1
  cases hs : q.src with
  | true =>
    rw [hs] at FIN
    simp only [if_true] at FIN
    go_enter Tryz.func18, Tryz.ntmps18
    go_wp2_with (first
      | (go_at_call 45; refine c1.mono ?_; rintro e w1 ⟨bs, cv, rfl, d1, d2, d3, d4, d5⟩)
      | (go_at_call 46; refine (c2 _ (Or.inr ⟨_, _, rfl⟩) _).mono ?_; rintro e w2 ⟨rfl, rfl⟩))
    go_ret
    obtain ⟨O, g1, g2, g3⟩ := FIN.out bs cv w1 _ d2 d3 d4 d1 d5 rfl
    exact ⟨_, O, rfl, g1, g2, g3⟩
  | false =>
    rw [hs] at FIN
    simp only [Bool.false_eq_true, if_false] at FIN
    go_enter Tryz.func18, Tryz.ntmps18
    go_wp2_with (first
      | (go_at_call 45; refine c1.mono ?_; rintro e w1 ⟨bs, cv, rfl, d1, d2, d3, d4, d5⟩)
      | (go_at_call 46; refine (c2 _ (Or.inl rfl) _).mono ?_; rintro e w2 ⟨rfl, rfl⟩))
    go_ret
    obtain ⟨O, g1, g2, g3⟩ := FIN.out bs cv w1 _ d2 d3 d4 d1 d5 rfl
    exact ⟨_, O, rfl, g1, g2, g3⟩
end Go.Proofs.YtljcljipppjnoaaGreatDoor

namespace Go.Proofs.YtljcljipppjnoaaGreatDoor
open Go.RowKit Go.Shelf
theorem Fp.newbox {O O' : Nat → Prop} {W W1 w : World} (hb : Below W.heap.size W W1) (hlt : ∀ x, O x → x < W.heap.size) (h : Fp O O' W1 w) {n : Nat} (hn : W.heap.size ≤ n) (hn1 : n < W1.heap.size) : Fp O O' W w ∧ ¬ O' n ∧ w.heap[n]? = W1.heap[n]? :=
  ⟨(Fp.below (O := O) hb).trans h, fun ho => by
    rcases h.grow n ho with h1 | h1
    · have := hlt n h1
      omega
    · omega, h.block n hn1 fun ho => by have := hlt n ho; omega⟩
set_option maxRecDepth 100000 in
set_option maxHeartbeats 2000000 in
theorem qerr_any {w0 : World} {aL aI : Addr} {m : Int} (B : Base w0 aL aI m) {q : Gh} (hq : q.Ok) {bq : Nat} {st : Option (List Ev)} {O : Nat → Prop} {W : World} (hW : Below w0.heap.size w0 W) (hlow : ∀ x, O x → w0.heap.size ≤ x) (h : QAt aL aI q bq st O W) :
    Calls Tryz.prog 20 #[.pointer (some ⟨bq, 0, none⟩)] W fun e w' => e = .returned (.tuple #[.agg #[.int .i64 (outErr q.o), .int .i64 (outN q.o)], .int .i64 q.n]) ∧ ∃ O', QAt aL aI q bq (some (leftOf q st)) O' w' ∧ Fp O O' W w' := by
  have hlt := h.lt
  obtain ⟨bp, bs, O1, hb, hp, hno, rfl⟩ := h
  obtain ⟨W1, hW1⟩ : ∃ W1, W.alloc (.cells #[.int .i64 0, .int .i64 0] 43) = W1 := ⟨_, rfl⟩
  have hb1 : Below W.heap.size W W1 := by rw [← hW1]; exact (Below.refl _ W).alloc (Nat.le_refl _) _
  have z1 : W1.heap.size = W.heap.size + 1 := by rw [← hW1]; simp
  have x1 : W1.heap[W.heap.size]? = some (.cells #[.int .i64 0, .int .i64 0] 43 (0, 0)) := by rw [← hW1]; exact heap_alloc_new W _
  have lq := lt_of_block hb
  have hbq := (hb1.block bq lq).trans hb
  have hw1 : Below w0.heap.size w0 W1 := hW.trans (hb1.mono hW.size)
  obtain ⟨k0, k1⟩ := cells2 hbq
  have c1 : Calls Tryz.prog 50 #[.pointer (some ⟨bp, 0, none⟩)] W1 fun e w2 => ∃ v, e = .returned v ∧ Calls Tryz.prog 49 #[v] w2 fun e w3 => e = .returned (.agg #[.int .i64 (outErr q.o), .int .i64 (outN q.o)]) ∧ w3.cell? ⟨bq, 1, none⟩ = some (.pointer (some ⟨bs, 0, none⟩)) ∧ w3.cell? ⟨bs, 4, none⟩ = some (.int .i64 q.n) ∧ bq < w3.heap.size ∧ bs < w3.heap.size ∧ w3.heap[W.heap.size]? = some (.cells #[.int .i64 0, .int .i64 0] 43 (0, 0)) ∧ ¬ bq = W.heap.size ∧ ¬ bs = W.heap.size ∧ Hid (∀ X, Below w3.heap.size w3 X → X.heap[W.heap.size]? = some (.cells #[.int .i64 0, .int .i64 0] 43 (0, 0)) ∧ ∀ x y, ∃ O', QAt aL aI q bq (some (leftOf q st)) O' ((X.setCell ⟨W.heap.size, 0, none⟩ x).setCell ⟨W.heap.size, 1, none⟩ y) ∧ Fp (fun x => O1 x ∨ x = bq) O' W ((X.setCell ⟨W.heap.size, 0, none⟩ x).setCell ⟨W.heap.size, 1, none⟩ y)) := by
    refine (perr_any B hq hw1 (fun x hx => hlow x (Or.inl hx)) (hp.below hb1)).mono ?_
    rintro e w2 ⟨O2, v, rfl, he, hd, hf⟩
    have hw2 : Below w0.heap.size w0 w2 := hw1.trans (hf.under hw1.size fun x hx => hlow x (Or.inl hx))
    refine ⟨v, rfl, (he.told (B.to hw2).glob).mono ?_⟩
    rintro e w3 ⟨rfl, b3⟩
    obtain ⟨f1, f2, f3⟩ := hf.beside (b := bq) (by omega) hno
    have sz := f1.size
    have hq3 := (b3.block bq (by omega)).trans (f3.trans hbq)
    have hd3 : PaDone aL aI q bp bs (leftOf q st) O2 w3 := hd.keep (fun x hx => b3.block x (hd.lt x hx)) b3.size
    have f4 := f1.trans (Fp.below (O := fun x => O2 x ∨ x = bq) b3)
    have lbs := hd3.lt bs hd3.os
    have hnb : ¬ (O2 W.heap.size ∨ W.heap.size = bq) := (Fp.newbox hb1 hlt f4 (Nat.le_refl _) (by omega)).2.1
    refine ⟨rfl, (cells2 hq3).2, by have := PaAt.reads (st := some (leftOf q st)) hd3; simpa using this, lt_of_block hq3, lbs, (Fp.newbox hb1 hlt f4 (Nat.le_refl _) (by omega)).2.2.trans x1, fun e => hnb (Or.inr e.symm), fun e => hnb (Or.inl (e ▸ hd3.os)), fun X hX => ?_⟩
    have f5 := f4.trans (Fp.below (O := fun x => O2 x ∨ x = bq) hX)
    obtain ⟨g1, g2, g3⟩ := Fp.newbox hb1 hlt f5 (Nat.le_refl _) (by omega)
    have hres := g3.trans x1
    refine ⟨hres, fun x y => ?_⟩
    have q2 : ∀ c, c ≠ W.heap.size → ((X.setCell ⟨W.heap.size, 0, none⟩ x).setCell ⟨W.heap.size, 1, none⟩ y).heap[c]? = X.heap[c]? := fun c hc => by rw [Below.heap_setCell _ _ _ _ hc, Below.heap_setCell _ _ _ _ hc]
    have hQ : QAt aL aI q bq (some (leftOf q st)) (fun x => O2 x ∨ x = bq) X := ⟨bp, bs, O2, (hX.block bq (lt_of_block hq3)).trans hq3, hd3.keep (fun x hx => hX.block x (hd3.lt x hx)) hX.size, f2, rfl⟩
    exact ⟨_, hQ.keep (fun x hx => q2 x fun e => g2 (e ▸ hx)) (by simp), g1.past (Nat.le_refl _) q2 (by simp) rfl rfl rfl⟩
  clear hp hlow hW hb hbq hlt hno hw1 hb1 B hq
  generalize outErr q.o = oe at *
  generalize outN q.o = on at *
  go_enter Tryz.func20, Tryz.ntmps20
  go_wp2_with (first
    | (go_at_call 50; refine c1.mono ?_; rintro e w2 ⟨v, rfl, c2⟩)
    | (go_at_call 49; refine c2.mono ?_; rintro e w3 ⟨rfl, d0, d1, l0, l1, hres, n1, n2, HF⟩; obtain ⟨s0, s1⟩ := cells2 hres; have g0 := row_free (i := 0) hres; have g1 := row_free (i := 1) hres; have lw := lt_of_block hres))
  obtain ⟨wd, hwd⟩ : ∃ wd, w3.alloc (.cells #[.int .i64 oe, .int .i64 on] 43) = wd := ⟨_, rfl⟩
  have hX : Below w3.heap.size w3 wd := by rw [← hwd]; exact (Below.refl _ w3).alloc (Nat.le_refl _) _
  have xt : wd.heap[w3.heap.size]? = some (.cells #[.int .i64 oe, .int .i64 on] 43 (0, 0)) := by rw [← hwd]; exact heap_alloc_new w3 _
  obtain ⟨t0, t1⟩ := cells2 xt
  have e0 := (hX.cell (p := ⟨bq, 1, none⟩) l0).trans d0
  have e1 := (hX.cell (p := ⟨bs, 4, none⟩) l1).trans d1
  have hres2 := (HF.out wd hX).1
  obtain ⟨r0, r1⟩ := cells2 hres2
  have g0' := row_free (i := 0) hres2
  have g1' := row_free (i := 1) hres2
  have HR : Hid _ := hres2
  have n3 : ¬ w3.heap.size = W.heap.size := by omega
  have n4 : ¬ W.heap.size = w3.heap.size := by omega
  have n5 : ¬ W.heap.size = bq := fun e => n1 e.symm
  have n6 : ¬ W.heap.size = bs := fun e => n2 e.symm
  rw [hwd]
  have HX : Hid (Below w3.heap.size w3 wd) := hX
  clear hwd hX xt hres hres2 s0 s1 g0 g1 c1 c2 d0 d1
  go_region_held3 (fun w' => w'.cell? ⟨bq, 1, none⟩ = some (.pointer (some ⟨bs, 0, none⟩)) ∧ w'.cell? ⟨bs, 4, none⟩ = some (.int .i64 q.n) ∧ w'.cell? ⟨w3.heap.size, 0, none⟩ = some (.int .i64 oe) ∧ w'.cell? ⟨w3.heap.size, 1, none⟩ = some (.int .i64 on)) (first | go_keep | exact ⟨e0, e1, t0, t1⟩ | (simp [n1, n2, n3, n4, n5, n6]; exact ⟨e0, e1, t0, t1⟩)) (fail)
  all_goals
    go_wp2
    have h1 : (wd.setCell ⟨W.heap.size, 0, none⟩ (.int .i64 oe)).heap[W.heap.size]? = some (.cells #[.int .i64 oe, .int .i64 0] 43 (0, 0)) := set_row HR.out
    have h2 : ((wd.setCell ⟨W.heap.size, 0, none⟩ (.int .i64 oe)).setCell ⟨W.heap.size, 1, none⟩ (.int .i64 on)).heap[W.heap.size]? = some (.cells #[.int .i64 oe, .int .i64 on] 43 (0, 0)) := set_row h1
    obtain ⟨y0, y1⟩ := cells2 h2
    obtain ⟨O', a, b⟩ := (HF.out wd HX.out).2 (.int .i64 oe) (.int .i64 on)
    generalize (wd.setCell ⟨W.heap.size, 0, none⟩ (.int .i64 oe)).setCell ⟨W.heap.size, 1, none⟩ (.int .i64 on) = Y at *
    exact bodyPost_ret (v := .tuple #[.agg #[.int .i64 oe, .int .i64 on], .int .i64 q.n]) (by simp [results, Tryz.results20, go_sem, y0, y1]) rfl ⟨rfl, O', a.keep (fun _ _ => rfl) (Nat.le_refl _), ⟨b.os, b.tape, b.output, b.size, b.block, b.grow⟩⟩
end Go.Proofs.YtljcljipppjnoaaGreatDoor

namespace Go.Proofs.YtljcljipppjnoaaGreatDoor
open Go.RowKit Go.Shelf
set_option maxRecDepth 100000 in
set_option maxHeartbeats 1000000 in
theorem pall_any (bp : Nat) (W : World) :
    Calls Tryz.prog 71 #[.pointer (some ⟨bp, 0, none⟩)] W fun e w' => e = .returned (.func (.func 93) #[] #[.pointer (some ⟨W.heap.size, 0, none⟩)]) ∧ w' = W.alloc (.cells #[.pointer (some ⟨bp, 0, none⟩)] 86) := by
  have hmf : ∀ (fn : Fn) (first cap : Array Value) (w : World), (Instr.makeFunc fn first cap).run Tryz.prog w = .ok (.func fn first cap) w := fun _ _ _ _ => rfl
  go_enter Tryz.func71, Tryz.ntmps71
  go_wp2
  go_ret
  exact ⟨rfl, rfl⟩
theorem Tryz.seqNil (fn : Fn) (f c : Array Value) (w : World) : (binOp .eql 145 (.func fn f c) .nilFunc).run Tryz.prog w = .ok (.bool false) w := by kernel_rfl
end Go.Proofs.YtljcljipppjnoaaGreatDoor

namespace Go.Proofs.YtljcljipppjnoaaGreatDoor
open Go.RowKit Go.Shelf
set_option maxRecDepth 100000 in
set_option maxHeartbeats 2000000 in
theorem qall_own {w0 : World} {aL aI : Addr} {m : Int} (B : Base w0 aL aI m) {q : Gh} (hq : q.Ok) {bq : Nat} {st : Option (List Ev)} {O : Nat → Prop} {W : World} (hW : Below w0.heap.size w0 W) (hlow : ∀ x, O x → w0.heap.size ≤ x) (h : QAt aL aI q bq st O W) (n : Int) (hl : (leftOf q st).length ≤ 4999) :
    Calls Tryz.prog 52 #[.pointer (some ⟨bq, 0, none⟩), .int .i64 n] W fun e w' => ∃ v acc r O', e = .returned (.tuple #[v, .bool true]) ∧ w'.ownsRow 0 39 4 v acc.length (evCs acc) ∧ QAt aL aI q bq (some r) O' w' ∧ Fp O O' W w' ∧ acc ++ r = leftOf q st ∧ ((r = [] ∧ (n < 1 ∨ (acc.length : Int) < n)) ∨ ((acc.length : Int) = n ∧ 1 ≤ n)) ∧ (∀ x, v.ownBlock = some x → ¬ O' x) := by
  have hmf : ∀ (fn : Fn) (first cap : Array Value) (w : World), (Instr.makeFunc fn first cap).run Tryz.prog w = .ok (.func fn first cap) w := fun _ _ _ _ => rfl
  have hlt := h.lt
  obtain ⟨bp, bs, O1, hb, hp, hno, rfl⟩ := h
  have lq := lt_of_block hb
  obtain ⟨k0, k1⟩ := cells2 hb
  have c1 := fun W => pall_any bp W
  have sn := Tryz.seqNil
  have k3 : (((W.alloc (.cells #[.int .i64 n] 3)).alloc (.cells #[.slice none 0 0] 22)).alloc (.cells #[.bool false] 4)).cell? ⟨bq, 0, none⟩ = some (.pointer (some ⟨bp, 0, none⟩)) := by
    rw [← k0]
    exact World.cell?_of_block (by rw [Below.heap_alloc _ _ _ (by simp; omega), Below.heap_alloc _ _ _ (by simp; omega), Below.heap_alloc _ _ _ lq])
  obtain ⟨W5, hW5⟩ : ∃ W5, ((((W.alloc (.cells #[.int .i64 n] 3)).alloc (.cells #[.slice none 0 0] 22)).alloc (.cells #[.bool true] 4)).alloc (.cells #[.pointer (some ⟨bp, 0, none⟩)] 86)).alloc (.cells #[.bool false] 4) = W5 := ⟨_, rfl⟩
  have hb5 : Below W.heap.size W W5 := by
    rw [← hW5]
    exact (((((Below.refl _ W).alloc (Nat.le_refl _) _).alloc (by simp) _).alloc (by simp; omega) _).alloc (by simp; omega) _).alloc (by simp; omega) _
  have z5 : W5.heap.size = W.heap.size + 1 + 1 + 1 + 1 + 1 := by rw [← hW5]; simp
  have y1 : W5.heap[W.heap.size]? = some (.cells #[.int .i64 n] 3 (0, 0)) := by
    rw [← hW5, Below.heap_alloc _ _ _ (by simp; omega), Below.heap_alloc _ _ _ (by simp; omega), Below.heap_alloc _ _ _ (by simp; omega), Below.heap_alloc _ _ _ (by simp)]
    exact heap_alloc_new W _
  have y2 : W5.heap[W.heap.size + 1]? = some (.cells #[.slice none 0 0] 22 (0, 0)) := by
    rw [← hW5, Below.heap_alloc _ _ _ (by simp), Below.heap_alloc _ _ _ (by simp), Below.heap_alloc _ _ _ (by simp)]
    exact heap_new _ _ (by simp)
  have y3 : W5.heap[W.heap.size + 1 + 1]? = some (.cells #[.bool true] 4 (0, 0)) := by
    rw [← hW5, Below.heap_alloc _ _ _ (by simp), Below.heap_alloc _ _ _ (by simp)]
    exact heap_new _ _ (by simp)
  have y4 : W5.heap[W.heap.size + 1 + 1 + 1]? = some (.cells #[.pointer (some ⟨bp, 0, none⟩)] 86 (0, 0)) := by
    rw [← hW5, Below.heap_alloc _ _ _ (by simp)]
    exact heap_new _ _ (by simp)
  have y5 : W5.heap[W.heap.size + 1 + 1 + 1 + 1]? = some (.cells #[.bool false] 4 (0, 0)) := by
    rw [← hW5]
    exact heap_new _ _ (by simp)
  have hw5 : Below w0.heap.size w0 W5 := hW.trans (hb5.mono hW.size)
  have h0 := hW.size
  have lt1 := fun x hx => hlt x (Or.inl hx)
  have A0 : AllAt aL aI q bp bs (W.heap.size + 1 + 1) (W.heap.size + 1 + 1 + 1 + 1) (W.heap.size + 1) W.heap.size n O1 (fun x => x = W.heap.size ∨ x = W.heap.size + 1 ∨ x = W.heap.size + 1 + 1 ∨ x = W.heap.size + 1 + 1 + 1 + 1) W5 (leftOf q st) st [] [] false W5 := by
    refine ⟨O1, _, hp.below hb5, ⟨y3, y5, y1, ⟨_, y2, by simpa [evCs] using World.ownsRow_nil W5 0 39 4, fun x hx => by cases hx⟩, ⟨Or.inr (Or.inr (Or.inl rfl)), Or.inr (Or.inr (Or.inr rfl)), Or.inr (Or.inl rfl), Or.inl rfl⟩, by omega, fun x hx => by omega⟩, fun x hx hy => by have := lt1 x hx; omega, Fp.refl _ _, by simp⟩
  have c2 := all_walk B hq hw5 (fun x hx => by
    rcases hx with hx | hx
    · exact hlow x (Or.inl hx)
    · omega) hl A0 y4 (fun ho => by
    rcases ho with ho | ho
    · have := lt1 _ ho
      omega
    · omega)
  unfold yieldV at c2
  have c3 : Calls Tryz.prog 93 #[.func (.func 72) #[] #[.pointer (some ⟨W.heap.size + 1 + 1, 0, none⟩), .pointer (some ⟨W.heap.size + 1 + 1 + 1 + 1, 0, none⟩), .pointer (some ⟨W.heap.size + 1, 0, none⟩), .pointer (some ⟨W.heap.size, 0, none⟩)], .pointer (some ⟨W.heap.size + 1 + 1 + 1, 0, none⟩)] W5 fun e w' => e = .returned (.tuple #[]) ∧ ∃ p ln cp, w'.heap[W.heap.size + 1]? = some (.cells #[.slice p ln cp] 22 (0, 0)) ∧ w'.heap[W.heap.size + 1 + 1]? = some (.cells #[.bool true] 4 (0, 0)) ∧ Hid (∀ X, (∀ x, x ≠ W.heap.size + 1 → x ≠ W.heap.size + 1 + 1 → X.heap[x]? = w'.heap[x]?) → X.heap.size = w'.heap.size → X.os = w'.os → X.tape = w'.tape → X.output = w'.output → ∃ acc r O', X.ownsRow 0 39 4 (.slice p ln cp) acc.length (evCs acc) ∧ QAt aL aI q bq (some r) O' X ∧ Fp (fun x => O1 x ∨ x = bq) O' W X ∧ acc ++ r = leftOf q st ∧ ((r = [] ∧ (n < 1 ∨ (acc.length : Int) < n)) ∨ ((acc.length : Int) = n ∧ 1 ≤ n)) ∧ (∀ x, (Value.slice p ln cp).ownBlock = some x → ¬ O' x)) := by
    refine c2.mono ?_
    rintro e w' ⟨rfl, acc, r, sp, ⟨O2, OY2, a1, a2, a3, a4, a5⟩, a6⟩
    obtain ⟨v, l1, l2, l3⟩ := a2.lst
    obtain ⟨p, ln, cp, rfl⟩ : ∃ p ln cp, v = .slice p ln cp := by
      rcases Joins.ownsRow_forms l2 with ⟨h, _⟩ | ⟨g', cap', h⟩
      · exact ⟨_, _, _, h⟩
      · exact ⟨_, _, _, h⟩
    refine ⟨rfl, p, ln, cp, l1, a2.right, fun X fX zX x1 x2 x3 => ?_⟩
    have sz := a4.size
    have hno2 : ¬ O2 bq := fun ho => by
      rcases a4.grow bq (Or.inl ho) with (h1 | h1) | h1
      · exact hno h1
      · omega
      · omega
    have hq5 : w'.heap[bq]? = W.heap[bq]? := (a4.block bq (by omega) fun ho => by
      rcases ho with h1 | h1
      · exact hno h1
      · omega).trans (hb5.block bq lq)
    have ownX : X.ownsRow 0 39 4 (.slice p ln cp) acc.length (evCs acc) := by
      refine ⟨l2.1, ?_⟩
      rcases l2.2 with h1 | ⟨g, cap, cur, hv, hg, hh, rr⟩
      · exact Or.inl h1
      · refine Or.inr ⟨g, cap, cur, hv, hg, (fX g (fun e => ?_) (fun e => ?_)).trans hh, rr⟩
        · rw [e, l1] at hh
          injection hh with hh
          injection hh with _ hh _
          exact absurd hh (by decide)
        · rw [e, a2.right] at hh
          injection hh with hh
          injection hh with _ hh _
          exact absurd hh (by decide)
    have hO : ∀ x, O2 x ∨ x = bq → X.heap[x]? = w'.heap[x]? := fun x hx => by
      rcases hx with hx | rfl
      · exact fX x (fun e => a3 x hx (e ▸ a2.own.2.2.1)) (fun e => a3 x hx (e ▸ a2.own.1))
      · exact fX x (by omega) (by omega)
    refine ⟨acc, r, fun x => O2 x ∨ x = bq, ownX, ⟨bp, bs, O2, (hO bq (Or.inr rfl)).trans (hq5.trans hb), a1.keep (fun x hx => hO x (Or.inl hx)) (by omega), hno2, rfl⟩, ⟨x1.trans (a4.os.trans hb5.os), x2.trans (a4.tape.trans hb5.tape), x3.trans (a4.output.trans hb5.output), by omega, fun x hx ho => ?_, fun x hx => ?_⟩, a5, a6, fun x hx ho => ?_⟩
    · exact (fX x (by omega) (by omega)).trans ((a4.block x (by omega) fun h1 => by
        rcases h1 with h1 | h1
        · exact ho (Or.inl h1)
        · omega).trans (hb5.block x hx))
    · rcases hx with hx | rfl
      · rcases a4.grow x (Or.inl hx) with (h1 | h1) | h1
        · exact Or.inl (Or.inl h1)
        · exact Or.inr (by omega)
        · exact Or.inr (by omega)
      · exact Or.inl (Or.inr rfl)
    · have hy := l3 x hx
      rcases ho with h1 | rfl
      · exact a3 x h1 hy
      · rcases a4.grow x (Or.inr hy) with (h1 | h1) | h1
        · exact hno h1
        · omega
        · omega
  rw [← hW5] at c3
  clear c2 A0 hw5 y1 y2 y3 y4 y5 hb5 z5 hlow hlt hW hp hno hb B hq hl lt1 hW5
  go_enter Tryz.func52, Tryz.ntmps52
  go_wp2_with (first
    | (go_at_call 71; refine (c1 _).mono ?_; rintro e w2 ⟨rfl, rfl⟩)
    | (go_at_call 93; refine c3.mono ?_; rintro e w3 ⟨rfl, p, ln, cp, d1, d2, HF⟩; have e1 := cell_of_one d1; have e2 := cell_of_one d2; have f1 := row_free (i := 0) d1; have f2 := row_free (i := 0) d2))
  have hn1 : ¬ W.heap.size + 1 + 1 = W.heap.size + 1 := by omega
  have HD : Hid _ := And.intro d1 d2
  clear d1 d2 c1 c3
  go_region
  all_goals
    go_wp2
    have x1 : (w3.setCell ⟨W.heap.size + 1, 0, none⟩ (.slice p ln cp)).heap[W.heap.size + 1]? = some (.cells #[.slice p ln cp] 22 (0, 0)) := set_row HD.out.1
    have x2 : ((w3.setCell ⟨W.heap.size + 1, 0, none⟩ (.slice p ln cp)).setCell ⟨W.heap.size + 1 + 1, 0, none⟩ (.bool true)).heap[W.heap.size + 1]? = some (.cells #[.slice p ln cp] 22 (0, 0)) := by rw [Below.heap_setCell _ _ _ _ (by show _ ≠ W.heap.size + 1 + 1; omega)]; exact x1
    have x3 : (w3.setCell ⟨W.heap.size + 1, 0, none⟩ (.slice p ln cp)).heap[W.heap.size + 1 + 1]? = some (.cells #[.bool true] 4 (0, 0)) := by rw [Below.heap_setCell _ _ _ _ (by show _ ≠ W.heap.size + 1; omega)]; exact HD.out.2
    have x4 : ((w3.setCell ⟨W.heap.size + 1, 0, none⟩ (.slice p ln cp)).setCell ⟨W.heap.size + 1 + 1, 0, none⟩ (.bool true)).heap[W.heap.size + 1 + 1]? = some (.cells #[.bool true] 4 (0, 0)) := set_row x3
    have k4 := cell_of_one x2
    have k5 := cell_of_one x4
    obtain ⟨acc, r, O', r1, r2, r3, r4, r5, r6⟩ := HF.out (((w3.setCell ⟨W.heap.size + 1, 0, none⟩ (.slice p ln cp)).setCell ⟨W.heap.size + 1 + 1, 0, none⟩ (.bool true)).drew) (fun x a b => by
      show ((w3.setCell ⟨W.heap.size + 1, 0, none⟩ (.slice p ln cp)).setCell ⟨W.heap.size + 1 + 1, 0, none⟩ (.bool true)).heap[x]? = _
      rw [Below.heap_setCell _ _ _ _ b, Below.heap_setCell _ _ _ _ a]) (by show ((w3.setCell ⟨W.heap.size + 1, 0, none⟩ (.slice p ln cp)).setCell ⟨W.heap.size + 1 + 1, 0, none⟩ (.bool true)).heap.size = _; simp) rfl rfl rfl
    generalize (w3.setCell ⟨W.heap.size + 1, 0, none⟩ (.slice p ln cp)).setCell ⟨W.heap.size + 1 + 1, 0, none⟩ (.bool true) = Y at *
    exact bodyPost_ret (v := .tuple #[.slice p ln cp, .bool true]) (by simp [results, Tryz.results52, go_sem, k4, k5]) rfl ⟨_, acc, r, O', rfl, r1, r2, r3, r4, r5, r6⟩
end Go.Proofs.YtljcljipppjnoaaGreatDoor

namespace Go.Proofs.YtljcljipppjnoaaGreatDoor
open Go.RowKit Go.Shelf
theorem evs_kept {w w' : World} {v : Value} {n : Nat} {xs : List Value} (h : w.ownsRow 0 39 4 v n xs) (hk : ∀ x, v.ownBlock = some x → w'.heap[x]? = w.heap[x]?) : w'.ownsRow 0 39 4 v n xs := by
  refine ⟨h.1, ?_⟩
  rcases h.2 with h0 | ⟨g, cap, cur, hv, hg, hh, r⟩
  · exact Or.inl h0
  · exact Or.inr ⟨g, cap, cur, hv, hg, (hk g (by rw [hv]; rfl)).trans hh, r⟩
theorem evs_block {w : World} {v : Value} {n : Nat} {xs : List Value} (h : w.ownsRow 0 39 4 v n xs) {x : Nat} (hx : v.ownBlock = some x) : ∃ cur, w.heap[x]? = some (.cells cur 39 (0, 0)) := by
  rcases h.2 with ⟨h0, _⟩ | ⟨g, cap, cur, hv, hg, hh, r⟩
  · rw [h0] at hx; cases hx
  · rw [hv] at hx
    injection hx with hx
    have hx : g = x := hx
    subst hx
    exact ⟨cur, hh⟩
set_option maxRecDepth 100000 in
set_option maxHeartbeats 1000000 in
theorem pull_any {aL aI : Addr} {m : Int} {q : Gh} (hq : q.Ok) (hs : q.src = true) (cv : Value) {W : World} (B : Base W aL aI m) (hN : NumsAt cv q.cs W) :
    Calls Tryz.prog 30 #[.agg #[.string q.tx, cv, .int .i64 q.fa, .bool q.wt]] W fun e w' => ∃ p ln cp, e = .returned (.tuple #[.slice p ln cp, .agg #[.int .i64 (outErr q.o), .int .i64 (outN q.o)]]) ∧ w'.ownsRow 0 39 4 (.slice p ln cp) (evq q).length (evCs (evq q)) ∧ Below W.heap.size W w' := by
  obtain ⟨ca, n0, cp0, hcv⟩ : ∃ ca n0 cp, cv = .slice ca n0 cp := by
    rcases hN with ⟨_, ca, cap, rfl⟩ | ⟨g, o, cap, rfl, _⟩
    · exact ⟨_, _, _, rfl⟩
    · exact ⟨_, _, _, rfl⟩
  subst hcv
  obtain ⟨W1, hW1⟩ : ∃ W1, (W.alloc (.cells #[.string q.tx, .slice ca n0 cp0, .int .i64 q.fa, .bool q.wt] 33)).alloc (.cells #[.int .i64 0, .int .i64 0] 43) = W1 := ⟨_, rfl⟩
  have b1 : Below W.heap.size W W1 := by rw [← hW1]; exact ((Below.refl _ W).alloc (Nat.le_refl _) _).alloc (by simp) _
  have z1 : W1.heap.size = W.heap.size + 1 + 1 := by rw [← hW1]; simp
  have i1 : W1.heap[W.heap.size]? = some (.cells #[.string q.tx, .slice ca n0 cp0, .int .i64 q.fa, .bool q.wt] 33 (0, 0)) := by
    rw [← hW1, Below.heap_alloc _ _ _ (by simp)]
    exact heap_new _ _ rfl
  have i2 : W1.heap[W.heap.size + 1]? = some (.cells #[.int .i64 0, .int .i64 0] 43 (0, 0)) := by
    rw [← hW1]
    exact heap_new _ _ (by simp)
  have B1 := B.to b1
  have cN := qnew_any aL aI q (.slice ca n0 cp0) W1 (by
    rcases hN with h | ⟨g, o, cap, h1, h2, h3⟩
    · exact Or.inl h
    · refine Or.inr ⟨g, o, cap, h1, by omega, fun j c hj => ?_⟩
      rw [← h3 j c hj]
      exact World.cell?_of_block (b1.block g h2)) hq.cuts
  rw [hs] at cN
  have hl : (leftOf q none).length ≤ 4999 := Nat.le_trans (evq_len hq) (by decide)
  have cA : ∀ (w2 : World) (bq : Nat) (O : Nat → Prop), QAt aL aI q bq none O w2 → (∀ x, O x → W1.heap.size ≤ x) → Below W1.heap.size W1 w2 → Calls Tryz.prog 52 #[.pointer (some ⟨bq, 0, none⟩), .int .i64 0] w2 fun e w' => ∃ p ln cp O', e = .returned (.tuple #[.slice p ln cp, .bool true]) ∧ Hid (w'.ownsRow 0 39 4 (.slice p ln cp) (evq q).length (evCs (evq q)) ∧ QAt aL aI q bq (some []) O' w' ∧ (∀ x, O' x → W1.heap.size ≤ x) ∧ (∀ x, (Value.slice p ln cp).ownBlock = some x → ¬ O' x) ∧ Below W1.heap.size W1 w') := by
    intro w2 bq O h1 h2 h3
    refine (qall_own B1 hq h3 h2 h1 0 hl).mono ?_
    rintro e w' ⟨v, acc, r, O', rfl, a1, a2, a3, a4, a5, a6⟩
    obtain ⟨p, ln, cp, rfl⟩ : ∃ p ln cp, v = .slice p ln cp := by
      rcases Joins.ownsRow_forms a1 with ⟨h, _⟩ | ⟨g', cap', h⟩
      · exact ⟨_, _, _, h⟩
      · exact ⟨_, _, _, h⟩
    have hr : r = [] := by
      rcases a5 with ⟨h, _⟩ | ⟨_, h⟩
      · exact h
      · omega
    subst hr
    rw [List.append_nil] at a4
    have a4 : acc = evq q := a4
    subst a4
    exact ⟨p, ln, cp, O', rfl, a1, a2, a3.low h3.size h2, a6, h3.trans (a3.under h3.size h2)⟩
  have cE : ∀ (w3 : World) (bq : Nat) (O : Nat → Prop) (v : Value), QAt aL aI q bq (some []) O w3 → (∀ x, O x → W1.heap.size ≤ x) → Below W1.heap.size W1 w3 → w3.ownsRow 0 39 4 v (evq q).length (evCs (evq q)) → (∀ x, v.ownBlock = some x → ¬ O x) → Calls Tryz.prog 20 #[.pointer (some ⟨bq, 0, none⟩)] w3 fun e w' => e = .returned (.tuple #[.agg #[.int .i64 (outErr q.o), .int .i64 (outN q.o)], .int .i64 q.n]) ∧ w'.heap[W.heap.size + 1]? = some (.cells #[.int .i64 0, .int .i64 0] 43 (0, 0)) ∧ Hid (w'.ownsRow 0 39 4 v (evq q).length (evCs (evq q)) ∧ Below W1.heap.size W1 w') := by
    intro w3 bq O v h1 h2 h3 h4 h5
    refine (qerr_any B1 hq h3 h2 h1).mono ?_
    rintro e w' ⟨rfl, O', a1, a2⟩
    have hb := h3.trans (a2.under h3.size h2)
    refine ⟨rfl, (hb.block _ (by omega)).trans i2, evs_kept h4 (fun x hx => a2.block x ?_ (h5 x hx)), hb⟩
    obtain ⟨cur, hc⟩ := evs_block h4 hx
    exact (Array.getElem?_eq_some_iff.1 hc).1
  have j0 := row_cell (i := 0) i1 rfl
  have j1 := row_cell (i := 1) i1 rfl
  have j2 := row_cell (i := 2) i1 rfl
  have j3 := row_cell (i := 3) i1 rfl
  have CA : Hid _ := cA
  have CE : Hid _ := cE
  have HB : Hid (Below W.heap.size W W1 ∧ W1.heap.size = W.heap.size + 1 + 1) := ⟨b1, z1⟩
  clear cA cE hN B B1 hq hs hl i1 i2 b1 z1
  generalize outErr q.o = oe at CE ⊢
  generalize outN q.o = on at CE ⊢
  go_enter Tryz.func30, Tryz.ntmps30
  go_upto_region 6 with (first
    | (go_at_call 18; refine cN.mono ?_; rintro e w2 ⟨bq, O, rfl, d1, d2, d3⟩)
    | (go_at_call 52; refine (CA.out w2 bq O d1 d2 d3).mono ?_; rintro e w3 ⟨p, ln, cp, O', rfl, HF⟩)
    | (go_at_call 20; refine (CE.out w3 bq O' _ HF.out.2.1 HF.out.2.2.1 HF.out.2.2.2.2 HF.out.1 HF.out.2.2.2.1).mono ?_; rintro e w4 ⟨rfl, hr, HG⟩))
  have hz4 := HG.out.2.size
  have hz1 := HB.out.2
  obtain ⟨w5, hw5⟩ : ∃ w5, w4.alloc (.cells #[.int .i64 oe, .int .i64 on] 43) = w5 := ⟨_, rfl⟩
  have b5 : Below w4.heap.size w4 w5 := by rw [← hw5]; exact (Below.refl _ w4).alloc (Nat.le_refl _) _
  have i5 : w5.heap[w4.heap.size]? = some (.cells #[.int .i64 oe, .int .i64 on] 43 (0, 0)) := by rw [← hw5]; exact heap_new _ _ rfl
  have r5 : w5.heap[W.heap.size + 1]? = some (.cells #[.int .i64 0, .int .i64 0] 43 (0, 0)) := (b5.block _ (by omega)).trans hr
  rw [hw5]
  have t0 := row_cell (i := 0) i5 rfl
  have t1 := row_cell (i := 1) i5 rfl
  have s0 := row_cell (i := 0) r5 rfl
  have s1 := row_cell (i := 1) r5 rfl
  have f0 := row_free (i := 0) r5
  have f1 := row_free (i := 1) r5
  have o5 : Hid (w5.ownsRow 0 39 4 (.slice p ln cp) (evq q).length (evCs (evq q))) := evs_kept HG.out.1 (fun x hx => by
    obtain ⟨cur, hc⟩ := evs_block HG.out.1 hx
    exact b5.block x (Array.getElem?_eq_some_iff.1 hc).1)
  have B5 : Hid (Below W.heap.size W w5 ∧ w5.heap[W.heap.size + 1]? = some (.cells #[.int .i64 0, .int .i64 0] 43 (0, 0))) := ⟨(HB.out.1.trans (HG.out.2.mono (by omega))).trans (b5.mono (by omega)), r5⟩
  clear hw5 i5 r5 hr b5 CA CE HF HG cN d1 d2 d3 j0 j1 j2 j3 hW1 HB hz4 hz1
  go_upto_region 8 with fail
  go_region
  go_wp2
  have p1 := Joins.block_setCell (i := 0) B5.out.2 (.int .i64 oe)
  have p2 := Joins.block_setCell (i := 1) p1 (.int .i64 on)
  have p2 : ((w5.setCell ⟨W.heap.size + 1, 0, none⟩ (.int .i64 oe)).setCell ⟨W.heap.size + 1, 1, none⟩ (.int .i64 on)).drew.heap[W.heap.size + 1]? = some (.cells #[.int .i64 oe, .int .i64 on] 43 (0, 0)) := by
    show ((w5.setCell ⟨W.heap.size + 1, 0, none⟩ (.int .i64 oe)).setCell ⟨W.heap.size + 1, 1, none⟩ (.int .i64 on)).heap[W.heap.size + 1]? = _
    simpa using p2
  have e0 := row_cell (i := 0) p2 rfl
  have e1 := row_cell (i := 1) p2 rfl
  have oF : (((w5.setCell ⟨W.heap.size + 1, 0, none⟩ (.int .i64 oe)).setCell ⟨W.heap.size + 1, 1, none⟩ (.int .i64 on)).drew).ownsRow 0 39 4 (.slice p ln cp) (evq q).length (evCs (evq q)) := evs_kept o5.out (fun x hx => by
    obtain ⟨cur, hc⟩ := evs_block o5.out hx
    have hne : x ≠ W.heap.size + 1 := fun e => by
      rw [e, B5.out.2] at hc
      injection hc with hc
      injection hc with _ hc _
      exact absurd hc (by decide)
    show ((w5.setCell ⟨W.heap.size + 1, 0, none⟩ (.int .i64 oe)).setCell ⟨W.heap.size + 1, 1, none⟩ (.int .i64 on)).heap[x]? = _
    rw [Below.heap_setCell _ _ _ _ hne, Below.heap_setCell _ _ _ _ hne])
  have bF : Below W.heap.size W (((w5.setCell ⟨W.heap.size + 1, 0, none⟩ (.int .i64 oe)).setCell ⟨W.heap.size + 1, 1, none⟩ (.int .i64 on)).drew) := ((B5.out.1.setCell (p := ⟨W.heap.size + 1, 0, none⟩) (by show _ ≤ W.heap.size + 1; omega) _).setCell (p := ⟨W.heap.size + 1, 1, none⟩) (by show _ ≤ W.heap.size + 1; omega) _).drew
  generalize ((w5.setCell ⟨W.heap.size + 1, 0, none⟩ (.int .i64 oe)).setCell ⟨W.heap.size + 1, 1, none⟩ (.int .i64 on)).drew = Y at *
  exact bodyPost_ret (v := .tuple #[.slice p ln cp, .agg #[.int .i64 oe, .int .i64 on]]) (by simp [results, Tryz.results30, go_sem, e0, e1]) rfl ⟨p, ln, cp, rfl, oF, bF⟩
end Go.Proofs.YtljcljipppjnoaaGreatDoor
