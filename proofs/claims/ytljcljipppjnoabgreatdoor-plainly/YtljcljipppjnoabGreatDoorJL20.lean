import Derived.Test.YtljcljipppjnoabGreatDoorJL11
import Derived.Test.YtljcljipppjnoabGreatDoorJL19
import Derived.Deep.RegionHeld3
namespace Go.Proofs.YtljcljipppjnoabGreatDoor
open Go.RowKit Go.Shelf
set_option maxRecDepth 100000 in
set_option maxHeartbeats 2000000 in
theorem stand_any (b o bm : Nat) (c : Array Value) (T : TypeId) (S0 : List Stp) (n0 : Nat) (t : List UInt8) (x y : Nat) (es : Array MapEntry) (clock : Nat) (m : Int) (W : World)
    (hs0 : SpIn 0 n0 S0) (hin : Stp.leaf t x y ∈ S0) (ht : t.length ≤ 16777216)
    (hb : W.heap[b]? = some (.cells c T (0, 0))) (hc : c[o + 2]? = some (.map (some bm))) (hm : W.heap[bm]? = some (.map es clock)) (hok : MapOk es S0 W)
    (hml : W.cell? ⟨7, 0, none⟩ = some (.int .i64 m)) :
    Calls Tryz.prog 48 #[.pointer (some ⟨b, o, none⟩), .agg #[.int .i64 8, .bool false, .int .i64 0, .string ⟨t.toArray⟩, .int .i64 x, .int .i64 y]] W fun e w' =>
      ∃ p ln cp es' clock', e = .returned (.slice p ln cp) ∧ EvRow (.slice p ln cp) (inX t) w' ∧ w'.heap[bm]? = some (.map es' clock') ∧ MapOk es' S0 w' ∧ (∃ e' ∈ es'.toList, e'.val = .slice p ln cp) ∧ (∀ e' ∈ es'.toList, e' ∈ es.toList ∨ ∀ g, e'.val.ownBlock = some g → W.heap.size ≤ g) ∧ (∀ e' ∈ es.toList, e' ∈ es'.toList) ∧ (∀ i, i < W.heap.size → i ≠ bm → w'.heap[i]? = W.heap[i]?) ∧ W.heap.size ≤ w'.heap.size ∧ w'.os = W.os ∧ w'.tape = W.tape ∧ w'.output = W.output := by
  have hmf : ∀ (fn : Fn) (first cap : Array Value) (w : World), (Instr.makeFunc fn first cap).run Tryz.prog w = .ok (.func fn first cap) w := fun _ _ _ _ => rfl
  have hlt := lt_of_block hb
  have hmlt : bm < W.heap.size := (Array.getElem?_eq_some_iff.1 hm).1
  have hcell : W.cell? ⟨b, o + 2, none⟩ = some (.map (some bm)) := row_cell hb hc
  obtain ⟨W1, hW1⟩ : ∃ W1, W.alloc (.cells #[.int .i64 8, .bool false, .int .i64 0, .string ⟨t.toArray⟩, .int .i64 x, .int .i64 y] 129) = W1 := ⟨_, rfl⟩
  have hb1 : Below W.heap.size W W1 := by rw [← hW1]; exact (Below.refl _ W).alloc (Nat.le_refl _) _
  have z1 : W1.heap.size = W.heap.size + 1 := by rw [← hW1]; simp
  have xs : W1.heap[W.heap.size]? = some (.cells #[.int .i64 8, .bool false, .int .i64 0, .string ⟨t.toArray⟩, .int .i64 x, .int .i64 y] 129 (0, 0)) := by rw [← hW1]; exact heap_alloc_new W _
  have hm1 : ∀ w', Below W1.heap.size W1 w' → w'.heap[bm]? = some (.map es clock) := fun w' h => (h.block bm (by omega)).trans ((hb1.block bm hmlt).trans hm)
  have hcl : ∀ w', Below W1.heap.size W1 w' → w'.cell? ⟨b, o + 2, none⟩ = some (.map (some bm)) ∧ w'.cell? ⟨W.heap.size, 3, none⟩ = some (.string ⟨t.toArray⟩) ∧ w'.cell? ⟨W.heap.size, 4, none⟩ = some (.int .i64 x) ∧ w'.cell? ⟨W.heap.size, 5, none⟩ = some (.int .i64 y) := fun w' h => by
    have h1 := (h.block b (by omega)).trans ((hb1.block b hlt).trans hb)
    have h2 := (h.block W.heap.size (by omega)).trans xs
    exact ⟨row_cell h1 hc, row_cell h2 rfl, row_cell h2 rfl, row_cell h2 rfl⟩
  have hB0 : Below W1.heap.size W1 W1.drew := (Below.refl _ W1).drew
  rcases map_look bm es clock x y hok.spans with ⟨hlk0, hno⟩ | ⟨e0, hlk0, h2, h3⟩
  · have hlk : ∀ w', Below W1.heap.size W1 w' → (Instr.lookup 73 (.map (some bm)) (.agg #[.int .i64 x, .int .i64 y]) true).run Tryz.prog w' = .ok (.tuple #[.slice none 0 0, .bool false]) w' := fun w' h => hlk0 w' (hm1 w' h)
    have HK : Hid (∀ w', Below W1.heap.size W1 w' → (w'.cell? ⟨b, o + 2, none⟩ = some (.map (some bm)) ∧ w'.cell? ⟨W.heap.size, 4, none⟩ = some (.int .i64 x) ∧ w'.cell? ⟨W.heap.size, 5, none⟩ = some (.int .i64 y)) ∧ (Instr.lookup 73 (.map (some bm)) (.agg #[.int .i64 x, .int .i64 y]) true).run Tryz.prog w' = .ok (.tuple #[.slice none 0 0, .bool false]) w') := fun w' h => ⟨⟨(hcl w' h).1, (hcl w' h).2.2⟩, hlk w' h⟩
    have hbm : b ≠ bm := fun h => by rw [h, hm] at hb; cases hb
    obtain ⟨W2, hW2⟩ : ∃ W2, (W1.alloc (.cells #[.slice none 0 0] 142)).drew = W2 := ⟨_, rfl⟩
    have B2 : Below W1.heap.size W1 W2 := by rw [← hW2]; exact ((Below.refl _ W1).alloc (Nat.le_refl _) _).drew
    have z2 : W2.heap.size = W.heap.size + 1 + 1 := by rw [← hW2, ← z1]; show (W1.alloc _).heap.size = _; simp
    have xl : W2.heap[W.heap.size + 1]? = some (.cells #[.slice none 0 0] 142 (0, 0)) := by rw [← hW2, ← z1]; exact heap_alloc_new W1 _
    have hTl : Told (W.heap.size + 1) [] W2 := ⟨_, xl, by simpa [evCs] using World.ownsRow_nil W2 (W.heap.size + 1 + 1) 83 4⟩
    have hmx : 7 < W.heap.size := by
      rcases Nat.lt_or_ge 7 W.heap.size with h | h
      · exact h
      · simp [World.cell?, Array.getElem?_eq_none h] at hml
    have hB02 : Below W.heap.size W W2 := hb1.trans (B2.mono (by omega))
    have c1 := leaves_any 62 do_stands m (W.heap.size + 1) t W2 hTl ht (by omega) ((hB02.cell (p := ⟨7, 0, none⟩) hmx).trans hml)
    have hno2 : ∀ i, i < W.heap.size + 1 → ¬ Own (W.heap.size + 1) W2 i := by
      intro i hi ho
      rcases ho with h | ⟨u, hu, hub⟩
      · omega
      · rw [xl] at hu
        rw [← one_inj hu] at hub
        cases hub
    have c2 : Calls Tryz.prog 61 #[.string ⟨t.toArray⟩, .func (.func 62) #[] #[.pointer (some ⟨W.heap.size + 1, 0, none⟩)]] W2 fun e w3 => e = .returned (.tuple #[]) ∧ ∃ p ln cp, (∀ w', Below w3.heap.size w3 w' → w'.cell? ⟨b, o + 2, none⟩ = some (.map (some bm)) ∧ w'.cell? ⟨W.heap.size, 4, none⟩ = some (.int .i64 x) ∧ w'.cell? ⟨W.heap.size, 5, none⟩ = some (.int .i64 y) ∧ w'.cell? ⟨W.heap.size + 1, 0, none⟩ = some (.slice p ln cp)) ∧ (Instr.mapUpdate 73 (.map (some bm)) (.agg #[.int .i64 x, .int .i64 y]) (.slice p ln cp)).run Tryz.prog w3.drew = .ok () (mapAdd w3.drew bm es clock x y (.slice p ln cp)) ∧ Hid (w3.heap[bm]? = some (.map es clock) ∧ w3.ownsRow (W.heap.size + 1 + 1) 83 4 (.slice p ln cp) (inX t).length (evCs (inX t)) ∧ (∀ i, i < W.heap.size + 1 → w3.heap[i]? = W2.heap[i]?) ∧ w3.heap[W.heap.size + 1]? = some (.cells #[.slice p ln cp] 142 (0, 0)) ∧ W2.heap.size ≤ w3.heap.size ∧ w3.os = W2.os ∧ w3.tape = W2.tape ∧ w3.output = W2.output) := by
      refine c1.mono ?_
      rintro e w3 ⟨rfl, ⟨v, hv, hown⟩, K⟩
      have hfr : ∀ i, i < W.heap.size + 1 → w3.heap[i]? = W2.heap[i]? := fun i hi => K.block i (by omega) (by simp) (hno2 i hi)
      have hm3 : w3.heap[bm]? = some (.map es clock) := (hfr bm (by omega)).trans (hm1 W2 B2)
      obtain ⟨p, ln, cp, rfl⟩ : ∃ p ln cp, v = .slice p ln cp := by
        rcases Joins.ownsRow_forms hown with ⟨h, _⟩ | ⟨g', cap', h⟩
        · exact ⟨_, _, _, h⟩
        · exact ⟨_, _, _, h⟩
      refine ⟨rfl, p, ln, cp, ?_, map_put bm es clock x y _ w3.drew hm3 hok.spans hno, hm3, hown, hfr, hv, K.size, K.os, K.tape, K.output⟩
      intro w' hb'
      have q1 := (hb'.block b (by have := K.size; omega)).trans ((hfr b (by omega)).trans ((B2.block b (by omega)).trans ((hb1.block b hlt).trans hb)))
      have q2 := (hb'.block W.heap.size (by have := K.size; omega)).trans ((hfr _ (by omega)).trans ((B2.block _ (by omega)).trans xs))
      have q3 := (hb'.block (W.heap.size + 1) (by have := K.size; omega)).trans hv
      exact ⟨row_cell q1 hc, row_cell q2 rfl, row_cell q2 rfl, row_cell q3 rfl⟩
    have hst := (hcl W2 B2).2.1
    have HW2 : Hid ((W1.alloc (.cells #[.slice none 0 0] 142)).drew = W2) := hW2
    clear hlk hlk0 c1 hTl hW2
    go_enter Tryz.func48, Tryz.ntmps48
    go_wp2
    go_region_held3 (fun w' => (w'.cell? ⟨b, o + 2, none⟩ = some (.map (some bm)) ∧ w'.cell? ⟨W.heap.size, 4, none⟩ = some (.int .i64 x) ∧ w'.cell? ⟨W.heap.size, 5, none⟩ = some (.int .i64 y)) ∧ (Instr.lookup 73 (.map (some bm)) (.agg #[.int .i64 x, .int .i64 y]) true).run Tryz.prog w' = .ok (.tuple #[.slice none 0 0, .bool false]) w') (first | exact HK.out _ B2 | exact HK.out _ hB0 | exact HK.out _ (hB0.alloc (Nat.le_refl _) _) | exact HK.out _ ((hB0.alloc (Nat.le_refl _) _).setCell (Nat.le_refl _) _)) (fail)
    all_goals
      rw [HW2.out]
      go_wp2_with (go_at_call 61; refine c2.mono ?_; rintro e w3 ⟨rfl, p, ln, cp, hk3, hput, HF⟩)
      have HK3 : Hid _ := hk3
      have hD3 : Below w3.heap.size w3 w3.drew := (Below.refl _ w3).drew
      have hm3 := HF.out.1
      obtain ⟨a1, a2, a3, a4, a5, a6⟩ := map_added bm es clock x y (.slice p ln cp) w3.drew hm3
      have HKA : Hid ((mapAdd w3.drew bm es clock x y (.slice p ln cp)).cell? ⟨b, o + 2, none⟩ = some (.map (some bm)) ∧ (mapAdd w3.drew bm es clock x y (.slice p ln cp)).cell? ⟨W.heap.size, 4, none⟩ = some (.int .i64 x) ∧ (mapAdd w3.drew bm es clock x y (.slice p ln cp)).cell? ⟨W.heap.size, 5, none⟩ = some (.int .i64 y) ∧ (mapAdd w3.drew bm es clock x y (.slice p ln cp)).cell? ⟨W.heap.size + 1, 0, none⟩ = some (.slice p ln cp)) := by
        have q1 := HF.out.2.2.1 b (by omega)
        refine ⟨?_, ?_, ?_, ?_⟩
        · exact (World.cell?_of_block (w := w3.drew) (a2 b hbm) : _ = w3.drew.cell? ⟨b, o + 2, none⟩).trans (hk3 _ hD3).1
        · exact (World.cell?_of_block (w := w3.drew) (a2 W.heap.size (by omega)) : _ = w3.drew.cell? ⟨W.heap.size, 4, none⟩).trans (hk3 _ hD3).2.1
        · exact (World.cell?_of_block (w := w3.drew) (a2 W.heap.size (by omega)) : _ = w3.drew.cell? ⟨W.heap.size, 5, none⟩).trans (hk3 _ hD3).2.2.1
        · exact (World.cell?_of_block (w := w3.drew) (a2 (W.heap.size + 1) (by omega)) : _ = w3.drew.cell? ⟨W.heap.size + 1, 0, none⟩).trans (hk3 _ hD3).2.2.2
      clear hk3
      go_region_held3 (fun w' => w'.cell? ⟨b, o + 2, none⟩ = some (.map (some bm)) ∧ w'.cell? ⟨W.heap.size, 4, none⟩ = some (.int .i64 x) ∧ w'.cell? ⟨W.heap.size, 5, none⟩ = some (.int .i64 y) ∧ w'.cell? ⟨W.heap.size + 1, 0, none⟩ = some (.slice p ln cp)) (first | exact HK3.out _ hD3 | exact HKA.out) (fail)
      obtain ⟨_, _, _, hl4⟩ := HKA.out
      go_wp2
      go_ret
      obtain ⟨_, own3, fr3, _, sz3, os3, tp3, op3⟩ := HF.out
      have frw : ∀ i, i < W.heap.size → i ≠ bm → (mapAdd w3.drew bm es clock x y (.slice p ln cp)).heap[i]? = W.heap[i]? := fun i hi hne => (a2 i hne).trans ((fr3 i (by omega)).trans ((B2.block i (by omega)).trans (hb1.block i hi)))
      have hrow : EvRow (.slice p ln cp) (inX t) (mapAdd w3.drew bm es clock x y (.slice p ln cp)) := EvRow.keep (W := w3) (Joins.ownsRow_le own3 (Nat.zero_le _)) (fun g hg => a2 g (by have := (own3.lt g hg).1; omega))
      refine ⟨p, ln, cp, _, _, rfl, hrow, a1, ?_, ⟨{ key := .agg #[.int .i64 x, .int .i64 y], val := .slice p ln cp, born := clock }, by simp, rfl⟩, ?_, ?_, frw, ?_, a4.trans (os3.trans hB02.os), a5.trans (tp3.trans hB02.tape), a6.trans (op3.trans hB02.output)⟩
      · intro e' he'
        rw [Array.toList_push, List.mem_append, List.mem_singleton] at he'
        rcases he' with he' | rfl
        · obtain ⟨t', x', y', q1, q2, q3⟩ := hok e' he'
          refine ⟨t', x', y', q1, q2, q3.keep fun g hg => frw g (q3.lt hg) (fun h => ?_)⟩
          obtain ⟨cur, hcur⟩ := q3.typ hg
          rw [h, hm] at hcur
          cases hcur
        · exact ⟨t, x, y, rfl, hin, hrow⟩
      · intro e' he'
        rw [Array.toList_push, List.mem_append, List.mem_singleton] at he'
        rcases he' with he' | rfl
        · exact Or.inl he'
        · exact Or.inr fun g hg => by have := (own3.lt g hg).1; omega
      · intro e' he'
        rw [Array.toList_push, List.mem_append]
        exact Or.inl he'
      · rw [a3]
        show _ ≤ w3.heap.size
        omega
  · obtain ⟨t0, x0, y0, q1, q2, q3⟩ := hok e0 h2
    have hxy := spK_inj (q1.symm.trans h3)
    obtain ⟨rfl, rfl⟩ := hxy
    have htt := leaf_one hs0 q2 hin
    subst htt
    have key : ∀ p ln cp, e0.val = .slice p ln cp → _ := fun p ln cp hvv => by
      rw [hvv] at q3
      exact q3
    obtain ⟨p, ln, cp, hvv⟩ : ∃ p ln cp, e0.val = .slice p ln cp := by
      rcases q3.2 with ⟨h, _⟩ | ⟨g, cap, cur, h, _⟩
      · exact ⟨_, _, _, h⟩
      · exact ⟨_, _, _, h⟩
    have hrowW := key p ln cp hvv
    rw [hvv] at hlk0
    have HK : Hid (∀ w', Below W1.heap.size W1 w' → (w'.cell? ⟨b, o + 2, none⟩ = some (.map (some bm)) ∧ w'.cell? ⟨W.heap.size, 4, none⟩ = some (.int .i64 x0) ∧ w'.cell? ⟨W.heap.size, 5, none⟩ = some (.int .i64 y0)) ∧ (Instr.lookup 73 (.map (some bm)) (.agg #[.int .i64 x0, .int .i64 y0]) true).run Tryz.prog w' = .ok (.tuple #[.slice p ln cp, .bool true]) w') := fun w' h => ⟨⟨(hcl w' h).1, (hcl w' h).2.2⟩, hlk0 w' (hm1 w' h)⟩
    obtain ⟨W2, hW2⟩ : ∃ W2, (W1.alloc (.cells #[.slice p ln cp] 142)).drew = W2 := ⟨_, rfl⟩
    have B2 : Below W1.heap.size W1 W2 := by rw [← hW2]; exact ((Below.refl _ W1).alloc (Nat.le_refl _) _).drew
    have xl : W2.heap[W1.heap.size]? = some (.cells #[.slice p ln cp] 142 (0, 0)) := by rw [← hW2]; exact heap_alloc_new W1 _
    have hB02 : Below W.heap.size W W2 := hb1.trans (B2.mono (by omega))
    have hl2 := cell_of_one xl
    rw [z1] at hl2
    have HW2 : Hid ((W1.alloc (.cells #[.slice p ln cp] 142)).drew = W2) := hW2
    clear hlk0 hW2
    go_enter Tryz.func48, Tryz.ntmps48
    go_wp2
    go_region_held3 (fun w' => (w'.cell? ⟨b, o + 2, none⟩ = some (.map (some bm)) ∧ w'.cell? ⟨W.heap.size, 4, none⟩ = some (.int .i64 x0) ∧ w'.cell? ⟨W.heap.size, 5, none⟩ = some (.int .i64 y0)) ∧ (Instr.lookup 73 (.map (some bm)) (.agg #[.int .i64 x0, .int .i64 y0]) true).run Tryz.prog w' = .ok (.tuple #[.slice p ln cp, .bool true]) w') (first | exact HK.out _ B2 | exact HK.out _ hB0 | exact HK.out _ (hB0.alloc (Nat.le_refl _) _) | exact HK.out _ ((hB0.alloc (Nat.le_refl _) _).setCell (Nat.le_refl _) _)) (fail)
    all_goals
      rw [HW2.out]
      go_wp2
      go_ret
      refine ⟨p, ln, cp, es, clock, rfl, hrowW.keep fun g hg => hB02.block g (hrowW.lt hg), hm1 W2 B2, hok.keep fun e he g hg => ?_, ⟨e0, h2, hvv⟩, fun e' he' => Or.inl he', fun e' he' => he', fun i hi _ => hB02.block i hi, hB02.size, hB02.os, hB02.tape, hB02.output⟩
      obtain ⟨t', x', y', q1', q2', q3'⟩ := hok e he
      exact hB02.block g (q3'.lt hg)
end Go.Proofs.YtljcljipppjnoabGreatDoor

namespace Go.Proofs.YtljcljipppjnoabGreatDoor
open Go.RowKit Go.Shelf
def EvAt (b o k : Nat) (v : Value) (bm : Nat) (es : Array MapEntry) (clock : Nat) (c : Array Value) (T : TypeId) (W : World) : Prop :=
  W.heap[b]? = some (.cells c T (0, 0)) ∧ c[o]? = some v ∧ c[o + 1]? = some (.int .i64 k) ∧ c[o + 2]? = some (.map (some bm)) ∧ W.heap[bm]? = some (.map es clock)
structure EvS (b o : Nat) (S0 S : List Stp) (k : Nat) (W : World) : Prop where
  suf : S <:+ S0
  sp : ∃ n, SpIn 0 n S0
  txt : ∀ t x y, Stp.leaf t x y ∈ S0 → t.length ≤ 16777216
  small : (∀ t x y, Stp.leaf t x y ∈ S0 → (inX t).length ≤ 1099511627776)
  told : (∀ e r, S = .ev e :: r → k = 0) ∧ (S = [] → k = 0) ∧ ∀ t x y r, S = .leaf t x y :: r → k ≤ (inX t).length
  box : ∃ v bm es clock c T, EvAt b o k v bm es clock c T W ∧ (T ≠ 129 ∧ T ≠ 83) ∧ StpV v S W ∧ MapOk es S0 W
def EvOwn (b o : Nat) (W : World) (x : Nat) : Prop :=
  x = b ∨ ∃ c T, W.heap[b]? = some (.cells c T (0, 0)) ∧ ((∃ v, c[o]? = some v ∧ v.ownBlock = some x) ∨ ∃ bm, c[o + 2]? = some (.map (some bm)) ∧ (x = bm ∨ ∃ es clock e, W.heap[bm]? = some (.map es clock) ∧ e ∈ es.toList ∧ e.val.ownBlock = some x))
structure Kv (Ow : World → Nat → Prop) (W w' : World) : Prop where
  os : w'.os = W.os
  tape : w'.tape = W.tape
  output : w'.output = W.output
  size : W.heap.size ≤ w'.heap.size
  block : ∀ b, b < W.heap.size → ¬ Ow W b → w'.heap[b]? = W.heap[b]?
  own : ∀ b, b < W.heap.size → Ow w' b → Ow W b
theorem Kv.refl (Ow : World → Nat → Prop) (W : World) : Kv Ow W W := ⟨rfl, rfl, rfl, Nat.le_refl _, fun _ _ _ => rfl, fun _ _ h => h⟩
theorem Kv.trans {Ow : World → Nat → Prop} {a b c : World} (h : Kv Ow a b) (k : Kv Ow b c) : Kv Ow a c :=
  ⟨k.os.trans h.os, k.tape.trans h.tape, k.output.trans h.output, Nat.le_trans h.size k.size, fun i hi ho => (k.block i (Nat.lt_of_lt_of_le hi h.size) fun ho' => ho (h.own i hi ho')).trans (h.block i hi ho), fun i hi ho => h.own i hi (k.own i (Nat.lt_of_lt_of_le hi h.size) ho)⟩
theorem ev_kv {b o k k' : Nat} {v v' : Value} {bm : Nat} {es es' : Array MapEntry} {clock clock' : Nat} {c c' : Array Value} {T T' : TypeId} {W w' : World} (h : EvAt b o k v bm es clock c T W) (h' : EvAt b o k' v' bm es' clock' c' T' w')
    (hv : ∀ x, v'.ownBlock = some x → v.ownBlock = some x ∨ W.heap.size ≤ x) (hes : ∀ e ∈ es'.toList, e ∈ es.toList ∨ ∀ g, e.val.ownBlock = some g → W.heap.size ≤ g) (hfr : ∀ i, i < W.heap.size → i ≠ b → i ≠ bm → w'.heap[i]? = W.heap[i]?) (hz : W.heap.size ≤ w'.heap.size) (h1 : w'.os = W.os) (h2 : w'.tape = W.tape) (h3 : w'.output = W.output) : Kv (EvOwn b o) W w' := by
  obtain ⟨a1, a2, a3, a4, a5⟩ := h
  obtain ⟨b1, b2, b3, b4, b5⟩ := h'
  refine ⟨h1, h2, h3, hz, fun i hi ho => hfr i hi (fun e => ho (Or.inl e)) (fun e => ho (Or.inr ⟨c, T, a1, Or.inr ⟨bm, a4, Or.inl e⟩⟩)), fun i hi ho => ?_⟩
  rcases ho with ho | ⟨d, U, q1, q2⟩
  · exact Or.inl ho
  · rw [b1] at q1
    injection q1 with q1
    injection q1 with q1 _
    subst q1
    rcases q2 with ⟨u, q3, q4⟩ | ⟨bm', q3, q4⟩
    · rw [b2] at q3
      injection q3 with q3
      subst q3
      rcases hv i q4 with hv | hv
      · exact Or.inr ⟨c, T, a1, Or.inl ⟨v, a2, hv⟩⟩
      · omega
    · rw [b4] at q3
      injection q3 with q3
      injection q3 with q3
      injection q3 with q3
      subst q3
      rcases q4 with q4 | ⟨es2, cl2, e, q5, q6, q7⟩
      · exact Or.inr ⟨c, T, a1, Or.inr ⟨bm, a4, Or.inl q4⟩⟩
      · rw [b5] at q5
        injection q5 with q5
        injection q5 with q5 _
        subst q5
        rcases hes e q6 with q8 | q8
        · exact Or.inr ⟨c, T, a1, Or.inr ⟨bm, a4, Or.inr ⟨es, clock, e, a5, q8, q7⟩⟩⟩
        · have := q8 i q7
          omega
theorem EvS.lt {b o : Nat} {S0 S : List Stp} {k : Nat} {W : World} (h : EvS b o S0 S k W) {x : Nat} (hx : EvOwn b o W x) : x < W.heap.size := by
  obtain ⟨v, bm, es, clock, c, T, ⟨a1, a2, a3, a4, a5⟩, _, hv, hm⟩ := h.box
  rcases hx with rfl | ⟨d, U, q1, q2⟩
  · exact lt_of_block a1
  · rw [a1] at q1
    injection q1 with q1
    injection q1 with q1 _
    subst q1
    rcases q2 with ⟨u, q3, q4⟩ | ⟨bm', q3, q4⟩
    · rw [a2] at q3
      injection q3 with q3
      subst q3
      obtain ⟨cur, hc⟩ := hv.typ q4
      exact lt_of_block hc
    · rw [a4] at q3
      injection q3 with q3
      injection q3 with q3
      injection q3 with q3
      subst q3
      rcases q4 with rfl | ⟨es2, cl2, e, q5, q6, q7⟩
      · exact (Array.getElem?_eq_some_iff.1 a5).1
      · rw [a5] at q5
        injection q5 with q5
        injection q5 with q5 _
        subst q5
        obtain ⟨t, x', y, _, _, h3⟩ := hm e q6
        exact h3.lt q7
theorem EvS.keep {b o : Nat} {S0 S : List Stp} {k : Nat} {W w' : World} (h : EvS b o S0 S k W) (hk : ∀ x, EvOwn b o W x → w'.heap[x]? = W.heap[x]?) : EvS b o S0 S k w' ∧ ∀ x, EvOwn b o w' x → EvOwn b o W x := by
  obtain ⟨v, bm, es, clock, c, T, ⟨a1, a2, a3, a4, a5⟩, hT, hv, hm⟩ := h.box
  have k1 := hk b (Or.inl rfl)
  have k2 := hk bm (Or.inr ⟨c, T, a1, Or.inr ⟨bm, a4, Or.inl rfl⟩⟩)
  refine ⟨⟨h.suf, h.sp, h.txt, h.small, h.told, v, bm, es, clock, c, T, ⟨k1.trans a1, a2, a3, a4, k2.trans a5⟩, hT, hv.keep fun g hg => hk g (Or.inr ⟨c, T, a1, Or.inl ⟨v, a2, hg⟩⟩), hm.keep fun e he g hg => hk g (Or.inr ⟨c, T, a1, Or.inr ⟨bm, a4, Or.inr ⟨es, clock, e, a5, he, hg⟩⟩⟩)⟩, fun x ho => ?_⟩
  rcases ho with ho | ⟨d, U, q1, q2⟩
  · exact Or.inl ho
  · rw [k1] at q1
    refine Or.inr ⟨d, U, q1, q2.imp id fun ⟨bm', q3, q4⟩ => ⟨bm', q3, q4.imp id fun ⟨es2, cl2, e, q5, q6, q7⟩ => ⟨es2, cl2, e, ?_, q6, q7⟩⟩⟩
    rw [a1] at q1
    injection q1 with q1
    injection q1 with q1 _
    subst q1
    rw [a4] at q3
    injection q3 with q3
    injection q3 with q3
    injection q3 with q3
    subst q3
    rw [← k2]
    exact q5
theorem suf_mem {S S0 : List Stp} (h : S <:+ S0) {s : Stp} {r : List Stp} (hs : S = s :: r) : s ∈ S0 := by
  subst hs
  exact h.subset (by simp)
theorem suf_tail {S0 : List Stp} {s : Stp} {r : List Stp} (h : s :: r <:+ S0) : r <:+ S0 := (List.suffix_cons s r).trans h
theorem StpV.head {v : Value} {s : Stp} {r : List Stp} {W : World} (h : StpV v (s :: r) W) : ∃ g o cap, v = .slice (some ⟨g, o, none⟩) (r.length + 1) cap ∧ r.length + 1 ≤ cap ∧ cap ≤ 9223372036854775807 ∧ (∀ j u, (stpCells s)[j]? = some u → W.cell? ⟨g, o + j, none⟩ = some u) ∧ StpV (.slice (some ⟨g, o + 6, none⟩) r.length (cap - 1)) r W ∧ (cap = 1 → StpV (.slice (some ⟨g, o, none⟩) r.length 0) r W) := by
  rcases h with ⟨h, _⟩ | ⟨g, o, cap, cur, hv, h1, h2, h3, h4⟩
  · cases h
  · rw [List.length_cons] at hv h1
    refine ⟨g, o, cap, hv, h1, h2, fun j u hj => ?_, Or.inr ⟨g, o + 6, cap - 1, cur, rfl, by omega, by omega, h3, fun i s' hi j u hj => ?_⟩, fun hc => Or.inr ⟨g, o, 0, cur, rfl, by omega, by omega, h3, fun i s' hi j u hj => ?_⟩⟩
    · have := h4 0 s rfl j u hj
      rw [Nat.zero_mul, Nat.add_zero] at this
      exact row_cell h3 this
    · have := h4 (i + 1) s' (by simpa using hi) j u hj
      rw [show o + 6 + i * 6 + j = o + (i + 1) * 6 + j by omega]
      exact this
    · have : i < r.length := (List.getElem?_eq_some_iff.1 hi).1
      omega
end Go.Proofs.YtljcljipppjnoabGreatDoor
