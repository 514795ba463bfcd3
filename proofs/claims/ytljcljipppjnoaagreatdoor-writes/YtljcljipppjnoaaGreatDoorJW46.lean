import Derived.Test.YtljcljipppjnoaaGreatDoorJW26
import Derived.Test.YtljcljipppjnoaaGreatDoorJW27
import Derived.Test.YtljcljipppjnoaaGreatDoorJW43
import Derived.Test.YtljcljipppjnoaaGreatDoorJW45
import Derived.Laws.IdiomStrings
import Derived.Shelf.Bytes.SlSmallAll
import Derived.Deep.RegionHeld3
namespace Go.Proofs.YtljcljipppjnoaaGreatDoor
open Go.RowKit Go.Shelf

/-- What Html tells. -/
structure Wn where
  err : Int
  N : Int
  cnt : Int
  got : List UInt8
  of : Nat
  mo : Nat
  rd : Int
/-- What it has to do with the text and the sink. -/
structure HtRel (q : Gh) (s : Option Ou) (r : Wn) : Prop where
  mo : r.mo ≤ 16
  rd : r.rd = q.n
  fine : (∃ t, q.o = .fine t) → (r.err = 0 ∧ r.N = 0 ∧ ∃ (tk of : Nat) (got : List UInt8), Run (uOf s).one (uOf s).fa (uOf s).la (uOf s).li (pageS (evq q)) of tk got [] [] ∧ r.cnt = tk ∧ (s.isSome = true → r.got = got ∧ r.of = of)) ∨ (∃ (u : Ou) (wr : Bool) (N : Nat), s = some u ∧ Bad u.one u.fa u.la u.li (pageS (evq q)) wr r.of N r.got ∧ r.N = N ∧ r.cnt = N ∧ r.err = if wr then 5 else 3)
  bad : (¬ ∃ t, q.o = .fine t) → r.err = outErr q.o ∧ r.N = outN q.o ∧ r.cnt = 0 ∧ r.of = 0 ∧ r.got = []
  none : s = none → r.of = 0 ∧ r.got = []

theorem got_conv {got : List UInt8} {gv : Value} {w : World} (h : w.ownsRow 0 5 1 gv got.length (Lib.byteCells got)) : (convert 107 9 gv).run Tryz.prog w = .ok (.string ⟨got.toArray⟩) w := by
  rcases Joins.ownsRow_forms h with ⟨rfl, h0⟩ | ⟨g, cap, rfl⟩
  · have := run_convert_bytes_zero (P := Tryz.prog) w 107 5 Tryz.underlying107 Tryz.underlying5 none 0 9 Tryz.underlying9
    rw [this, List.eq_nil_of_length_eq_zero h0]
    rfl
  · refine run_convert_bytes_back w 107 9 5 ⟨g, 0, none⟩ cap got Tryz.underlying107 Tryz.underlying5 Tryz.underlying9 (fun j hj => ?_)
    exact h.cells (g := g) rfl j _ (by simp [Lib.byteCells, hj])

/-- What lies behind a writing, as Html reads it. -/
structure HtBehind (q : Gh) (s : Option Ou) (bs bk : Nat) (n : Int) (ev gv : Value) (r : Wn) (w' : World) : Prop where
  form : ev = .nilIface ∨ ∃ t x, ev = .iface t x
  c5 : w'.cell? ⟨bk, 5, none⟩ = some (.int .i64 r.of)
  c6 : w'.cell? ⟨bk, 6, none⟩ = some (.int .i64 r.mo)
  c7 : w'.cell? ⟨bk, 7, none⟩ = some (.bool false)
  c8 : w'.cell? ⟨bk, 8, none⟩ = some gv
  own : w'.ownsRow 0 5 1 gv r.got.length (Lib.byteCells r.got)
  c4 : w'.cell? ⟨bs, 4, none⟩ = some (.int .i64 r.rd)
  lt : bk < w'.heap.size ∧ bs < w'.heap.size
  cnt : r.cnt = n
  told : ∀ w, Below w'.heap.size w' w → Calls Tryz.prog 49 #[ev] w fun e2 w2 => e2 = .returned (.agg #[.int .i64 r.err, .int .i64 r.N]) ∧ Below w.heap.size w w2
  rel : HtRel q s r

/-- Write, as Html sees it. -/
theorem write_told {w0 : World} {aL aI : Addr} {m : Int} {aS : Addr} (B : Base w0 aL aI m) (hS : w0.cell? ⟨0, 0, none⟩ = some (sinkV aS)) {q : Gh} (hq : q.Ok) {u : Ou} (hu : u.Ok w0) (snk : Bool) {bs bk : Nat} {cv : Value} {OS : Nat → Prop} {W : World} (hW : Below w0.heap.size w0 W) (hlow : ∀ x, OS x → w0.heap.size ≤ x) (hlk : w0.heap.size ≤ bk) (s1 : SrcAt bs q.tx cv q.fa q.wt 0 false W) (s2 : CutsOK bs cv q.cs W) (s3 : ∀ g o l c, cv = .slice (some ⟨g, o, none⟩) l c → OS g) (os : OS bs) (oslt : ∀ x, OS x → x < W.heap.size) (nk : ¬ OS bk)
    (hk : SnkAt bk u.tv 0 u.fa u.la u.li 0 0 false (.slice none 0 0) W) :
    Calls Tryz.prog 54 #[srcV q bs, svOf (if snk = true then some u else none) bk] W fun e w' => ∃ (n : Int) (ev gv : Value) (r : Wn), e = .returned (.tuple #[.int .i64 n, ev]) ∧ HtBehind q (if snk = true then some u else none) bs bk n ev gv r w' ∧ Fp (fun x => OS x ∨ x = bk) (fun _ => False) W w' := by
  have hz := hW.size
  have hbk := hk.lt
  have sk0 : SkAt u bk 0 0 [] (fun x => x = bk) W := ⟨⟨0, .slice none 0 0, hk, ⟨rfl, Or.inl ⟨rfl, rfl⟩⟩, (fun x hx => by cases hx), Nat.le_refl _⟩, rfl, fun x hx => by omega⟩
  obtain ⟨OK, hOK⟩ : ∃ OK : Nat → Prop, OK = fun x => snk = true ∧ x = bk := ⟨_, rfl⟩
  have okb : ∀ x, OK x → x = bk := fun x hx => by rw [hOK] at hx; exact hx.2
  have hsk : ∀ u', (if snk = true then some u else none) = some u' → u' = u ∧ SkAt u bk 0 0 [] OK W ∧ snk = true := by
    intro u' h
    cases snk with
    | true =>
      simp at h
      obtain ⟨a, gv, h1, h2, h3, h4⟩ := sk0.box
      have hob : OK bk := by rw [hOK]; exact ⟨rfl, rfl⟩
      exact ⟨h.symm, ⟨⟨a, gv, h1, h2, fun x hx => ⟨(h3 x hx).1 ▸ hob, (h3 x hx).2⟩, h4⟩, hob, fun x hx => by have := okb x hx; omega⟩, rfl⟩
    | false => simp at h
  have hT := B.to hW
  refine (write_any B hS hq (s := if snk = true then some u else none) (fun u' h => (hsk u' h).1 ▸ hu) (OK := OK) hW (fun x hx => hx.elim (hlow x) (fun h => by have := okb x h; omega)) s1 s2 s3 os oslt (fun u' h => (hsk u' h).1 ▸ (hsk u' h).2.1) (fun x hx => by have := okb x hx; omega) (fun x h1 h2 => nk (okb x h2 ▸ h1))).mono ?_
  rintro e w' ⟨OI', OK', d1, hf, ⟨tx', cv', ov', hsrc⟩, o1, o2, o3, hfin, hbad⟩
  have fp : Fp (fun x => OS x ∨ x = bk) (fun _ => False) W w' := ⟨hf.os, hf.tape, hf.output, hf.size, fun x hx ho => hf.block x hx fun h => ho (h.imp id (okb x)), fun x hx => hx.elim⟩
  have bW : Below w0.heap.size w0 w' := hW.trans (fp.under hz (fun x hx => hx.elim (hlow x) (fun h => by omega)))
  have G' := (B.to bW).glob
  have hS' : w'.cell? ⟨0, 0, none⟩ = some (sinkV aS) := (bW.cell (p := ⟨0, 0, none⟩) (lt_cell hS)).trans hS
  have c4 := hsrc.cells.2.2.2.2.1
  have lts := lt_cell c4
  have hzf := hf.size
  -- the sink's own box, where nobody asked it
  have quiet : snk = false → SnkAt bk u.tv 0 u.fa u.la u.li 0 0 false (.slice none 0 0) w' := fun h => (hf.block bk hbk (by
    rintro (h1 | h1)
    · exact nk h1
    · rw [hOK, h] at h1; cases h1.1)).trans hk
  have nil0 : w'.ownsRow 0 5 1 (.slice none 0 0) ([] : List UInt8).length (Lib.byteCells []) := ⟨rfl, Or.inl ⟨rfl, rfl⟩⟩
  -- what the sink's box tells
  have box : ∀ (of mo : Nat) (got : List UInt8) (O : Nat → Prop), SkAt u bk of mo got O w' → ∃ gv, w'.cell? ⟨bk, 5, none⟩ = some (.int .i64 of) ∧ w'.cell? ⟨bk, 6, none⟩ = some (.int .i64 mo) ∧ w'.cell? ⟨bk, 7, none⟩ = some (.bool false) ∧ w'.cell? ⟨bk, 8, none⟩ = some gv ∧ w'.ownsRow 0 5 1 gv got.length (Lib.byteCells got) := by
    intro of mo got O h
    obtain ⟨a, gv, h1, h2, _⟩ := h.box
    obtain ⟨_, _, _, _, _, k5, k6, k7, k8⟩ := h1.cells
    exact ⟨gv, k5, k6, k7, k8, h2⟩
  by_cases hfine : ∃ t, q.o = .fine t
  · rcases hfin hfine with ⟨bo, of, tk, mo, got, rfl, hr⟩ | ⟨t, x, u', of, N, mo, got, rfl, hsu, hF⟩
    · have tell : ∀ w, Below w'.heap.size w' w → Calls Tryz.prog 49 #[.nilIface] w fun e2 w2 => e2 = .returned (.agg #[.int .i64 0, .int .i64 0]) ∧ Below w.heap.size w w2 := fun w _ => of_nil w
      cases snk with
      | true =>
        obtain ⟨O1, k1, _⟩ := hr.snk u rfl
        obtain ⟨gv, k5, k6, k7, k8, k9⟩ := box of mo got O1 k1
        exact ⟨tk, .nilIface, gv, ⟨0, 0, tk, got, of, mo, q.n⟩, rfl, ⟨Or.inl rfl, k5, k6, k7, k8, k9, c4, ⟨by omega, lts⟩, rfl, tell, ⟨hr.mo, rfl, fun _ => Or.inl ⟨rfl, rfl, tk, of, got, hr.run, rfl, fun _ => ⟨rfl, rfl⟩⟩, fun hn => absurd hfine hn, (fun hn => by cases hn)⟩⟩, fp⟩
      | false =>
        have hq0 := quiet rfl
        obtain ⟨_, _, _, _, _, k5, k6, k7, k8⟩ := hq0.cells
        exact ⟨tk, .nilIface, .slice none 0 0, ⟨0, 0, tk, [], 0, 0, q.n⟩, rfl, ⟨Or.inl rfl, k5, k6, k7, k8, nil0, c4, ⟨by omega, lts⟩, rfl, tell, ⟨Nat.zero_le _, rfl, fun _ => Or.inl ⟨rfl, rfl, tk, of, got, hr.run, rfl, (fun hn => by cases hn)⟩, fun hn => absurd hfine hn, fun _ => ⟨rfl, rfl⟩⟩⟩, fp⟩
    · obtain ⟨hu', _, hsn⟩ := hsk u' hsu
      subst hu'
      subst hsn
      obtain ⟨O1, k1, _⟩ := hF.snk
      obtain ⟨gv, k5, k6, k7, k8, k9⟩ := box of mo got O1 k1
      obtain ⟨gE, er, wr, e1, e2, e3, e4, e5⟩ := hF.err
      have x0 := row_cell (i := 0) e2 rfl
      have x1 := row_cell (i := 1) e2 rfl
      have hgE := (Array.getElem?_eq_some_iff.1 e2).1
      refine ⟨N, .iface t x, gv, ⟨if wr then 5 else 3, N, N, got, of, mo, q.n⟩, rfl, ⟨Or.inr ⟨t, x, rfl⟩, k5, k6, k7, k8, k9, c4, ⟨by omega, lts⟩, rfl, fun w hw => ?_, ⟨hF.mo, rfl, fun _ => Or.inr ⟨u', wr, N, rfl, e4, rfl, rfl, rfl⟩, fun hn => absurd hfine hn, (fun hn => by cases hn)⟩⟩, fp⟩
      rw [e1]
      have y0 : w.cell? ⟨gE, 0, none⟩ = some (.int .i64 N) := (hw.cell (p := ⟨gE, 0, none⟩) hgE).trans x0
      have y1 : w.cell? ⟨gE, 1, none⟩ = some er := (hw.cell (p := ⟨gE, 1, none⟩) hgE).trans x1
      have hg : w.cell? ⟨3, 0, none⟩ = some (.iface 200 (.agg #[.pointer (some ⟨12, 98, none⟩)])) := (hw.cell (p := ⟨3, 0, none⟩) (lt_cell G'.type)).trans G'.type
      have hSw : w.cell? ⟨0, 0, none⟩ = some (sinkV aS) := (hw.cell (p := ⟨0, 0, none⟩) (lt_cell hS')).trans hS'
      rcases e5 with ⟨rfl, p, rfl⟩ | ⟨rfl, rfl⟩
      · exact of_write gE N p w hg y0 y1
      · exact of_sink gE N aS w hg hSw y0 y1
  · obtain ⟨⟨t, a, rfl, he⟩, hsk0⟩ := hbad hfine
    have tell : ∀ w, Below w'.heap.size w' w → Calls Tryz.prog 49 #[.iface t (.pointer (some a))] w fun e2 w2 => e2 = .returned (.agg #[.int .i64 (outErr q.o), .int .i64 (outN q.o)]) ∧ Below w.heap.size w w2 := fun w hw => (he.keep (fun x hx => hw.block x (o2 x hx))).told (G'.below hw)
    cases snk with
    | true =>
      obtain ⟨gv, k5, k6, k7, k8, k9⟩ := box 0 0 [] OK' (hsk0 u rfl)
      exact ⟨0, _, gv, ⟨outErr q.o, outN q.o, 0, [], 0, 0, q.n⟩, rfl, ⟨Or.inr ⟨_, _, rfl⟩, k5, k6, k7, k8, k9, c4, ⟨by omega, lts⟩, rfl, tell, ⟨Nat.zero_le _, rfl, fun hn => absurd hn hfine, fun _ => ⟨rfl, rfl, rfl, rfl, rfl⟩, (fun hn => by cases hn)⟩⟩, fp⟩
    | false =>
      have hq0 := quiet rfl
      obtain ⟨_, _, _, _, _, k5, k6, k7, k8⟩ := hq0.cells
      exact ⟨0, _, .slice none 0 0, ⟨outErr q.o, outN q.o, 0, [], 0, 0, q.n⟩, rfl, ⟨Or.inr ⟨_, _, rfl⟩, k5, k6, k7, k8, nil0, c4, ⟨by omega, lts⟩, rfl, tell, ⟨Nat.zero_le _, rfl, fun hn => absurd hn hfine, fun _ => ⟨rfl, rfl, rfl, rfl, rfl⟩, fun _ => ⟨rfl, rfl⟩⟩⟩, fp⟩

end Go.Proofs.YtljcljipppjnoaaGreatDoor

namespace Go.Proofs.YtljcljipppjnoaaGreatDoor
open Go.RowKit Go.Shelf

def wnV (r : Wn) : Value := .agg #[.int .i64 r.err, .int .i64 r.N, .int .i64 r.cnt, .string ⟨r.got.toArray⟩, .int .i64 r.of, .int .i64 r.mo, .bool false, .int .i64 r.rd]
/-- What Html answers. -/
def HtOut (q : Gh) (s : Option Ou) (W : World) (e : Ending) (w' : World) : Prop := ∃ r : Wn, e = .returned (wnV r) ∧ HtRel q s r ∧ Below W.heap.size W w'
abbrev wrZero : Obj := .cells #[.int .i64 0, .int .i64 0, .int .i64 0, .string ⟨#[]⟩, .int .i64 0, .int .i64 0, .bool false, .int .i64 0] 61 (0, 0)

/-- The world in which Html asks its source. -/
def htBegun (i o : Array Value) (W : World) : World := ((W.alloc (.cells i 33)).alloc (.cells o 58)).alloc (.cells #[.int .i64 0, .int .i64 0, .int .i64 0, .string ⟨#[]⟩, .int .i64 0, .int .i64 0, .bool false, .int .i64 0] 61)
theorem htBegun_facts (i o : Array Value) (W : World) : (htBegun i o W).heap.size = W.heap.size + 3 ∧ Below W.heap.size W (htBegun i o W) ∧ (htBegun i o W).heap[W.heap.size]? = some (.cells i 33 (0, 0)) ∧ (htBegun i o W).heap[W.heap.size + 1]? = some (.cells o 58 (0, 0)) ∧ (htBegun i o W).heap[W.heap.size + 1 + 1]? = some wrZero := by
  unfold htBegun
  refine ⟨by simp, (((Below.refl _ W).alloc (Nat.le_refl _) _).alloc (by simp) _).alloc (by simp; omega) _, ?_, ?_, heap_new _ _ (by simp)⟩
  · rw [Below.heap_alloc _ _ _ (by simp; omega), Below.heap_alloc _ _ _ (by simp)]
    exact heap_new _ _ rfl
  · rw [Below.heap_alloc _ _ _ (by simp)]
    exact heap_new _ _ (by simp)

/-- What the last statement reads. -/
def HtS (bk bs : Nat) (gv : Value) (r : Wn) (w' : World) : Prop := w'.cell? ⟨bk, 8, none⟩ = some gv ∧ w'.cell? ⟨bk, 5, none⟩ = some (.int .i64 r.of) ∧ w'.cell? ⟨bk, 6, none⟩ = some (.int .i64 r.mo) ∧ w'.cell? ⟨bk, 7, none⟩ = some (.bool false) ∧ w'.cell? ⟨bs, 4, none⟩ = some (.int .i64 r.rd) ∧ (convert 107 9 gv).run Tryz.prog w' = .ok (.string ⟨r.got.toArray⟩) w'
theorem ht_tail {q : Gh} {s : Option Ou} {bs bk rb : Nat} {n : Int} {ev gv : Value} {r : Wn} {w2 : World} (h : HtBehind q s bs bk n ev gv r w2) (hr : w2.heap[rb]? = some wrZero) (hne : bk ≠ rb ∧ bs ≠ rb) :
    (∀ w', (∀ x, x < w2.heap.size → x ≠ rb → w'.heap[x]? = w2.heap[x]?) → HtS bk bs gv r w') ∧
    Calls Tryz.prog 49 #[ev] w2.drew fun e w' => e = .returned (.agg #[.int .i64 r.err, .int .i64 r.N]) ∧ HtS bk bs gv r w' ∧ w'.heap[rb]? = some wrZero ∧ Hid (∀ x, x < w2.heap.size → w'.heap[x]? = w2.heap[x]?) ∧ Hid (Below w2.heap.size w2 w') := by
  have key : ∀ w', (∀ x, x < w2.heap.size → x ≠ rb → w'.heap[x]? = w2.heap[x]?) → HtS bk bs gv r w' := by
    intro w' hk
    have kb := hk bk h.lt.1 hne.1
    have ks := hk bs h.lt.2 hne.2
    refine ⟨(World.cell?_of_block kb).trans h.c8, (World.cell?_of_block kb).trans h.c5, (World.cell?_of_block kb).trans h.c6, (World.cell?_of_block kb).trans h.c7, (World.cell?_of_block ks).trans h.c4, got_conv ⟨h.own.1, ?_⟩⟩
    rcases h.own.2 with h0 | ⟨g, cap, cur, hv, hg, hh, rr⟩
    · exact Or.inl h0
    · refine Or.inr ⟨g, cap, cur, hv, hg, (hk g (Array.getElem?_eq_some_iff.1 hh).1 (fun e => ?_)).trans hh, rr⟩
      rw [e, hr] at hh
      injection hh with hh
      injection hh with _ hh _
      exact absurd hh (by decide)
  refine ⟨key, (h.told w2.drew ((Below.refl _ w2).drew)).mono ?_⟩
  rintro e w' ⟨rfl, b⟩
  have hb : ∀ x, x < w2.heap.size → w'.heap[x]? = w2.heap[x]? := fun x hx => b.block x hx
  exact ⟨rfl, key w' (fun x hx _ => hb x hx), (hb rb (Array.getElem?_eq_some_iff.1 hr).1).trans hr, hb, ⟨b.os, b.tape, b.output, b.size, b.block⟩⟩
theorem wr_put {rb : Nat} {w : World} (h : w.heap[rb]? = some wrZero) (a b c d e f g i : Value) :
    ((((((((w.setCell ⟨rb, 0, none⟩ a).setCell ⟨rb, 1, none⟩ b).setCell ⟨rb, 2, none⟩ c).setCell ⟨rb, 3, none⟩ d).setCell ⟨rb, 4, none⟩ e).setCell ⟨rb, 5, none⟩ f).setCell ⟨rb, 6, none⟩ g).setCell ⟨rb, 7, none⟩ i).heap[rb]? = some (.cells #[a, b, c, d, e, f, g, i] 61 (0, 0)) := by
  have h0 := Joins.block_setCell (i := 0) h a
  have h1 := Joins.block_setCell (i := 1) h0 b
  have h2 := Joins.block_setCell (i := 2) h1 c
  have h3 := Joins.block_setCell (i := 3) h2 d
  have h4 := Joins.block_setCell (i := 4) h3 e
  have h5 := Joins.block_setCell (i := 5) h4 f
  have h6 := Joins.block_setCell (i := 6) h5 g
  have h7 := Joins.block_setCell (i := 7) h6 i
  simpa using h7

set_option maxRecDepth 100000 in
set_option maxHeartbeats 4000000 in
theorem html_any {w0 : World} {aL aI : Addr} {m : Int} {aS : Addr} (B : Base w0 aL aI m) (hS : w0.cell? ⟨0, 0, none⟩ = some (sinkV aS)) {q : Gh} (hq : q.Ok) {u : Ou} (hu : u.Ok w0) (snk : Bool) (cv0 : Value) (W : World) (hW : Below w0.heap.size w0 W) (hN : NumsAt cv0 q.cs W) (md : Int) (hmd : (md = 0 ∧ q.src = true ∧ snk = true) ∨ (md = 1 ∧ q.src = false ∧ snk = true) ∨ (md = 2 ∧ q.src = true ∧ snk = false)) :
    Calls Tryz.prog 26 #[.agg #[.string q.tx, cv0, .int .i64 q.fa, .bool q.wt], .agg #[u.tv, .int .i64 u.fa, .int .i64 u.la, .int .i64 u.li], .int .i64 md] W (HtOut q (if snk = true then some u else none) W) := by
  obtain ⟨ca, n0, cp, hcv⟩ : ∃ ca n0 cp, cv0 = .slice ca n0 cp := by
    rcases hN with ⟨_, ca, cap, rfl⟩ | ⟨g, o, cap, rfl, _⟩
    · exact ⟨_, _, _, rfl⟩
    · exact ⟨_, _, _, rfl⟩
  subst hcv
  obtain ⟨ta, tl, tc, htv⟩ : ∃ ta tl tc, u.tv = .slice ta tl tc := by
    rcases hu.takes with ⟨_, ta, tc, h⟩ | ⟨_, tg, tp, tc, h, _⟩
    · exact ⟨_, _, _, h⟩
    · exact ⟨_, _, _, h⟩
  obtain ⟨z3, b3, i0, i1, i2⟩ := htBegun_facts #[.string q.tx, .slice ca n0 cp, .int .i64 q.fa, .bool q.wt] #[.slice ta tl tc, .int .i64 u.fa, .int .i64 u.la, .int .i64 u.li] W
  obtain ⟨W3, hW3⟩ : ∃ W3, htBegun #[.string q.tx, .slice ca n0 cp, .int .i64 q.fa, .bool q.wt] #[.slice ta tl tc, .int .i64 u.fa, .int .i64 u.la, .int .i64 u.li] W = W3 := ⟨_, rfl⟩
  rw [hW3] at z3 b3 i0 i1 i2
  have hz := hW.size
  have hN3 : NumsAt (.slice ca n0 cp) q.cs W3 := by
    rcases hN with h | ⟨g, o, cap, h1, h2, h3⟩
    · exact Or.inl h
    · refine Or.inr ⟨g, o, cap, h1, by omega, fun j c hj => ?_⟩
      rw [← h3 j c hj]
      exact World.cell?_of_block (b3.block g h2)
  have cS := source_new q.tx (.slice ca n0 cp) q.cs q.fa q.wt W3 hN3 hq.cuts
  have hW3' : Below w0.heap.size w0 W3 := hW.trans (b3.mono hz)
  -- behind the source: the sink is laid; Write
  have cW : ∀ (w1 : World) (bs : Nat) (cv : Value), W3.heap.size ≤ bs → SrcAt bs q.tx cv q.fa q.wt 0 false w1 → CutsOK bs cv q.cs w1 → (∀ g o l c, cv = .slice (some ⟨g, o, none⟩) l c → W3.heap.size ≤ g ∧ g ≠ bs ∧ g < w1.heap.size) → Below W3.heap.size W3 w1 →
      Calls Tryz.prog 54 #[srcV q bs, svOf (if snk = true then some u else none) w1.heap.size] (w1.alloc (.cells #[.slice ta tl tc, .int .i64 0, .int .i64 u.fa, .int .i64 u.la, .int .i64 u.li, .int .i64 0, .int .i64 0, .bool false, .slice none 0 0] 109)) fun e w' => ∃ (n : Int) (ev gv : Value) (r : Wn), e = .returned (.tuple #[.int .i64 n, ev]) ∧ Hid (HtBehind q (if snk = true then some u else none) bs w1.heap.size n ev gv r w') ∧ Hid (Below W3.heap.size W3 w' ∧ w1.heap.size + 1 ≤ w'.heap.size) := by
    intro w1 bs cv hbs d1 d2 d3 d4
    have hbl := d1.lt
    have z1 := d4.size
    obtain ⟨w2, hw2⟩ : ∃ w2, w1.alloc (.cells #[.slice ta tl tc, .int .i64 0, .int .i64 u.fa, .int .i64 u.la, .int .i64 u.li, .int .i64 0, .int .i64 0, .bool false, .slice none 0 0] 109) = w2 := ⟨_, rfl⟩
    have b2 : Below w1.heap.size w1 w2 := by rw [← hw2]; exact (Below.refl _ w1).alloc (Nat.le_refl _) _
    have z2 : w2.heap.size = w1.heap.size + 1 := by rw [← hw2]; simp
    have hk : SnkAt w1.heap.size u.tv 0 u.fa u.la u.li 0 0 false (.slice none 0 0) w2 := by
      rw [← hw2, htv]
      exact heap_new _ _ rfl
    obtain ⟨g, o, cap, hcv, a1, a2, a3, a4, a5⟩ := d2
    have hg := d3 g o _ _ hcv
    rw [hw2]
    refine (write_told B hS hq hu snk (OS := fun x => x = bs ∨ x = g) (hW3'.trans ((d4.trans (b2.mono z1)).mono hW3'.size)) ?_ (by have := hW3'.size; omega) ((b2.block bs hbl).trans d1) ⟨g, o, cap, hcv, a1, a2, a3, by omega, fun i c hi => (b2.cell (p := ⟨g, o + i, none⟩) a4).trans (a5 i c hi)⟩ ?_ (Or.inl rfl) ?_ ?_ hk).mono ?_
    · have := hW3'.size
      rintro x (h | h) <;> omega
    · intro g' o' l' c' he
      rw [hcv] at he
      injection he with he _ _
      injection he with he
      injection he with he _
      exact Or.inr he.symm
    · rintro x (h | h) <;> omega
    · rintro (h | h) <;> omega
    · rintro e w' ⟨n, ev, gv, r, h1, h2, h3⟩
      refine ⟨n, ev, gv, r, h1, h2, ?_, by have := h3.size; omega⟩
      refine (d4.trans (b2.mono z1)).trans (h3.under (by omega) ?_)
      rintro x ((h | h) | h) <;> omega
  have CW : Hid _ := cW
  have HB3 : Hid (Below W.heap.size W W3 ∧ W3.heap.size = W.heap.size + 3 ∧ W3.heap[W.heap.size + 1 + 1]? = some wrZero) := ⟨b3, z3, i2⟩
  have j0 := row_cell (i := 0) i0 rfl
  have j1 := row_cell (i := 1) i0 rfl
  have j2 := row_cell (i := 2) i0 rfl
  have j3 := row_cell (i := 3) i0 rfl
  have k0 := row_cell (i := 0) i1 rfl
  have k1 := row_cell (i := 1) i1 rfl
  have k2 := row_cell (i := 2) i1 rfl
  have k3 := row_cell (i := 3) i1 rfl
  -- the last region: what it reads
  have HW3 : Hid (htBegun #[.string q.tx, .slice ca n0 cp, .int .i64 q.fa, .bool q.wt] #[.slice ta tl tc, .int .i64 u.fa, .int .i64 u.la, .int .i64 u.li] W = W3) := hW3
  unfold htBegun at hW3
  rw [htv]
  clear cW hN hN3 hW3' i0 i1 i2 b3 z3 hW B hS hq hu htv HW3
  rcases hmd with ⟨rfl, hs, rfl⟩ | ⟨rfl, hs, rfl⟩ | ⟨rfl, hs, rfl⟩
  · simp only [srcV, hs, svOf, if_true, Option.isSome_some] at CW
    go_enter Tryz.func26, Tryz.ntmps26
    go_wp2_with (first
      | (go_at_call 45; refine cS.mono ?_; rintro e w1 ⟨bs, cv, rfl, d1, d2, d3, d4, d5⟩; have l0 := (d5.cell (p := ⟨W.heap.size + 1, 0, none⟩) (by show W.heap.size + 1 < _; have := HB3.out.2.1; omega)).trans k0; have l1 := (d5.cell (p := ⟨W.heap.size + 1, 1, none⟩) (by show W.heap.size + 1 < _; have := HB3.out.2.1; omega)).trans k1; have l2 := (d5.cell (p := ⟨W.heap.size + 1, 2, none⟩) (by show W.heap.size + 1 < _; have := HB3.out.2.1; omega)).trans k2; have l3 := (d5.cell (p := ⟨W.heap.size + 1, 3, none⟩) (by show W.heap.size + 1 < _; have := HB3.out.2.1; omega)).trans k3)
      | (go_at_call 54; refine (CW.out w1 bs cv d1 d2 d3 d4 d5).mono ?_; rintro e w2 ⟨n, ev, gv, r, rfl, HF, HG⟩; rcases HF.out.form with hev | ⟨t, x, hev⟩ <;> subst hev))
    all_goals
      have hr2 : w2.heap[W.heap.size + 1 + 1]? = some wrZero := (HG.out.1.block _ (by have := HB3.out.2.1; omega)).trans HB3.out.2.2
      have z2 := HG.out.2
      have z5 := d5.size
      obtain ⟨kp, cT⟩ := ht_tail HF.out hr2 (by have := HB3.out.2.1; omega)
      have KP : Hid _ := kp
      have HD : Hid (Below W3.heap.size W3 w1) := d5
      clear kp d1 d2 d3 d4 d5 hr2 CW cS l0 l1 l2 l3 j0 j1 j2 j3 k0 k1 k2 k3 hW3
      have S0 := KP.out w2.drew (fun _ _ _ => rfl)
      unfold HtS at cT S0
      go_region_held3 (fun w' => w'.cell? ⟨w1.heap.size, 8, none⟩ = some gv ∧ w'.cell? ⟨w1.heap.size, 5, none⟩ = some (.int .i64 r.of) ∧ w'.cell? ⟨w1.heap.size, 6, none⟩ = some (.int .i64 r.mo) ∧ w'.cell? ⟨w1.heap.size, 7, none⟩ = some (.bool false) ∧ w'.cell? ⟨bs, 4, none⟩ = some (.int .i64 r.rd) ∧ (convert 107 9 gv).run Tryz.prog w' = .ok (.string ⟨r.got.toArray⟩) w') (first | with_reducible exact S0 | with_reducible exact SA | exact KP.out _ (fun x hx hn => by rw [Below.heap_setCell _ _ _ _ hn, Below.heap_setCell _ _ _ _ hn, Below.heap_setCell _ _ _ _ hn, Below.heap_setCell _ _ _ _ hn, Below.heap_setCell _ _ _ _ hn, Below.heap_setCell _ _ _ _ hn, Below.heap_setCell _ _ _ _ hn, Below.heap_setCell _ _ _ _ hn]; exact HX.out x hx)) ((go_at_call 49; refine cT.mono ?_; rintro e w3 ⟨rfl, SA, hres, HX, HBB⟩; have y0 := row_cell (i := 0) hres rfl; have y1 := row_cell (i := 1) hres rfl; have y2 := row_cell (i := 2) hres rfl; have y3 := row_cell (i := 3) hres rfl; have y4 := row_cell (i := 4) hres rfl; have y5 := row_cell (i := 5) hres rfl; have y6 := row_cell (i := 6) hres rfl; have y7 := row_cell (i := 7) hres rfl; have g0 := row_free (i := 0) hres; have g1 := row_free (i := 1) hres; have g2 := row_free (i := 2) hres; have g3 := row_free (i := 3) hres; have g4 := row_free (i := 4) hres; have g5 := row_free (i := 5) hres; have g6 := row_free (i := 6) hres; have g7 := row_free (i := 7) hres))
      go_wp2
      have hp := wr_put hres (.int .i64 r.err) (.int .i64 r.N) (.int .i64 n) (.string ⟨r.got.toArray⟩) (.int .i64 r.of) (.int .i64 r.mo) (.bool false) (.int .i64 r.rd)
      have e0 := row_cell (i := 0) hp rfl
      have e1 := row_cell (i := 1) hp rfl
      have e2 := row_cell (i := 2) hp rfl
      have e3 := row_cell (i := 3) hp rfl
      have e4 := row_cell (i := 4) hp rfl
      have e5 := row_cell (i := 5) hp rfl
      have e6 := row_cell (i := 6) hp rfl
      have e7 := row_cell (i := 7) hp rfl
      refine bodyPost_ret (v := wnV r) ?_ rfl ⟨r, rfl, HF.out.rel, ?_⟩
      · unfold wnV
        rw [HF.out.cnt]
        simp [results, Tryz.results26, go_sem, e0, e1, e2, e3, e4, e5, e6, e7]
      · have hz3 := HB3.out.2.1
        have hW2 : Below W.heap.size W w3 := (HB3.out.1.trans (HG.out.1.mono (by omega))).trans (HBB.out.mono (by omega))
        exact (((((((hW2.setCell (p := ⟨W.heap.size + 1 + 1, 0, none⟩) (by show _ ≤ W.heap.size + 1 + 1; omega) _).setCell (p := ⟨W.heap.size + 1 + 1, 1, none⟩) (by show _ ≤ W.heap.size + 1 + 1; omega) _).setCell (p := ⟨W.heap.size + 1 + 1, 2, none⟩) (by show _ ≤ W.heap.size + 1 + 1; omega) _).setCell (p := ⟨W.heap.size + 1 + 1, 3, none⟩) (by show _ ≤ W.heap.size + 1 + 1; omega) _).setCell (p := ⟨W.heap.size + 1 + 1, 4, none⟩) (by show _ ≤ W.heap.size + 1 + 1; omega) _).setCell (p := ⟨W.heap.size + 1 + 1, 5, none⟩) (by show _ ≤ W.heap.size + 1 + 1; omega) _).setCell (p := ⟨W.heap.size + 1 + 1, 6, none⟩) (by show _ ≤ W.heap.size + 1 + 1; omega) _).setCell (p := ⟨W.heap.size + 1 + 1, 7, none⟩) (by show _ ≤ W.heap.size + 1 + 1; omega) _
  · simp only [srcV, hs, svOf, if_true, Option.isSome_some, Bool.false_eq_true, if_false] at CW
    go_enter Tryz.func26, Tryz.ntmps26
    go_wp2_with (first
      | (go_at_call 45; refine cS.mono ?_; rintro e w1 ⟨bs, cv, rfl, d1, d2, d3, d4, d5⟩; have l0 := (d5.cell (p := ⟨W.heap.size + 1, 0, none⟩) (by show W.heap.size + 1 < _; have := HB3.out.2.1; omega)).trans k0; have l1 := (d5.cell (p := ⟨W.heap.size + 1, 1, none⟩) (by show W.heap.size + 1 < _; have := HB3.out.2.1; omega)).trans k1; have l2 := (d5.cell (p := ⟨W.heap.size + 1, 2, none⟩) (by show W.heap.size + 1 < _; have := HB3.out.2.1; omega)).trans k2; have l3 := (d5.cell (p := ⟨W.heap.size + 1, 3, none⟩) (by show W.heap.size + 1 < _; have := HB3.out.2.1; omega)).trans k3)
      | (go_at_call 54; refine (CW.out w1 bs cv d1 d2 d3 d4 d5).mono ?_; rintro e w2 ⟨n, ev, gv, r, rfl, HF, HG⟩; rcases HF.out.form with hev | ⟨t, x, hev⟩ <;> subst hev))
    all_goals
      have hr2 : w2.heap[W.heap.size + 1 + 1]? = some wrZero := (HG.out.1.block _ (by have := HB3.out.2.1; omega)).trans HB3.out.2.2
      have z2 := HG.out.2
      have z5 := d5.size
      obtain ⟨kp, cT⟩ := ht_tail HF.out hr2 (by have := HB3.out.2.1; omega)
      have KP : Hid _ := kp
      have HD : Hid (Below W3.heap.size W3 w1) := d5
      clear kp d1 d2 d3 d4 d5 hr2 CW cS l0 l1 l2 l3 j0 j1 j2 j3 k0 k1 k2 k3 hW3
      have S0 := KP.out w2.drew (fun _ _ _ => rfl)
      unfold HtS at cT S0
      go_region_held3 (fun w' => w'.cell? ⟨w1.heap.size, 8, none⟩ = some gv ∧ w'.cell? ⟨w1.heap.size, 5, none⟩ = some (.int .i64 r.of) ∧ w'.cell? ⟨w1.heap.size, 6, none⟩ = some (.int .i64 r.mo) ∧ w'.cell? ⟨w1.heap.size, 7, none⟩ = some (.bool false) ∧ w'.cell? ⟨bs, 4, none⟩ = some (.int .i64 r.rd) ∧ (convert 107 9 gv).run Tryz.prog w' = .ok (.string ⟨r.got.toArray⟩) w') (first | with_reducible exact S0 | with_reducible exact SA | exact KP.out _ (fun x hx hn => by rw [Below.heap_setCell _ _ _ _ hn, Below.heap_setCell _ _ _ _ hn, Below.heap_setCell _ _ _ _ hn, Below.heap_setCell _ _ _ _ hn, Below.heap_setCell _ _ _ _ hn, Below.heap_setCell _ _ _ _ hn, Below.heap_setCell _ _ _ _ hn, Below.heap_setCell _ _ _ _ hn]; exact HX.out x hx)) ((go_at_call 49; refine cT.mono ?_; rintro e w3 ⟨rfl, SA, hres, HX, HBB⟩; have y0 := row_cell (i := 0) hres rfl; have y1 := row_cell (i := 1) hres rfl; have y2 := row_cell (i := 2) hres rfl; have y3 := row_cell (i := 3) hres rfl; have y4 := row_cell (i := 4) hres rfl; have y5 := row_cell (i := 5) hres rfl; have y6 := row_cell (i := 6) hres rfl; have y7 := row_cell (i := 7) hres rfl; have g0 := row_free (i := 0) hres; have g1 := row_free (i := 1) hres; have g2 := row_free (i := 2) hres; have g3 := row_free (i := 3) hres; have g4 := row_free (i := 4) hres; have g5 := row_free (i := 5) hres; have g6 := row_free (i := 6) hres; have g7 := row_free (i := 7) hres))
      go_wp2
      have hp := wr_put hres (.int .i64 r.err) (.int .i64 r.N) (.int .i64 n) (.string ⟨r.got.toArray⟩) (.int .i64 r.of) (.int .i64 r.mo) (.bool false) (.int .i64 r.rd)
      have e0 := row_cell (i := 0) hp rfl
      have e1 := row_cell (i := 1) hp rfl
      have e2 := row_cell (i := 2) hp rfl
      have e3 := row_cell (i := 3) hp rfl
      have e4 := row_cell (i := 4) hp rfl
      have e5 := row_cell (i := 5) hp rfl
      have e6 := row_cell (i := 6) hp rfl
      have e7 := row_cell (i := 7) hp rfl
      refine bodyPost_ret (v := wnV r) ?_ rfl ⟨r, rfl, HF.out.rel, ?_⟩
      · unfold wnV
        rw [HF.out.cnt]
        simp [results, Tryz.results26, go_sem, e0, e1, e2, e3, e4, e5, e6, e7]
      · have hz3 := HB3.out.2.1
        have hW2 : Below W.heap.size W w3 := (HB3.out.1.trans (HG.out.1.mono (by omega))).trans (HBB.out.mono (by omega))
        exact (((((((hW2.setCell (p := ⟨W.heap.size + 1 + 1, 0, none⟩) (by show _ ≤ W.heap.size + 1 + 1; omega) _).setCell (p := ⟨W.heap.size + 1 + 1, 1, none⟩) (by show _ ≤ W.heap.size + 1 + 1; omega) _).setCell (p := ⟨W.heap.size + 1 + 1, 2, none⟩) (by show _ ≤ W.heap.size + 1 + 1; omega) _).setCell (p := ⟨W.heap.size + 1 + 1, 3, none⟩) (by show _ ≤ W.heap.size + 1 + 1; omega) _).setCell (p := ⟨W.heap.size + 1 + 1, 4, none⟩) (by show _ ≤ W.heap.size + 1 + 1; omega) _).setCell (p := ⟨W.heap.size + 1 + 1, 5, none⟩) (by show _ ≤ W.heap.size + 1 + 1; omega) _).setCell (p := ⟨W.heap.size + 1 + 1, 6, none⟩) (by show _ ≤ W.heap.size + 1 + 1; omega) _).setCell (p := ⟨W.heap.size + 1 + 1, 7, none⟩) (by show _ ≤ W.heap.size + 1 + 1; omega) _
  · simp only [srcV, hs, svOf, if_true, Option.isSome_none, Bool.false_eq_true, if_false] at CW
    go_enter Tryz.func26, Tryz.ntmps26
    go_wp2_with (first
      | (go_at_call 45; refine cS.mono ?_; rintro e w1 ⟨bs, cv, rfl, d1, d2, d3, d4, d5⟩; have l0 := (d5.cell (p := ⟨W.heap.size + 1, 0, none⟩) (by show W.heap.size + 1 < _; have := HB3.out.2.1; omega)).trans k0; have l1 := (d5.cell (p := ⟨W.heap.size + 1, 1, none⟩) (by show W.heap.size + 1 < _; have := HB3.out.2.1; omega)).trans k1; have l2 := (d5.cell (p := ⟨W.heap.size + 1, 2, none⟩) (by show W.heap.size + 1 < _; have := HB3.out.2.1; omega)).trans k2; have l3 := (d5.cell (p := ⟨W.heap.size + 1, 3, none⟩) (by show W.heap.size + 1 < _; have := HB3.out.2.1; omega)).trans k3)
      | (go_at_call 54; refine (CW.out w1 bs cv d1 d2 d3 d4 d5).mono ?_; rintro e w2 ⟨n, ev, gv, r, rfl, HF, HG⟩; rcases HF.out.form with hev | ⟨t, x, hev⟩ <;> subst hev))
    all_goals
      have hr2 : w2.heap[W.heap.size + 1 + 1]? = some wrZero := (HG.out.1.block _ (by have := HB3.out.2.1; omega)).trans HB3.out.2.2
      have z2 := HG.out.2
      have z5 := d5.size
      obtain ⟨kp, cT⟩ := ht_tail HF.out hr2 (by have := HB3.out.2.1; omega)
      have KP : Hid _ := kp
      have HD : Hid (Below W3.heap.size W3 w1) := d5
      clear kp d1 d2 d3 d4 d5 hr2 CW cS l0 l1 l2 l3 j0 j1 j2 j3 k0 k1 k2 k3 hW3
      have S0 := KP.out w2.drew (fun _ _ _ => rfl)
      unfold HtS at cT S0
      go_region_held3 (fun w' => w'.cell? ⟨w1.heap.size, 8, none⟩ = some gv ∧ w'.cell? ⟨w1.heap.size, 5, none⟩ = some (.int .i64 r.of) ∧ w'.cell? ⟨w1.heap.size, 6, none⟩ = some (.int .i64 r.mo) ∧ w'.cell? ⟨w1.heap.size, 7, none⟩ = some (.bool false) ∧ w'.cell? ⟨bs, 4, none⟩ = some (.int .i64 r.rd) ∧ (convert 107 9 gv).run Tryz.prog w' = .ok (.string ⟨r.got.toArray⟩) w') (first | with_reducible exact S0 | with_reducible exact SA | exact KP.out _ (fun x hx hn => by rw [Below.heap_setCell _ _ _ _ hn, Below.heap_setCell _ _ _ _ hn, Below.heap_setCell _ _ _ _ hn, Below.heap_setCell _ _ _ _ hn, Below.heap_setCell _ _ _ _ hn, Below.heap_setCell _ _ _ _ hn, Below.heap_setCell _ _ _ _ hn, Below.heap_setCell _ _ _ _ hn]; exact HX.out x hx)) ((go_at_call 49; refine cT.mono ?_; rintro e w3 ⟨rfl, SA, hres, HX, HBB⟩; have y0 := row_cell (i := 0) hres rfl; have y1 := row_cell (i := 1) hres rfl; have y2 := row_cell (i := 2) hres rfl; have y3 := row_cell (i := 3) hres rfl; have y4 := row_cell (i := 4) hres rfl; have y5 := row_cell (i := 5) hres rfl; have y6 := row_cell (i := 6) hres rfl; have y7 := row_cell (i := 7) hres rfl; have g0 := row_free (i := 0) hres; have g1 := row_free (i := 1) hres; have g2 := row_free (i := 2) hres; have g3 := row_free (i := 3) hres; have g4 := row_free (i := 4) hres; have g5 := row_free (i := 5) hres; have g6 := row_free (i := 6) hres; have g7 := row_free (i := 7) hres))
      go_wp2
      have hp := wr_put hres (.int .i64 r.err) (.int .i64 r.N) (.int .i64 n) (.string ⟨r.got.toArray⟩) (.int .i64 r.of) (.int .i64 r.mo) (.bool false) (.int .i64 r.rd)
      have e0 := row_cell (i := 0) hp rfl
      have e1 := row_cell (i := 1) hp rfl
      have e2 := row_cell (i := 2) hp rfl
      have e3 := row_cell (i := 3) hp rfl
      have e4 := row_cell (i := 4) hp rfl
      have e5 := row_cell (i := 5) hp rfl
      have e6 := row_cell (i := 6) hp rfl
      have e7 := row_cell (i := 7) hp rfl
      refine bodyPost_ret (v := wnV r) ?_ rfl ⟨r, rfl, HF.out.rel, ?_⟩
      · unfold wnV
        rw [HF.out.cnt]
        simp [results, Tryz.results26, go_sem, e0, e1, e2, e3, e4, e5, e6, e7]
      · have hz3 := HB3.out.2.1
        have hW2 : Below W.heap.size W w3 := (HB3.out.1.trans (HG.out.1.mono (by omega))).trans (HBB.out.mono (by omega))
        exact (((((((hW2.setCell (p := ⟨W.heap.size + 1 + 1, 0, none⟩) (by show _ ≤ W.heap.size + 1 + 1; omega) _).setCell (p := ⟨W.heap.size + 1 + 1, 1, none⟩) (by show _ ≤ W.heap.size + 1 + 1; omega) _).setCell (p := ⟨W.heap.size + 1 + 1, 2, none⟩) (by show _ ≤ W.heap.size + 1 + 1; omega) _).setCell (p := ⟨W.heap.size + 1 + 1, 3, none⟩) (by show _ ≤ W.heap.size + 1 + 1; omega) _).setCell (p := ⟨W.heap.size + 1 + 1, 4, none⟩) (by show _ ≤ W.heap.size + 1 + 1; omega) _).setCell (p := ⟨W.heap.size + 1 + 1, 5, none⟩) (by show _ ≤ W.heap.size + 1 + 1; omega) _).setCell (p := ⟨W.heap.size + 1 + 1, 6, none⟩) (by show _ ≤ W.heap.size + 1 + 1; omega) _).setCell (p := ⟨W.heap.size + 1 + 1, 7, none⟩) (by show _ ≤ W.heap.size + 1 + 1; omega) _

end Go.Proofs.YtljcljipppjnoaaGreatDoor

namespace Go.Proofs.YtljcljipppjnoaaGreatDoor
open Go.RowKit Go.Shelf

def u0 : Ou := ⟨.slice none 0 0, [], 0, 0, 0⟩
theorem u0_ok (w0 : World) : u0.Ok w0 := ⟨Or.inl ⟨rfl, none, 0, rfl⟩, Nat.zero_le _⟩
/-- The list of what a sink takes, as it came in. -/
def uT (tv : Value) (ts : List Int) : Ou := ⟨tv, ts, 0, 0, 0⟩
theorem uT_ok {w0 : World} {tv : Value} {ts : List Int} (h : NumsAt tv ts w0) (hb : ∀ t ∈ ts, -9223372036854775808 ≤ t ∧ t ≤ 9223372036854775807) (hl : ts.length ≤ 1048576) : (uT tv ts).Ok w0 := by
  refine ⟨?_, hl⟩
  rcases h with ⟨h1, ca, cap, h2⟩ | ⟨g, o, cap, h1, h2, h3⟩
  · exact Or.inl ⟨h1, ca, cap, h2⟩
  · by_cases h0 : ts = []
    · left
      refine ⟨h0, some ⟨g, o, none⟩, cap, ?_⟩
      show tv = _
      rw [h1, h0]
      rfl
    · exact Or.inr ⟨h0, g, o, cap, h1, h2, fun i t hi => ⟨h3 i t hi, hb t (List.mem_of_getElem? hi)⟩⟩

end Go.Proofs.YtljcljipppjnoaaGreatDoor

namespace Go.Proofs.YtljcljipppjnoaaGreatDoor
open Go.RowKit Go.Shelf

/-! What the three writings of Writes come to, in plain words. -/
theorem events_nil : eventsS [] = [] := by
  unfold eventsS evUpto
  have : blocksAt 3 (linesL [] []) = [] := by simp [linesL, blocksAt, blocksF]
  rw [this]
  rfl
theorem page_nil {q : Gh} (h : q.o = .fine ⟨#[]⟩) : pageS (evq q) = [] := by
  unfold evq
  rw [h]
  show pageS (eventsS (reg ⟨#[]⟩)) = []
  have : reg ⟨#[]⟩ = [] := rfl
  rw [this, events_nil]
  rfl
/-- Without a source nothing is written. -/
theorem wr_none {q : Gh} {s : Option Ou} {r : Wn} (h : HtRel q s r) (ho : q.o = .fine ⟨#[]⟩) (hs : s.isSome = true) : r.err = 0 ∧ r.cnt = 0 ∧ r.of = 0 := by
  rcases h.fine ⟨_, ho⟩ with ⟨e, _, tk, of, got, hr, hc, hg⟩ | ⟨u, wr, N, hu, hb, _⟩
  · have h1 := hr.sum
    have h2 := hr.tk_ge
    rw [page_nil ho] at h1
    simp at h1
    obtain ⟨_, g2⟩ := hg hs
    exact ⟨e, by omega, by omega⟩
  · have := hb.lt
    rw [page_nil ho] at this
    simp at this
/-- The page that the document asks for. -/
def pageD (o : Out) : List UInt8 := match o with
  | .fine s => pageS (eventsS (reg s))
  | _ => []
theorem pageD_fine {q : Gh} (h : ∃ t, q.o = .fine t) : pageS (evq q) = pageD q.o := by
  obtain ⟨t, ht⟩ := h
  unfold evq
  rw [ht]
  rfl
/-- Without a sink all is counted. -/
theorem wr_free {q : Gh} {r : Wn} (h : HtRel q none r) : r.err = outErr q.o ∧ r.N = outN q.o ∧ r.cnt = ((pageD q.o).length : Nat) := by
  by_cases hf : ∃ t, q.o = .fine t
  · rcases h.fine hf with ⟨e, eN, tk, of, got, hr, hc, _⟩ | ⟨u, wr, N, hu, _⟩
    · obtain ⟨a1, a2⟩ := Run.all (show Run noU.one noU.fa noU.la noU.li (pageS (evq q)) of tk got [] [] from hr) (Or.inl (by decide))
      rw [pageD_fine hf] at a2
      obtain ⟨t, ht⟩ := hf
      exact ⟨by rw [e, ht]; rfl, by rw [eN, ht]; rfl, by rw [hc, a2]⟩
    · cases hu
  · obtain ⟨e1, e2, e3, _⟩ := h.bad hf
    refine ⟨e1, e2, ?_⟩
    rw [e3]
    cases ho : q.o with
    | fine t => exact absurd ⟨t, ho⟩ hf
    | long => rfl
    | idle => rfl
    | fail k => rfl

/-- Where the source fails. -/
theorem wr_bad {q : Gh} {s : Option Ou} {r : Wn} (h : HtRel q s r) (hf : ¬ ∃ t, q.o = .fine t) : r.err = outErr q.o ∧ r.N = outN q.o ∧ r.cnt = 0 ∧ r.of = 0 ∧ r.rd = q.n ∧ r.mo ≤ 16 := by
  obtain ⟨e1, e2, e3, e4, _⟩ := h.bad hf
  exact ⟨e1, e2, e3, e4, h.rd, h.mo⟩
/-- It was told what may be so: it is believed. -/
def liedB (u : Ou) (r : Wn) : Bool := decide (0 < u.la) && decide (u.la ≤ r.of)
def cannotB (u : Ou) : Bool := decide (u.li < 1) || decide (16 < u.li)
def failB (u : Ou) (r : Wn) : Bool := decide (0 < u.fa) && decide (u.fa ≤ r.of)
theorem wr_count {q : Gh} {u : Ou} {r : Wn} (h : HtRel q (some u) r) (hf : ∃ t, q.o = .fine t) : 0 ≤ r.cnt ∧ r.cnt ≤ ((pageD q.o).length : Nat) := by
  rcases h.fine hf with ⟨e, _, tk, of, got, hr, hc, _⟩ | ⟨u', wr, N, hu, hb, _, hc, _⟩
  · have := hr.sum
    rw [pageD_fine hf] at this
    omega
  · have := hb.lt
    rw [pageD_fine hf] at this
    omega
theorem wr_cases {q : Gh} {u : Ou} {r : Wn} (h : HtRel q (some u) r) (hf : ∃ t, q.o = .fine t) (hno : ¬ (liedB u r = true ∧ cannotB u = false)) :
    r.got <+: pageD q.o ∧ (liedB u r = true → r.err = 3 ∧ (r.of : Int) = u.la ∧ r.cnt = r.N ∧ r.N ≤ (r.got.length : Nat)) ∧
    (liedB u r = false → failB u r = true → r.err = 5 ∧ (r.of : Int) = u.fa ∧ r.cnt = r.N ∧ r.N ≤ (r.got.length : Nat)) ∧
    (liedB u r = false → failB u r = false → r.err = 0 ∧ r.cnt = ((pageD q.o).length : Nat) ∧ r.got = pageD q.o ∧ (r.of = 0 ↔ pageD q.o = [])) := by
  have hlied : liedB u r = true ↔ (0 < u.la ∧ u.la ≤ r.of) := by simp [liedB]
  have hcan : cannotB u = false ↔ (1 ≤ u.li ∧ u.li ≤ 16) := by simp [cannotB]
  have hfail : failB u r = true ↔ (0 < u.fa ∧ u.fa ≤ r.of) := by simp [failB]
  rcases h.fine hf with ⟨e, _, tk, of, got, hr, hc, hg⟩ | ⟨u', wr, N, hu, hb, hN, hc, he⟩
  · obtain ⟨g1, g2⟩ := hg rfl
    have hr : Run u.one u.fa u.la u.li (pageS (evq q)) of tk got [] [] := hr
    rw [pageD_fine hf] at hr
    have hnl : u.la < 1 ∨ (of : Int) < u.la := by
      by_cases h1 : u.la < 1
      · exact Or.inl h1
      · right
        apply Int.not_le.1
        intro h2
        obtain ⟨p1, p2, _⟩ := hr.past (by omega) h2
        exact hno ⟨hlied.2 ⟨by omega, by rw [g2]; exact h2⟩, hcan.2 ⟨p1, p2⟩⟩
    obtain ⟨a1, a2⟩ := hr.all hnl
    have nl : ¬ liedB u r = true := fun hh => by have := hlied.1 hh; rw [g2] at this; omega
    refine ⟨⟨[], by rw [g1, a1]; simp⟩, fun hh => absurd hh nl, fun _ hh => ?_, fun _ _ => ⟨e, by rw [hc, a2], by rw [g1, a1], ?_⟩⟩
    · have h1 := hfail.1 hh
      rw [g2] at h1
      have := hr.fail
      omega
    · rw [g2]
      have h1 := hr.ge
      have h2 := hr.gl
      rw [a1] at h1 h2
      constructor
      · intro h0
        exact List.eq_nil_of_length_eq_zero (by omega)
      · intro h0
        rw [h0] at h1
        simpa using h1
  · injection hu with hu
    subst hu
    rw [pageD_fine hf] at hb
    have hpos := hb.pos
    rcases hb.kind with ⟨hw, k1, k2⟩ | ⟨hw, k1⟩
    · have hnl : u.la < 1 ∨ (r.of : Int) ≤ u.la := by
        by_cases h1 : u.la < 1
        · exact Or.inl h1
        · right
          apply Int.not_lt.1
          intro h2
          obtain ⟨p1, p2⟩ := hb.past (by omega) h2
          exact hno ⟨hlied.2 ⟨by omega, by omega⟩, hcan.2 ⟨p1, p2⟩⟩
      obtain ⟨b1, b2, _⟩ := hb.pre hnl
      have nl : ¬ liedB u r = true := fun hh => by have := hlied.1 hh; omega
      have yf : failB u r = true := hfail.2 ⟨by omega, by omega⟩
      refine ⟨b1, fun hh => absurd hh nl, fun _ _ => ⟨by rw [he, hw]; rfl, by omega, by rw [hc, hN], by rw [hN]; omega⟩, fun _ hh => by rw [yf] at hh; cases hh⟩
    · obtain ⟨b1, b2, _⟩ := hb.pre (Or.inr (by omega))
      have yl : liedB u r = true := hlied.2 ⟨by omega, by omega⟩
      exact ⟨b1, fun _ => ⟨by rw [he, hw]; rfl, by omega, by rw [hc, hN], by rw [hN]; omega⟩, fun hh => (by rw [yl] at hh; cases hh), fun hh => (by rw [yl] at hh; cases hh)⟩

end Go.Proofs.YtljcljipppjnoaaGreatDoor

namespace Go.Proofs.YtljcljipppjnoaaGreatDoor
open Go.RowKit Go.Shelf

/-! Boxes that stay while a law goes on. -/
structure Mem5 (W : World) (L : List (Nat × Obj)) (w : World) : Prop where
  below : Below W.heap.size W w
  blk : ∀ n o, (n, o) ∈ L → w.heap[n]? = some o
theorem Mem5.next {W : World} {L : List (Nat × Obj)} {w w' : World} (h : Mem5 W L w) (hb : Below w.heap.size w w') : Mem5 W L w' :=
  ⟨h.below.trans (hb.mono h.below.size), fun n o ho => (hb.block n (Array.getElem?_eq_some_iff.1 (h.blk n o ho)).1).trans (h.blk n o ho)⟩
theorem Mem5.add {W : World} {L : List (Nat × Obj)} {w : World} (h : Mem5 W L w) (o : Array Value) (t : TypeId) : Mem5 W ((w.heap.size, .cells o t (0, 0)) :: L) (w.alloc (.cells o t)) := by
  have hn := h.next ((Below.refl _ w).alloc (Nat.le_refl _) (.cells o t))
  refine ⟨hn.below, fun n b hb => ?_⟩
  rcases List.mem_cons.1 hb with e | e
  · injection e with e1 e2
    subst e1
    subst e2
    exact heap_new _ _ rfl
  · exact hn.blk n b e
theorem Mem5.start (W : World) : Mem5 W [] W := ⟨Below.refl _ W, fun _ _ h => by cases h⟩

theorem pageD_len {q : Gh} (hq : q.Ok) : (pageD q.o).length ≤ 68719476736 := by
  by_cases hf : ∃ t, q.o = .fine t
  · rw [← pageD_fine hf]
    exact pageq_len hq
  · cases ho : q.o with
    | fine t => exact absurd ⟨t, ho⟩ hf
    | long => exact Nat.zero_le _
    | idle => exact Nat.zero_le _
    | fail k => exact Nat.zero_le _
/-- The page of what comes, as the reference makes it. -/
theorem pageD_any {q : Gh} (hq : q.Ok) (hs : q.src = true) (hf : ∃ t, q.o = .fine t) (w : World) :
    Calls Tryz.prog 25 #[.string (outText q.o)] w fun e w' => e = .returned (.string ⟨(pageD q.o).toArray⟩) ∧ Below w.heap.size w w' := by
  obtain ⟨t, ht⟩ := hf
  have hg := hq.gat hs
  rw [ht] at hg ⊢
  have h3 := gat_size hg
  have h4 := reg_len t
  exact rpage_any (reg t) w (by omega)
theorem outErr_bad {o : Out} (h : ¬ ∃ t, o = .fine t) : 0 < outErr o := by
  cases o with
  | fine t => exact absurd ⟨t, rfl⟩ h
  | long => decide
  | idle => decide
  | fail k => show (0 : Int) < 4; decide
theorem pageD_bad {o : Out} (h : ¬ ∃ t, o = .fine t) : pageD o = [] := by
  cases o with
  | fine t => exact absurd ⟨t, rfl⟩ h
  | long => rfl
  | idle => rfl
  | fail k => rfl

/-- A text and its cuts. -/
theorem in_gh (tx : ByteArray) (cs : List Int) (fa : Int) (wt : Bool) (h1 : tx.size ≤ 1048576) (h2 : cs.length ≤ 1048576) : ∃ q : Gh, q.Ok ∧ q.src = true ∧ q.tx = tx ∧ q.cs = cs ∧ q.fa = fa ∧ q.wt = wt := by
  obtain ⟨⟨o, n⟩, hg⟩ := gat_some fa wt (cs.length + 2) tx cs 0 ByteArray.empty 0 (by split <;> omega)
  exact ⟨⟨true, tx, cs, fa, wt, o, n⟩, ⟨h1, h2, fun _ => hg, fun h => by cases h⟩, rfl, rfl, rfl, rfl, rfl⟩
theorem in_come {q : Gh} (hq : q.Ok) (hs : q.src = true) (cv : Value) (w : World) (h : NumsAt cv q.cs w) :
    Calls Tryz.prog 24 #[.agg #[.string q.tx, cv, .int .i64 q.fa, .bool q.wt]] w fun e w' => e = .returned (.agg #[.string (outText q.o), .int .i64 (outErr q.o), .int .i64 (outN q.o), .int .i64 q.n]) ∧ Below w.heap.size w w' :=
  come_any (q.cs.length + 2) q.tx cv q.cs q.fa q.wt q.o q.n w h hq.cuts hq.small (by have := hq.cuts; omega) (hq.gat hs)

end Go.Proofs.YtljcljipppjnoaaGreatDoor

namespace Go.Proofs.YtljcljipppjnoaaGreatDoor
open Go.RowKit Go.Shelf

set_option maxRecDepth 100000 in
set_option maxHeartbeats 1000000 in
theorem writes_unfit (tx : ByteArray) (ca : Option Addr) (len cap : Nat) (fa : Int) (wt : Bool) (ta : Option Addr) (tl tc : Nat) (f l li : Int) (w : World) (hn : ¬ (tx.size ≤ 1048576 ∧ len ≤ 1048576 ∧ tl ≤ 1048576)) :
    Calls Tryz.prog 5 #[.agg #[.string tx, .slice ca len cap, .int .i64 fa, .bool wt], .agg #[.slice ta tl tc, .int .i64 f, .int .i64 l, .int .i64 li]] w fun e w' => e = .returned (.bool true) ∧ Below w.heap.size w w' := by
  have hc := fun W => fit_any tx ca len cap fa wt W
  have M0 : Hid (Mem5 w [] w) := Mem5.start w
  by_cases hf : (decide (tx.size ≤ 1048576) && decide (len ≤ 1048576)) = false
  · rw [hf] at hc
    clear hf hn
    go_enter Tryz.func5, Tryz.ntmps5
    go_wp2_with (go_at_call 17; refine (hc _).mono ?_; rintro e w1 ⟨rfl, b1⟩)
    go_ret
    exact ⟨rfl, (((M0.out.add _ _).add _ _).next b1).below⟩
  · have hf : (decide (tx.size ≤ 1048576) && decide (len ≤ 1048576)) = true := by simpa using hf
    rw [hf] at hc
    have g2 : decide ((1048576 : Int) < (tl : Int)) = true := by
      simp at hf
      simp
      omega
    clear hf hn
    go_enter Tryz.func5, Tryz.ntmps5
    go_upto_region 2 with (go_at_call 17; refine (hc _).mono ?_; rintro e w1 ⟨rfl, b1⟩)
    have M1 : Hid _ := ((M0.out.add #[.string tx, .slice ca len cap, .int .i64 fa, .bool wt] 33).add #[.slice ta tl tc, .int .i64 f, .int .i64 l, .int .i64 li] 58).next b1
    have k0 : w1.cell? ⟨w.heap.size + 1, 0, none⟩ = some (.slice ta tl tc) := by simpa using row_cell (i := 0) (M1.out.blk _ _ List.mem_cons_self) rfl
    clear b1 hc
    go_wp2
    go_ret
    exact ⟨rfl, M1.out.below⟩

theorem below_drawn {B : Nat} {a w : World} (h : Below B a w) (n : Nat) : Below B a (w.drewN n) := h.trans ⟨rfl, rfl, rfl, Nat.le_refl _, fun _ _ => rfl⟩

/-- What the three writings bring. -/
theorem writes_htmls {aL aI : Addr} {m : Int} {aS : Addr} {q : Gh} (hq : q.Ok) (hs : q.src = true) {u : Ou} {cv : Value} {W : World} (B : Base W aL aI m) (hS : W.cell? ⟨0, 0, none⟩ = some (sinkV aS)) (hN : NumsAt cv q.cs W) (hu : u.Ok W) :
    (∀ w, Below W.heap.size W w → Calls Tryz.prog 26 #[.agg #[.string q.tx, cv, .int .i64 q.fa, .bool q.wt], .agg #[u.tv, .int .i64 u.fa, .int .i64 u.la, .int .i64 u.li], .int .i64 1] w fun e w' => ∃ (N rd : Int) (got : ByteArray) (mo : Nat), e = .returned (.agg #[.int .i64 0, .int .i64 N, .int .i64 0, .string got, .int .i64 0, .int .i64 mo, .bool false, .int .i64 rd]) ∧ Below w.heap.size w w') ∧
    (∀ w, Below W.heap.size W w → Calls Tryz.prog 26 #[.agg #[.string q.tx, cv, .int .i64 q.fa, .bool q.wt], .agg #[u.tv, .int .i64 u.fa, .int .i64 u.la, .int .i64 u.li], .int .i64 2] w fun e w' => ∃ (rd : Int) (got : ByteArray) (of mo : Nat), e = .returned (.agg #[.int .i64 (outErr q.o), .int .i64 (outN q.o), .int .i64 ((pageD q.o).length : Nat), .string got, .int .i64 of, .int .i64 mo, .bool false, .int .i64 rd]) ∧ Below w.heap.size w w') ∧
    (∀ w, Below W.heap.size W w → Calls Tryz.prog 26 #[.agg #[.string q.tx, cv, .int .i64 q.fa, .bool q.wt], .agg #[u.tv, .int .i64 u.fa, .int .i64 u.la, .int .i64 u.li], .int .i64 0] w fun e w' => ∃ r : Wn, e = .returned (.agg #[.int .i64 r.err, .int .i64 r.N, .int .i64 r.cnt, .string ⟨r.got.toArray⟩, .int .i64 r.of, .int .i64 r.mo, .bool false, .int .i64 q.n]) ∧ HtRel q (some u) r ∧ Below w.heap.size w w') := by
  refine ⟨fun w hw => ?_, fun w hw => ?_, fun w hw => ?_⟩
  · have h := html_any B hS (q := ⟨false, q.tx, q.cs, q.fa, q.wt, .fine ⟨#[]⟩, 0⟩) ⟨hq.small, hq.cuts, (fun h => by cases h), fun _ => ⟨rfl, rfl⟩⟩ hu true cv w hw (hN.below hw) 1 (Or.inr (Or.inl ⟨rfl, rfl, rfl⟩))
    refine h.mono ?_
    rintro e w' ⟨r, rfl, hr, b⟩
    obtain ⟨e1, e2, e3⟩ := wr_none hr rfl (by simp)
    refine ⟨r.N, r.rd, ⟨r.got.toArray⟩, r.mo, ?_, b⟩
    unfold wnV
    rw [e1, e2, e3]
    rfl
  · refine (html_any B hS hq hu false cv w hw (hN.below hw) 2 (Or.inr (Or.inr ⟨rfl, hs, rfl⟩))).mono ?_
    rintro e w' ⟨r, rfl, hr, b⟩
    obtain ⟨e1, e2, e3⟩ := wr_free (by simpa using hr)
    refine ⟨r.rd, ⟨r.got.toArray⟩, r.of, r.mo, ?_, b⟩
    unfold wnV
    rw [e1, e2, e3]
  · refine (html_any B hS hq hu true cv w hw (hN.below hw) 0 (Or.inl ⟨rfl, hs, rfl⟩)).mono ?_
    rintro e w' ⟨r, rfl, hr, b⟩
    refine ⟨r, ?_, by simpa using hr, b⟩
    unfold wnV
    rw [hr.rd]

set_option maxRecDepth 100000 in
set_option maxHeartbeats 4000000 in
theorem writes_fit {aL aI : Addr} {m : Int} {aS : Addr} (tx : ByteArray) (ca : Option Addr) (cap : Nat) (cs : List Int) (fa : Int) (wt : Bool) (ta : Option Addr) (ts : List Int) (tc : Nat) (f l li : Int) (W : World) (B : Base W aL aI m) (hS : W.cell? ⟨0, 0, none⟩ = some (sinkV aS)) (hN : NumsAt (.slice ca cs.length cap) cs W) (hu : (⟨.slice ta ts.length tc, ts, f, l, li⟩ : Ou).Ok W) (h1 : tx.size ≤ 1048576) (h2 : cs.length ≤ 1048576) :
    Calls Tryz.prog 5 #[.agg #[.string tx, .slice ca cs.length cap, .int .i64 fa, .bool wt], .agg #[.slice ta ts.length tc, .int .i64 f, .int .i64 l, .int .i64 li]] W fun e w' => e = .returned (.bool true) ∧ Below W.heap.size W w' := by
  obtain ⟨q, hq, q1, rfl, rfl, rfl, rfl⟩ := in_gh tx cs fa wt h1 h2
  have cF := fun w => fit_any q.tx ca q.cs.length cap q.fa q.wt w
  have hf : (decide (q.tx.size ≤ 1048576) && decide (q.cs.length ≤ 1048576)) = true := by simp [h1, h2]
  rw [hf] at cF
  have g2 : decide ((1048576 : Int) < (ts.length : Int)) = false := by have := hu.len; simp at this ⊢; omega
  have cC := fun (w : World) (hw : Below W.heap.size W w) => in_come hq q1 (.slice ca q.cs.length cap) w (hN.below hw)
  obtain ⟨cH1, cH2, cH0⟩ := writes_htmls hq q1 B hS hN hu
  have cP := fun (hfi : ∃ t, q.o = .fine t) (w : World) => pageD_any hq q1 hfi w
  have hpl := pageD_len hq
  have M0 : Hid (Mem5 W [] W) := Mem5.start W
  have CF : Hid _ := cF
  have CC : Hid _ := cC
  have C1 : Hid _ := cH1
  have C2 : Hid _ := cH2
  have C0 : Hid _ := cH0
  have CP : Hid _ := cP
  have HQ : Hid (q.Ok) := hq
  clear cF cC cH1 cH2 cH0 cP hq hf hN hu B hS q1
  simp only at C0 C1 C2
  have hz := size_of (pageD q.o)
  obtain ⟨oe, hoe⟩ : ∃ oe, outErr q.o = oe := ⟨_, rfl⟩
  obtain ⟨on, hon⟩ : ∃ on, outN q.o = on := ⟨_, rfl⟩
  obtain ⟨PG, hPG⟩ : ∃ PG, pageD q.o = PG := ⟨_, rfl⟩
  obtain ⟨ot, hot⟩ : ∃ ot, outText q.o = ot := ⟨_, rfl⟩
  rw [hoe, hon] at C2 CC
  rw [hPG] at C2 CP hz hpl
  rw [hot] at CC CP
  have HO : Hid (outErr q.o = oe ∧ outN q.o = on ∧ pageD q.o = PG ∧ outText q.o = ot) := ⟨hoe, hon, hPG, hot⟩
  clear hoe hon hPG hot h1 h2
  go_enter Tryz.func5, Tryz.ntmps5
  go_upto_region 2 with (go_at_call 17; refine (CF.out _).mono ?_; rintro e w1 ⟨rfl, b1⟩)
  have M1 : Mem5 W [(W.heap.size + 1, .cells #[.slice ta ts.length tc, .int .i64 f, .int .i64 l, .int .i64 li] 58 (0, 0)), (W.heap.size, .cells #[.string q.tx, .slice ca q.cs.length cap, .int .i64 q.fa, .bool q.wt] 33 (0, 0))] w1 := by simpa using ((M0.out.add #[.string q.tx, .slice ca q.cs.length cap, .int .i64 q.fa, .bool q.wt] 33).add #[.slice ta ts.length tc, .int .i64 f, .int .i64 l, .int .i64 li] 58).next b1
  have k0 := row_cell (i := 0) (M1.blk _ _ List.mem_cons_self) rfl
  have j0 := row_cell (i := 0) (M1.blk _ _ (List.mem_cons_of_mem _ List.mem_cons_self)) rfl
  have j1 := row_cell (i := 1) (M1.blk _ _ (List.mem_cons_of_mem _ List.mem_cons_self)) rfl
  have j2 := row_cell (i := 2) (M1.blk _ _ (List.mem_cons_of_mem _ List.mem_cons_self)) rfl
  have j3 := row_cell (i := 3) (M1.blk _ _ (List.mem_cons_of_mem _ List.mem_cons_self)) rfl
  have N1 : Hid _ := M1
  clear b1 CF M0 M1
  go_upto_region 6 with (go_at_call 24; refine (CC.out w1 N1.out.below).mono ?_; rintro e w2 ⟨rfl, b2⟩)
  obtain ⟨w3, hw3⟩ : ∃ w3, w2.alloc (.cells #[.string ot, .int .i64 oe, .int .i64 on, .int .i64 q.n] 49) = w3 := ⟨_, rfl⟩
  have M3 : Mem5 W _ w3 := hw3 ▸ (N1.out.next b2).add #[.string ot, .int .i64 oe, .int .i64 on, .int .i64 q.n] 49
  rw [hw3]
  clear hw3 b2 N1 k0 j0 j1 j2 j3 CC
  generalize w2.heap.size = bc at M3
  have c0 := row_cell (i := 0) (M3.blk _ _ List.mem_cons_self) rfl
  have c1 := row_cell (i := 1) (M3.blk _ _ List.mem_cons_self) rfl
  have N3 : Hid _ := M3
  clear M3
  go_upto_if 27 with fail
  go_cut [7] (fun s wc => s = .string ⟨PG.toArray⟩ ∧ Hid (Below w3.heap.size w3 wc))
  case first =>
    by_cases hfi : ∃ t, q.o = .fine t
    · have e0 : oe = 0 := by
        rw [← HO.out.1]
        obtain ⟨t, ht⟩ := hfi
        rw [ht]
        rfl
      subst e0
      have cP := CP.out hfi w3
      clear CP C0 C1 C2 HO HQ
      go_wp2_with (go_at_call 25; refine cP.mono ?_; rintro e w4 ⟨rfl, b4⟩)
      go_meet
      case rel => exact ⟨rfl, b4⟩
    · have h0 := outErr_bad hfi
      have h1 := pageD_bad hfi
      rw [HO.out.1] at h0
      rw [HO.out.2.2.1] at h1
      have e0 : (oe == (0 : Int)) = false := by simp; omega
      subst h1
      clear CP C0 C1 C2 HO HQ
      go_wp2
      go_meet
      case rel => exact ⟨rfl, Below.refl _ w3⟩
  case rest =>
    obtain ⟨rfl, HB⟩ := hcut
    have M4 := N3.out.next HB.out
    clear c0 c1 N3 HB CP
    have j0 := row_cell (i := 0) (M4.blk _ _ (List.mem_cons_of_mem _ (List.mem_cons_of_mem _ List.mem_cons_self))) rfl
    have j1 := row_cell (i := 1) (M4.blk _ _ (List.mem_cons_of_mem _ (List.mem_cons_of_mem _ List.mem_cons_self))) rfl
    have j2 := row_cell (i := 2) (M4.blk _ _ (List.mem_cons_of_mem _ (List.mem_cons_of_mem _ List.mem_cons_self))) rfl
    have j3 := row_cell (i := 3) (M4.blk _ _ (List.mem_cons_of_mem _ (List.mem_cons_of_mem _ List.mem_cons_self))) rfl
    have k0 := row_cell (i := 0) (M4.blk _ _ (List.mem_cons_of_mem _ List.mem_cons_self)) rfl
    have k1 := row_cell (i := 1) (M4.blk _ _ (List.mem_cons_of_mem _ List.mem_cons_self)) rfl
    have k2 := row_cell (i := 2) (M4.blk _ _ (List.mem_cons_of_mem _ List.mem_cons_self)) rfl
    have k3 := row_cell (i := 3) (M4.blk _ _ (List.mem_cons_of_mem _ List.mem_cons_self)) rfl
    have N4 : Hid _ := M4
    clear M4
    go_upto_region 9 with (go_at_call 26; refine (C1.out wc N4.out.below).mono ?_; rintro e w5 ⟨aN, ard, agot, amo, rfl, b5⟩)
    obtain ⟨w6, hw6⟩ : ∃ w6, w5.alloc (.cells #[.int .i64 0, .int .i64 aN, .int .i64 0, .string agot, .int .i64 0, .int .i64 amo, .bool false, .int .i64 ard] 61) = w6 := ⟨_, rfl⟩
    have M6 : Mem5 W _ w6 := hw6 ▸ (N4.out.next b5).add #[.int .i64 0, .int .i64 aN, .int .i64 0, .string agot, .int .i64 0, .int .i64 amo, .bool false, .int .i64 ard] 61
    rw [hw6]
    clear hw6 b5 N4 k0 k1 k2 k3 j0 j1 j2 j3 C1
    generalize w5.heap.size = b1 at M6
    have j0 := row_cell (i := 0) (M6.blk _ _ (List.mem_cons_of_mem _ (List.mem_cons_of_mem _ (List.mem_cons_of_mem _ List.mem_cons_self)))) rfl
    have j1 := row_cell (i := 1) (M6.blk _ _ (List.mem_cons_of_mem _ (List.mem_cons_of_mem _ (List.mem_cons_of_mem _ List.mem_cons_self)))) rfl
    have j2 := row_cell (i := 2) (M6.blk _ _ (List.mem_cons_of_mem _ (List.mem_cons_of_mem _ (List.mem_cons_of_mem _ List.mem_cons_self)))) rfl
    have j3 := row_cell (i := 3) (M6.blk _ _ (List.mem_cons_of_mem _ (List.mem_cons_of_mem _ (List.mem_cons_of_mem _ List.mem_cons_self)))) rfl
    have k0 := row_cell (i := 0) (M6.blk _ _ (List.mem_cons_of_mem _ (List.mem_cons_of_mem _ List.mem_cons_self))) rfl
    have k1 := row_cell (i := 1) (M6.blk _ _ (List.mem_cons_of_mem _ (List.mem_cons_of_mem _ List.mem_cons_self))) rfl
    have k2 := row_cell (i := 2) (M6.blk _ _ (List.mem_cons_of_mem _ (List.mem_cons_of_mem _ List.mem_cons_self))) rfl
    have k3 := row_cell (i := 3) (M6.blk _ _ (List.mem_cons_of_mem _ (List.mem_cons_of_mem _ List.mem_cons_self))) rfl
    have N6 : Hid _ := M6
    clear M6
    go_upto_region 10 with (go_at_call 26; refine (C2.out w6 N6.out.below).mono ?_; rintro e w7 ⟨erd, egot, eof, emo, rfl, b7⟩)
    obtain ⟨w8, hw8⟩ : ∃ w8, w7.alloc (.cells #[.int .i64 oe, .int .i64 on, .int .i64 (PG.length : Nat), .string egot, .int .i64 eof, .int .i64 emo, .bool false, .int .i64 erd] 61) = w8 := ⟨_, rfl⟩
    have M8 : Mem5 W _ w8 := hw8 ▸ (N6.out.next b7).add #[.int .i64 oe, .int .i64 on, .int .i64 (PG.length : Nat), .string egot, .int .i64 eof, .int .i64 emo, .bool false, .int .i64 erd] 61
    rw [hw8]
    clear hw8 b7 N6 k0 k1 k2 k3 j0 j1 j2 j3 C2
    generalize w7.heap.size = b2 at M8
    have a0 := row_cell (i := 0) (M8.blk _ _ (List.mem_cons_of_mem _ List.mem_cons_self)) rfl
    have a2 := row_cell (i := 2) (M8.blk _ _ (List.mem_cons_of_mem _ List.mem_cons_self)) rfl
    have a4 := row_cell (i := 4) (M8.blk _ _ (List.mem_cons_of_mem _ List.mem_cons_self)) rfl
    have d0 := row_cell (i := 0) (M8.blk _ _ List.mem_cons_self) rfl
    have d1 := row_cell (i := 1) (M8.blk _ _ List.mem_cons_self) rfl
    have d2 := row_cell (i := 2) (M8.blk _ _ List.mem_cons_self) rfl
    have c1 := row_cell (i := 1) (M8.blk _ _ (List.mem_cons_of_mem _ (List.mem_cons_of_mem _ List.mem_cons_self))) rfl
    have c2 := row_cell (i := 2) (M8.blk _ _ (List.mem_cons_of_mem _ (List.mem_cons_of_mem _ List.mem_cons_self))) rfl
    have j0 := row_cell (i := 0) (M8.blk _ _ (List.mem_cons_of_mem _ (List.mem_cons_of_mem _ (List.mem_cons_of_mem _ (List.mem_cons_of_mem _ List.mem_cons_self))))) rfl
    have j1 := row_cell (i := 1) (M8.blk _ _ (List.mem_cons_of_mem _ (List.mem_cons_of_mem _ (List.mem_cons_of_mem _ (List.mem_cons_of_mem _ List.mem_cons_self))))) rfl
    have j2 := row_cell (i := 2) (M8.blk _ _ (List.mem_cons_of_mem _ (List.mem_cons_of_mem _ (List.mem_cons_of_mem _ (List.mem_cons_of_mem _ List.mem_cons_self))))) rfl
    have j3 := row_cell (i := 3) (M8.blk _ _ (List.mem_cons_of_mem _ (List.mem_cons_of_mem _ (List.mem_cons_of_mem _ (List.mem_cons_of_mem _ List.mem_cons_self))))) rfl
    have k0 := row_cell (i := 0) (M8.blk _ _ (List.mem_cons_of_mem _ (List.mem_cons_of_mem _ (List.mem_cons_of_mem _ List.mem_cons_self)))) rfl
    have k1 := row_cell (i := 1) (M8.blk _ _ (List.mem_cons_of_mem _ (List.mem_cons_of_mem _ (List.mem_cons_of_mem _ List.mem_cons_self)))) rfl
    have k2 := row_cell (i := 2) (M8.blk _ _ (List.mem_cons_of_mem _ (List.mem_cons_of_mem _ (List.mem_cons_of_mem _ List.mem_cons_self)))) rfl
    have k3 := row_cell (i := 3) (M8.blk _ _ (List.mem_cons_of_mem _ (List.mem_cons_of_mem _ (List.mem_cons_of_mem _ List.mem_cons_self)))) rfl
    have N8 : Hid _ := M8
    clear M8
    go_upto_region 12 with fail
    clear a0 a2 a4 d0 d1 d2 c1 c2
    go_upto_region 13 with (go_at_call 26; refine (C0.out w8 N8.out.below).mono ?_; rintro e w9 ⟨r, rfl, HR, b9⟩)
    obtain ⟨wa, hwa⟩ : ∃ wa, w9.alloc (.cells #[.int .i64 r.err, .int .i64 r.N, .int .i64 r.cnt, .string ⟨r.got.toArray⟩, .int .i64 r.of, .int .i64 r.mo, .bool false, .int .i64 q.n] 61) = wa := ⟨_, rfl⟩
    have Ma : Mem5 W _ wa := hwa ▸ (N8.out.next b9).add #[.int .i64 r.err, .int .i64 r.N, .int .i64 r.cnt, .string ⟨r.got.toArray⟩, .int .i64 r.of, .int .i64 r.mo, .bool false, .int .i64 q.n] 61
    rw [hwa]
    clear hwa b9 N8 k0 k1 k2 k3 j0 j1 j2 j3 C0
    generalize w9.heap.size = b3 at Ma
    have d0 := row_cell (i := 0) (Ma.blk _ _ List.mem_cons_self) rfl
    have d1 := row_cell (i := 1) (Ma.blk _ _ List.mem_cons_self) rfl
    have d2 := row_cell (i := 2) (Ma.blk _ _ List.mem_cons_self) rfl
    have d3 := row_cell (i := 3) (Ma.blk _ _ List.mem_cons_self) rfl
    have d4 := row_cell (i := 4) (Ma.blk _ _ List.mem_cons_self) rfl
    have d5 := row_cell (i := 5) (Ma.blk _ _ List.mem_cons_self) rfl
    have d6 := row_cell (i := 6) (Ma.blk _ _ List.mem_cons_self) rfl
    have d7 := row_cell (i := 7) (Ma.blk _ _ List.mem_cons_self) rfl
    have c1 := row_cell (i := 1) (Ma.blk _ _ (List.mem_cons_of_mem _ (List.mem_cons_of_mem _ (List.mem_cons_of_mem _ List.mem_cons_self)))) rfl
    have c2 := row_cell (i := 2) (Ma.blk _ _ (List.mem_cons_of_mem _ (List.mem_cons_of_mem _ (List.mem_cons_of_mem _ List.mem_cons_self)))) rfl
    have c3 := row_cell (i := 3) (Ma.blk _ _ (List.mem_cons_of_mem _ (List.mem_cons_of_mem _ (List.mem_cons_of_mem _ List.mem_cons_self)))) rfl
    have k1 := row_cell (i := 1) (Ma.blk _ _ (List.mem_cons_of_mem _ (List.mem_cons_of_mem _ (List.mem_cons_of_mem _ (List.mem_cons_of_mem _ List.mem_cons_self))))) rfl
    have k2 := row_cell (i := 2) (Ma.blk _ _ (List.mem_cons_of_mem _ (List.mem_cons_of_mem _ (List.mem_cons_of_mem _ (List.mem_cons_of_mem _ List.mem_cons_self))))) rfl
    have k3 := row_cell (i := 3) (Ma.blk _ _ (List.mem_cons_of_mem _ (List.mem_cons_of_mem _ (List.mem_cons_of_mem _ (List.mem_cons_of_mem _ List.mem_cons_self))))) rfl
    have NA : Hid (Below W.heap.size W wa) := Ma.below
    clear Ma
    have hmo : decide ((16 : Int) < (r.mo : Int)) = false := by have := HR.mo; simp; omega
    have HH : Hid _ := HR
    clear HR
    go_upto_region 15 with fail
    clear d5 d6 d7 c3 hmo
    by_cases hfi : ∃ t, q.o = .fine t
    · have e0 : oe = 0 := by
        rw [← HO.out.1]
        obtain ⟨t, ht⟩ := hfi
        rw [ht]
        rfl
      subst e0
      clear c2
      go_upto_region 17 with fail
      go_cut [11] (fun v wx => v = .bool (decide (li < 1) || decide (16 < li)) ∧ wa = wx)
      case first =>
        clear c1 d0 d1 d2 d3 d4 k1 k2 HH HO hfi hpl hz NA
        as_aux_lemma =>
        by_cases h1 : li < 1
        · have g1 : decide (li < 1) = true := by simpa using h1
          have E : Hid ((decide (li < 1) || decide (16 < li)) = true) := by show _ = _; simp [h1]
          go_wp2
          go_meet
          case rel => exact ⟨by rw [E.out], rfl⟩
        · have g1 : decide (li < 1) = false := by simpa using h1
          by_cases h2 : 16 < li
          · have g2 : decide (16 < li) = true := by simpa using h2
            have E : Hid ((decide (li < 1) || decide (16 < li)) = true) := by show _ = _; simp [h2]
            go_wp2
            go_meet
            case rel => exact ⟨by rw [E.out], rfl⟩
          · have g2 : decide (16 < li) = false := by simpa using h2
            have E : Hid ((decide (li < 1) || decide (16 < li)) = false) := by show _ = _; rw [g1, g2]; rfl
            go_wp2
            go_meet
            case rel => exact ⟨by rw [E.out], rfl⟩
      case rest =>
        obtain ⟨rfl, rfl⟩ := hcut
        obtain ⟨CB, hCB⟩ : ∃ CB, (decide (li < 1) || decide (16 < li)) = CB := ⟨_, rfl⟩
        have HCB : Hid ((decide (li < 1) || decide (16 < li)) = CB) := hCB
        rw [hCB]
        clear hCB k3
        go_upto_region 18 with fail
        go_cut [12] (fun v wx => v = .bool (decide (0 < l) && decide (l ≤ (r.of : Int))) ∧ wa = wx)
        case first =>
          clear c1 d0 d1 d2 d3 k1 HH HO hfi hpl hz NA HCB
          as_aux_lemma =>
          by_cases h1 : 0 < l
          · have g1 : decide (0 < l) = true := by simpa using h1
            by_cases h2 : l ≤ (r.of : Int)
            · have g2 : decide (l ≤ (r.of : Int)) = true := by simpa using h2
              have E : Hid ((decide (0 < l) && decide (l ≤ (r.of : Int))) = true) := by show _ = _; rw [g1, g2]; rfl
              go_wp2
              go_meet
              case rel => exact ⟨by rw [E.out], rfl⟩
            · have g2 : decide (l ≤ (r.of : Int)) = false := by simpa using h2
              have E : Hid ((decide (0 < l) && decide (l ≤ (r.of : Int))) = false) := by show _ = _; rw [g1, g2]; rfl
              go_wp2
              go_meet
              case rel => exact ⟨by rw [E.out], rfl⟩
          · have g1 : decide (0 < l) = false := by simpa using h1
            have E : Hid ((decide (0 < l) && decide (l ≤ (r.of : Int))) = false) := by show _ = _; rw [g1]; rfl
            go_wp2
            go_meet
            case rel => exact ⟨by rw [E.out], rfl⟩
        case rest =>
          obtain ⟨rfl, rfl⟩ := hcut
          obtain ⟨LB, hLB⟩ : ∃ LB, (decide (0 < l) && decide (l ≤ (r.of : Int))) = LB := ⟨_, rfl⟩
          have HLB : Hid (liedB ⟨.slice ta ts.length tc, ts, f, l, li⟩ r = LB) := hLB
          have HC2 : Hid (cannotB ⟨.slice ta ts.length tc, ts, f, l, li⟩ = CB) := HCB.out
          rw [hLB]
          clear hLB HCB
          by_cases hno : LB = true ∧ CB = false
          · obtain ⟨rfl, rfl⟩ := hno
            obtain ⟨n0, n1⟩ := wr_count HH.out hfi
            rw [HO.out.2.2.1] at n1
            have g3 : decide (r.cnt ≤ (PG.length : Int) + 16) = true := by simp; omega
            clear HH HO HC2 HLB hfi n0 n1 d0 d1 d3 k1 k2 c1
            as_aux_lemma =>
            go_wp2
            go_ret
            exact ⟨rfl, NA.out⟩
          · obtain ⟨p1, p2, p3, p4⟩ := wr_cases HH.out hfi (by rw [HLB.out, HC2.out]; exact hno)
            rw [HLB.out] at p2 p3 p4
            rw [HO.out.2.2.1] at p1 p4
            have hgl := p1.length_le
            have hzg := size_of r.got
            have g4 : decide ((PG.length : Int) < (r.got.length : Int)) = false := by simp; omega
            have hex : (⟨PG.toArray⟩ : ByteArray).extract 0 r.got.length = ⟨r.got.toArray⟩ := by
              obtain ⟨t, rfl⟩ := p1
              apply ByteArray.ext
              rw [ByteArray.data_extract]
              simp
            have HP : Hid _ := And.intro p2 (And.intro p3 p4)
            clear p1 p2 p3 p4 HH HO HC2 HLB hfi
            cases LB with
            | true =>
              have hCB : CB = true := by
                cases CB with
                | true => rfl
                | false => exact absurd ⟨rfl, rfl⟩ hno
              subst hCB
              clear hno
              obtain ⟨e1, e2, e3, e4⟩ := HP.out.1 rfl
              rw [e1] at d0
              rw [e2] at d4
              rw [e3] at d2
              have g5 : decide (r.N ≤ (r.got.length : Int)) = true := by simpa using e4
              clear HP e1 e2 e3 e4 k1 c1
              as_aux_lemma =>
              go_upto_region 21 with fail
              go_quiet (fail)
              go_wp2
              go_ret
              exact ⟨rfl, below_drawn NA.out _⟩
            | false =>
              clear hno
              have P3 : Hid _ := HP.out.2.1 rfl
              have P4 : Hid _ := HP.out.2.2 rfl
              clear HP k2 c1
              by_cases hfb : failB ⟨.slice ta ts.length tc, ts, f, l, li⟩ r = true
              · obtain ⟨e1, e2, e3, e4⟩ := P3.out hfb
                have hfb : (decide (0 < f) && decide (f ≤ (r.of : Int))) = true := hfb
                obtain ⟨f1, f2⟩ := Bool.and_eq_true_iff.1 hfb
                rw [e2] at d4 f2
                rw [e1] at d0
                rw [e3] at d2
                have g5 : decide (r.N ≤ (r.got.length : Int)) = true := by simpa using e4
                clear P3 P4 e1 e2 e3 e4 hfb
                as_aux_lemma =>
                go_upto_region 21 with fail
                go_quiet (fail)
                go_wp2
                go_ret
                exact ⟨rfl, below_drawn NA.out _⟩
              · have hfb : failB ⟨.slice ta ts.length tc, ts, f, l, li⟩ r = false := by simpa using hfb
                obtain ⟨e1, e2, e3, e4⟩ := P4.out hfb
                have hfb : (decide (0 < f) && decide (f ≤ (r.of : Int))) = false := hfb
                rw [e1] at d0
                rw [e2] at d2
                rw [e3] at d3 hex hzg g4 hgl
                clear P3 P4 e1 e2 e3 hzg d1
                as_aux_lemma =>
                obtain ⟨B1, hB1⟩ : ∃ B1, decide (0 < f) = B1 := ⟨_, rfl⟩
                obtain ⟨B2, hB2⟩ : ∃ B2, decide (f ≤ (r.of : Int)) = B2 := ⟨_, rfl⟩
                rw [hB1, hB2] at hfb
                by_cases hp : PG = []
                · subst hp
                  have z0 : (r.of : Int) = 0 := by have := e4.2 rfl; omega
                  rw [z0] at d4 hB2
                  clear e4 z0
                  cases B1 with
                  | false =>
                    go_upto_region 21 with fail
                    go_quiet (fail)
                    go_wp2
                    go_ret
                    exact ⟨rfl, below_drawn NA.out _⟩
                  | true =>
                    cases B2 with
                    | false =>
                      go_upto_region 21 with fail
                      go_quiet (fail)
                      go_wp2
                      go_ret
                      exact ⟨rfl, below_drawn NA.out _⟩
                    | true => cases hfb
                · have o0 : ((r.of : Int) == 0) = false := by
                    have : r.of ≠ 0 := fun h => hp (e4.1 h)
                    simp [this]
                  have s3 : PG.isEmpty = false := by
                    cases PG with
                    | nil => exact absurd rfl hp
                    | cons c t => rfl
                  clear e4 hp
                  cases B1 with
                  | false =>
                    go_upto_region 21 with fail
                    go_quiet (fail)
                    go_wp2
                    go_ret
                    exact ⟨rfl, below_drawn NA.out _⟩
                  | true =>
                    cases B2 with
                    | false =>
                      go_upto_region 21 with fail
                      go_quiet (fail)
                      go_wp2
                      go_ret
                      exact ⟨rfl, below_drawn NA.out _⟩
                    | true => cases hfb
    · have h0 := outErr_bad hfi
      obtain ⟨e1, e2, e3, e4, _⟩ := wr_bad HH.out hfi
      rw [HO.out.1] at h0 e1
      rw [HO.out.2.1] at e2
      rw [e1] at d0
      rw [e2] at d1
      rw [e3] at d2
      rw [e4] at d4
      have e0 : (oe != (0 : Int)) = true := by simp; omega
      clear HH HO e1 e2 e3 e4 h0 hfi d3 k1 k2 k3
      as_aux_lemma =>
      go_wp2
      go_ret
      exact ⟨rfl, NA.out⟩

end Go.Proofs.YtljcljipppjnoaaGreatDoor
