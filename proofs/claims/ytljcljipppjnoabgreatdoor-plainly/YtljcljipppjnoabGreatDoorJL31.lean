import Derived.Test.YtljcljipppjnoabGreatDoorJL13
import Derived.Test.YtljcljipppjnoabGreatDoorJL25
import Derived.Test.YtljcljipppjnoabGreatDoorJL28
import Derived.Test.YtljcljipppjnoabGreatDoorJL29
import Derived.Test.YtljcljipppjnoabGreatDoorJL30
namespace Go.Proofs.YtljcljipppjnoabGreatDoor
open Go.RowKit
structure Glob (w : World) (aL aI : Addr) : Prop where
  long : w.cell? ⟨1, 0, none⟩ = some (.iface 233 (.pointer (some aL)))
  idle : w.cell? ⟨2, 0, none⟩ = some (.iface 233 (.pointer (some aI)))
  type : w.cell? ⟨3, 0, none⟩ = some (.iface 111 (.agg #[.pointer (some ⟨12, 41, none⟩)]))
  other : ∀ W : World, (∀ b : Nat, b < w.heap.size → W.heap[b]? = w.heap[b]?) → (binOp .eql 41 (.iface 233 (.pointer (some aI))) (.iface 233 (.pointer (some aL)))).run Tryz.prog W = .ok (.bool false) W
theorem Glob.below {w W : World} {aL aI : Addr} (h : Glob w aL aI) (hb : Below w.heap.size w W) : Glob W aL aI :=
  ⟨(hb.cell (lt_cell h.long)).trans h.long, (hb.cell (lt_cell h.idle)).trans h.idle, (hb.cell (lt_cell h.type)).trans h.type, fun W' hW' => h.other W' fun b hl => (hW' b (Nat.lt_of_lt_of_le hl hb.size)).trans (hb.block b hl)⟩
def Tells (v : Value) (a k : Int) (w : World) : Prop :=
  ∀ W, Below w.heap.size w W → Calls Tryz.prog 8 #[v] W fun e w' => e = .returned (.agg #[.int .i64 a, .int .i64 k]) ∧ Below W.heap.size W w'
theorem gat_size {fa : Int} {wt : Bool} {s : ByteArray} {n : Nat} : ∀ {f : Nat} {tx : ByteArray} {cs : List Int} {rd : Nat} {acc : ByteArray} {idle : Nat}, gat fa wt f tx cs rd acc idle = some (.fine s, n) → s.size ≤ 300 := by
  intro f
  induction f with
  | zero => intro tx cs rd acc idle h; cases h
  | succ f ih =>
    intro tx cs rd acc idle h
    unfold gat at h
    split at h
    · cases h
    split at h
    · cases h
    rename_i hl
    split at h
    · simp only [Option.some.injEq, Prod.mk.injEq, Out.fine.injEq] at h
      rw [← h.1, ByteArray.size_append]
      omega
    split at h
    · split at h
      · cases h
      · exact ih h
    · exact ih h
set_option maxHeartbeats 1000000 in
theorem pgather_nil (w : World) :
    Calls Tryz.prog 28 #[.nilIface] w fun e w' => e = .returned (.tuple #[.string ⟨#[]⟩, .nilIface]) ∧ Below w.heap.size w w' := by
  have hc := text_any ⟨#[]⟩ w (by decide)
  have he : (reg ⟨#[]⟩).toArray = #[] := by decide
  rw [he] at hc
  go_enter Tryz.func28, Tryz.ntmps28
  go_wp2_with (first | (go_at_call 36; go_in) | (go_at_call 37; refine hc.mono ?_; rintro e w1 ⟨rfl, hb⟩))
  go_ret2
  exact ⟨rfl, hb⟩
end Go.Proofs.YtljcljipppjnoabGreatDoor

namespace Go.Proofs.YtljcljipppjnoabGreatDoor
open Go.RowKit
def ErrAt (aL aI : Addr) (o : Out) (v : Value) (O : Nat → Prop) (W : World) : Prop :=
  match o with
  | .fine _ => v = .nilIface
  | .long => v = .iface 233 (.pointer (some aL))
  | .idle => v = .iface 233 (.pointer (some aI))
  | .fail k => ∃ gE gO : Nat, v = .iface 62 (.pointer (some ⟨gE, 0, none⟩)) ∧ O gE ∧ W.heap[gE]? = some (.cells #[.int .i64 k, .iface 61 (.pointer (some ⟨gO, 0, none⟩))] 68 (0, 0))
theorem ErrAt.keep {aL aI : Addr} {o : Out} {v : Value} {O : Nat → Prop} {W w' : World} (h : ErrAt aL aI o v O W) (hk : ∀ x, O x → w'.heap[x]? = W.heap[x]?) : ErrAt aL aI o v O w' := by
  cases o with
  | fine s => exact h
  | long => exact h
  | idle => exact h
  | fail k =>
    obtain ⟨gE, gO, h1, h2, h3⟩ := h
    exact ⟨gE, gO, h1, h2, (hk gE h2).trans h3⟩
theorem ErrAt.mono {aL aI : Addr} {o : Out} {v : Value} {O O' : Nat → Prop} {W : World} (h : ErrAt aL aI o v O W) (hk : ∀ x, O x → O' x) : ErrAt aL aI o v O' W := by
  cases o with
  | fine s => exact h
  | long => exact h
  | idle => exact h
  | fail k =>
    obtain ⟨gE, gO, h1, h2, h3⟩ := h
    exact ⟨gE, gO, h1, hk gE h2, h3⟩
theorem ErrAt.told {aL aI : Addr} {o : Out} {v : Value} {O : Nat → Prop} {W : World} (h : ErrAt aL aI o v O W) (G : Glob W aL aI) :
    Calls Tryz.prog 8 #[v] W fun e w' => e = .returned (.agg #[.int .i64 (outErr o), .int .i64 (outN o)]) ∧ Below W.heap.size W w' := by
  cases o with
  | fine s => obtain rfl := h; exact of_nil W
  | long => obtain rfl := h; exact of_long aL W G.long
  | idle => obtain rfl := h; exact of_idle aL aI W G.long G.idle G.other
  | fail k =>
    obtain ⟨gE, gO, rfl, _, h3⟩ := h
    exact of_read gE k ⟨gO, 0, none⟩ W G.type (by rw [Lib.cell_of_heap h3]; rfl) (by rw [Lib.cell_of_heap h3]; rfl)
set_option maxHeartbeats 1000000 in
theorem pgather_at (b f : Nat) (tx : ByteArray) (cv : Value) (cs : List Int) (fa : Int) (wt : Bool) (o : Out) (n : Nat) (aL aI : Addr) (w : World) (h : SrcAt b tx cv fa wt 0 false w) (hcs : CutsOK b cv cs w) (hts : tx.size ≤ 4611686018427387904) (hf : f ≤ 1099511627776)
    (hg : gat fa wt f tx cs 0 ByteArray.empty 0 = some (o, n)) (hb5 : 1 ≠ b ∧ 2 ≠ b) (G : Glob w aL aI) :
    Calls Tryz.prog 28 #[.iface 34 (.pointer (some ⟨b, 0, none⟩))] w fun e w' =>
      (∃ v, e = .returned (.tuple #[.string (outText o), v]) ∧ ErrAt aL aI o v (fun x => w.heap.size ≤ x ∧ x < w'.heap.size) w') ∧ (∃ tx' cv' ov', SrcAt b tx' cv' fa wt n ov' w') ∧ Kept b w w' := by
  have hall := all_any b f tx cv cs fa wt o n aL aI w h hcs hts hf hg ⟨hb5.1, hb5.2⟩ G.long G.idle
  have hsz : ∀ s, o = .fine s → s.size ≤ 35184372088832 := fun s e => by subst e; have := gat_size hg; omega
  clear hg hts hcs h
  cases o with
  | fine s =>
    have hc := fun W => text_any s W (hsz s rfl)
    clear hsz
    go_enter Tryz.func28, Tryz.ntmps28
    go_wp2_with (go_at_call 36; refine hall.mono ?_)
    rintro e w1 ⟨rfl, ⟨tx', cv', ov', hs⟩, hk⟩
    go_wp2_with (go_at_call 37; refine (hc w1).mono ?_)
    rintro e w2 ⟨rfl, hb2⟩
    go_wp2
    go_ret2
    exact ⟨⟨_, rfl, rfl⟩, ⟨tx', cv', ov', hs.below hb2 hs.lt⟩, hk.then_below (hb2.mono hk.size)⟩
  | long =>
    clear hsz
    go_enter Tryz.func28, Tryz.ntmps28
    go_wp2_with (go_at_call 36; refine hall.mono ?_)
    rintro e w1 ⟨rfl, hs, hk⟩
    go_wp2
    go_ret2
    exact ⟨⟨_, rfl, rfl⟩, hs, hk⟩
  | idle =>
    clear hsz
    go_enter Tryz.func28, Tryz.ntmps28
    go_wp2_with (go_at_call 36; refine hall.mono ?_)
    rintro e w1 ⟨rfl, hs, hk⟩
    go_wp2
    go_ret2
    exact ⟨⟨_, rfl, rfl⟩, hs, hk⟩
  | fail k =>
    clear hsz
    go_enter Tryz.func28, Tryz.ntmps28
    go_wp2_with (go_at_call 36; refine hall.mono ?_)
    rintro e w1 ⟨⟨gE, gO, r, rfl, x1, x2, x3, x4⟩, hs, hk⟩
    go_wp2
    go_ret2
    exact ⟨⟨_, rfl, gE, gO, rfl, ⟨x3, (Array.getElem?_eq_some_iff.1 x1).1⟩, x1⟩, hs, hk⟩
end Go.Proofs.YtljcljipppjnoabGreatDoor
