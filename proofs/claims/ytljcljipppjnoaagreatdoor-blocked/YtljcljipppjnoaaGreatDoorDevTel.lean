import Derived.Test.YtljcljipppjnoaaGreatDoorDevFrame
namespace Go.Proofs.YtljcljipppjnoaaGreatDoor
open Go.RowKit

/-! What the blocks tell: events, and leaves with where they stand. -/
inductive Stp where
  | ev (e : Ev)
  | leaf (t : List UInt8) (x y : Nat)
/-- As events: a leaf is its text. -/
def evOf : Stp → List Ev
  | .ev e => [e]
  | .leaf t _ _ => [⟨8, false, 0, t⟩]
/-- As events: in place of a leaf what stands in it. -/
def exOf (X : List UInt8 → List Ev) : Stp → List Ev
  | .ev e => [e]
  | .leaf t _ _ => X t
def flat (S : List Stp) : List Ev := S.flatMap evOf
def full (X : List UInt8 → List Ev) (S : List Stp) : List Ev := S.flatMap (exOf X)
theorem flat_app (a b : List Stp) : flat (a ++ b) = flat a ++ flat b := by simp [flat]
theorem full_app (X : List UInt8 → List Ev) (a b : List Stp) : full X (a ++ b) = full X a ++ full X b := by simp [full]
theorem flat_len (S : List Stp) : (flat S).length = S.length := by
  induction S with
  | nil => rfl
  | cons s S ih =>
    show (evOf s ++ flat S).length = _
    cases s <;> simp [evOf, ih]

/-- In place of a leaf's text: what stands in it. -/
def expX (X : List UInt8 → List Ev) : Option Int → List Ev → List Ev
  | _, [] => []
  | p, e :: r => (if e.kind = 8 ∧ p ≠ some 5 then X e.text else [e]) ++ expX X (some e.kind) r
/-- The kind of the last one. -/
def lastX (p : Option Int) (l : List Ev) : Option Int := match l.getLast? with
  | some e => some e.kind
  | none => p
theorem lastX_cons (p : Option Int) (e : Ev) (l : List Ev) : lastX p (e :: l) = lastX (some e.kind) l := by
  unfold lastX
  cases l with
  | nil => rfl
  | cons a b =>
    rw [List.getLast?_cons_cons]
    cases h : (a :: b).getLast? with
    | none => simp at h
    | some x => rfl
theorem expX_app (X : List UInt8 → List Ev) (p : Option Int) (a b : List Ev) : expX X p (a ++ b) = expX X p a ++ expX X (lastX p a) b := by
  induction a generalizing p with
  | nil => rfl
  | cons e a ih => rw [List.cons_append, expX, expX, lastX_cons, ih, List.append_assoc]
theorem expX_ne (X : List UInt8 → List Ev) (p : Option Int) (e : Ev) (r : List Ev) (h : e.kind ≠ 8) : expX X p (e :: r) = e :: expX X (some e.kind) r := by
  rw [expX, if_neg (fun x => h x.1)]
  rfl

/-- The leaves stand one behind the other, from a line to another. -/
def SpIn : Nat → Nat → List Stp → Prop
  | a, b, [] => a ≤ b
  | a, b, .ev _ :: r => SpIn a b r
  | a, b, .leaf t x y :: r => t ≠ [] ∧ a ≤ x ∧ x < y ∧ SpIn y b r
theorem SpIn.le {a b : Nat} {S : List Stp} (h : SpIn a b S) : a ≤ b := by
  induction S generalizing a with
  | nil => exact h
  | cons s S ih =>
    cases s with
    | ev e => exact ih h
    | leaf t x y =>
      obtain ⟨_, h1, h2, h3⟩ := h
      have := ih h3
      omega
theorem SpIn.from {a a' b : Nat} {S : List Stp} (h : SpIn a b S) (ha : a' ≤ a) : SpIn a' b S := by
  induction S with
  | nil => exact Nat.le_trans ha h
  | cons s S ih =>
    cases s with
    | ev e => exact ih h
    | leaf t x y =>
      obtain ⟨h0, h1, h2, h3⟩ := h
      exact ⟨h0, by omega, h2, h3⟩
theorem SpIn.upto {a b b' : Nat} {S : List Stp} (h : SpIn a b S) (hb : b ≤ b') : SpIn a b' S := by
  induction S generalizing a with
  | nil => exact Nat.le_trans h hb
  | cons s S ih =>
    cases s with
    | ev e => exact ih h
    | leaf t x y =>
      obtain ⟨h0, h1, h2, h3⟩ := h
      exact ⟨h0, h1, h2, ih h3⟩
theorem SpIn.app {a b c : Nat} {S R : List Stp} (h : SpIn a b S) (k : SpIn b c R) : SpIn a c (S ++ R) := by
  induction S generalizing a with
  | nil => exact k.from h
  | cons s S ih =>
    cases s with
    | ev e => exact ih h
    | leaf t x y =>
      obtain ⟨h0, h1, h2, h3⟩ := h
      exact ⟨h0, h1, h2, ih h3⟩

/-- These steps are those events, and their leaves stand on those lines. -/
structure SpOk (a b : Nat) (S : List Stp) (evs : List Ev) : Prop where
  flat : flat S = evs
  exp : ∀ X p, expX X p evs = full X S
  spans : SpIn a b S
theorem SpOk.nil (a : Nat) : SpOk a a [] [] := ⟨rfl, fun _ _ => rfl, Nat.le_refl _⟩
theorem SpOk.app {a b c : Nat} {S R : List Stp} {e f : List Ev} (h : SpOk a b S e) (k : SpOk b c R f) : SpOk a c (S ++ R) (e ++ f) :=
  ⟨by rw [flat_app, h.flat, k.flat], fun X p => by rw [expX_app, full_app, h.exp, k.exp], h.spans.app k.spans⟩
theorem SpOk.upto {a b b' : Nat} {S : List Stp} {e : List Ev} (h : SpOk a b S e) (hb : b ≤ b') : SpOk a b' S e := ⟨h.flat, h.exp, h.spans.upto hb⟩
theorem SpOk.len {a b : Nat} {S : List Stp} {e : List Ev} (h : SpOk a b S e) : S.length = e.length := by rw [← h.flat, flat_len]
/-- Something with its beginning and end. -/
theorem SpOk.within {a b : Nat} {S : List Stp} {e : List Ev} (h : SpOk a b S e) (x y : Ev) (hx : x.kind ≠ 8) (hy : y.kind ≠ 8) : SpOk a b ([.ev x] ++ S ++ [.ev y]) ([x] ++ e ++ [y]) := by
  refine ⟨by rw [flat_app, flat_app, h.flat]; rfl, fun X p => ?_, ?_⟩
  · rw [List.append_assoc, List.singleton_append, expX_ne _ _ _ _ hx, expX_app, h.exp, expX_ne _ _ _ _ hy, full_app, full_app]
    simp [full, exOf, expX]
  · exact (show SpIn a b ([.ev x] ++ S) from h.spans).app (show SpIn b b [.ev y] from Nat.le_refl b)
/-- A leaf with its beginning and end. -/
theorem SpOk.leaf (a n : Nat) (hn : 1 ≤ n) (k v : Int) (t : List UInt8) (hk : k ≠ 8) (h5 : k ≠ 5) : SpOk a (a + n) ([.ev ⟨k, false, v, []⟩] ++ (if t = [] then [] else [.leaf t a (a + n)]) ++ [.ev ⟨k, true, v, []⟩]) (leafS k v t) := by
  unfold leafS
  by_cases ht : t = []
  · rw [if_pos ht, if_pos ht]
    exact SpOk.within ((SpOk.nil a).upto (Nat.le_add_right a n)) ⟨k, false, v, []⟩ ⟨k, true, v, []⟩ hk hk
  · rw [if_neg ht, if_neg ht]
    refine ⟨rfl, fun X p => ?_, ht, Nat.le_refl _, by omega, Nat.le_refl _⟩
    rw [List.append_assoc, List.singleton_append, expX_ne _ _ _ _ hk, List.singleton_append, expX, if_pos ⟨rfl, fun h => h5 (Option.some.inj h)⟩, expX_ne _ _ _ _ hk]
    simp [full, exOf, expX]
/-- Code. -/
theorem SpOk.code (a b : Nat) (hb : a ≤ b) (t : List UInt8) : SpOk a b ((leafS 5 0 t).map .ev) (leafS 5 0 t) := by
  unfold leafS
  by_cases ht : t = []
  · rw [if_pos ht]
    exact SpOk.within ((SpOk.nil a).upto hb) ⟨5, false, 0, []⟩ ⟨5, true, 0, []⟩ (by decide) (by decide)
  · rw [if_neg ht]
    refine ⟨rfl, fun X p => ?_, hb⟩
    rw [List.append_assoc, List.singleton_append, expX_ne _ _ _ _ (by show (5 : Int) ≠ 8; decide), List.singleton_append, expX, if_neg (fun h => h.2 rfl), expX_ne _ _ _ _ (by show (5 : Int) ≠ 8; decide)]
    simp [full, exOf, expX]

/-! One who is told. -/
structure Tel where
  kd : Nat
  kl : Nat
  bd : Nat
  bl : Nat
  Own : World → Nat → Prop
  Told : List Stp → World → Prop

/-- What stays as it was: all below B but x and what is the teller's own. -/
structure Kt (q : Tel) (x : Option Nat) (B : Nat) (W w' : World) : Prop where
  os : w'.os = W.os
  tape : w'.tape = W.tape
  output : w'.output = W.output
  size : W.heap.size ≤ w'.heap.size
  block : ∀ b, b < B → some b ≠ x → ¬ q.Own W b → w'.heap[b]? = W.heap[b]?
  own : ∀ b, b < B → q.Own w' b → q.Own W b

/-- What is asked of one who is told. -/
structure Tel.Ok (q : Tel) : Prop where
  ed : ∀ args w, (callFunc q.kd args).run Tryz.prog w = .ok (.enter q.kd args) w
  el : ∀ args w, (callFunc q.kl args).run Tryz.prog w = .ok (.enter q.kl args) w
  lt : ∀ acc W, q.Told acc W → ∀ b, q.Own W b → b < W.heap.size
  keep : ∀ acc W w', q.Told acc W → (∀ b, q.Own W b → w'.heap[b]? = W.heap[b]?) → q.Told acc w' ∧ ∀ b, q.Own w' b → q.Own W b
  typ : ∀ acc W, q.Told acc W → ∀ b, q.Own W b → ∃ o, W.heap[b]? = some o ∧ ∀ c T fz, o = .cells c T fz → T ≠ 5 ∧ T ≠ 191
  doc : ∀ acc ev W, q.Told acc W → acc.length ≤ 1099511627776 → Calls Tryz.prog q.kd #[evV ev, .pointer (some ⟨q.bd, 0, none⟩)] W fun e w' => e = .returned (.tuple #[]) ∧ q.Told (acc ++ [.ev ev]) w' ∧ Kt q none W.heap.size W w'
  lfc : ∀ acc t (x y : Nat) W, q.Told acc W → t ≠ [] → acc.length ≤ 1099511627776 → Calls Tryz.prog q.kl #[.string ⟨t.toArray⟩, .agg #[.int .i64 x, .int .i64 y], .pointer (some ⟨q.bl, 0, none⟩)] W fun e w' => e = .returned (.tuple #[]) ∧ q.Told (acc ++ [.leaf t x y]) w' ∧ Kt q none W.heap.size W w'

theorem Kt.refl (q : Tel) (x : Option Nat) (B : Nat) (W : World) : Kt q x B W W := ⟨rfl, rfl, rfl, Nat.le_refl _, fun _ _ _ _ => rfl, fun _ _ h => h⟩
theorem Kt.trans {q : Tel} {B : Nat} {x : Option Nat} {a b c : World} (h : Kt q x B a b) (k : Kt q x B b c) : Kt q x B a c :=
  ⟨k.os.trans h.os, k.tape.trans h.tape, k.output.trans h.output, Nat.le_trans h.size k.size, fun i hi hx ho => (k.block i hi hx fun ho' => ho (h.own i hi ho')).trans (h.block i hi hx ho), fun i hi ho => h.own i hi (k.own i hi ho)⟩
theorem Kt.mono {q : Tel} {B B' : Nat} {x : Option Nat} {a b : World} (h : Kt q x B a b) (hB : B' ≤ B) : Kt q x B' a b :=
  ⟨h.os, h.tape, h.output, h.size, fun i hi => h.block i (by omega), fun i hi => h.own i (by omega)⟩
theorem Kt.weak {q : Tel} {B : Nat} {x : Option Nat} {a b : World} (h : Kt q none B a b) : Kt q x B a b :=
  ⟨h.os, h.tape, h.output, h.size, fun i hi _ => h.block i hi (by simp), h.own⟩
/-- The excepted block lies beyond. -/
theorem Kt.past {q : Tel} {B g : Nat} {a b : World} (h : Kt q (some g) B a b) (hg : B ≤ g) : Kt q none B a b :=
  ⟨h.os, h.tape, h.output, h.size, fun i hi _ => h.block i hi (by intro he; injection he with he; omega), h.own⟩
/-- A block that is not the teller's own stays so. -/
theorem Kt.off {q : Tel} {B g : Nat} {x : Option Nat} {a b : World} (h : Kt q x B a b) (hg : g < B) (ho : ¬ q.Own a g) : ¬ q.Own b g := fun h' => ho (h.own g hg h')

variable {q : Tel} {acc : List Stp} {W w' : World}
theorem Tel.Ok.below (hq : q.Ok) (hT : q.Told acc W) (hb : Below W.heap.size W w') : q.Told acc w' := (hq.keep acc W w' hT fun b ho => hb.block b (hq.lt acc W hT b ho)).1
theorem Tel.Ok.alloc (hq : q.Ok) (hT : q.Told acc W) (o : Obj) : q.Told acc (W.alloc o) := hq.below hT ((Below.refl _ W).alloc (Nat.le_refl _) o)
theorem Tel.Ok.kt (hq : q.Ok) (hT : q.Told acc W) (hb : Below W.heap.size W w') {x : Option Nat} : Kt q x W.heap.size W w' :=
  ⟨hb.os, hb.tape, hb.output, hb.size, fun i hi _ _ => hb.block i hi, fun i _ ho => (hq.keep acc W w' hT fun b ho => hb.block b (hq.lt acc W hT b ho)).2 i ho⟩
theorem Tel.Ok.off (hq : q.Ok) (hT : q.Told acc W) (hb : Below W.heap.size W w') {b : Nat} (ho : ¬ q.Own W b) : ¬ q.Own w' b := fun h => ho ((hq.keep acc W w' hT fun b ho => hb.block b (hq.lt acc W hT b ho)).2 b h)
theorem Tel.Ok.new (hq : q.Ok) (hT : q.Told acc W) (hb : Below W.heap.size W w') {b : Nat} (hl : W.heap.size ≤ b) : ¬ q.Own w' b := hq.off hT hb fun h => by
  have := hq.lt acc W hT b h
  omega
theorem Tel.Ok.new0 (hq : q.Ok) (hT : q.Told acc W) {b : Nat} (hl : W.heap.size ≤ b) : ¬ q.Own W b := hq.new hT (Below.refl _ W) hl
/-- A box that is not the teller's own is written. -/
theorem Tel.Ok.set (hq : q.Ok) (hT : q.Told acc W) {a : Addr} (ha : ¬ q.Own W a.block) (u : Value) : q.Told acc (W.setCell a u) ∧ (∀ b, q.Own (W.setCell a u) b → q.Own W b) :=
  hq.keep acc W _ hT fun b ho => Below.heap_setCell W a u b fun he => ha (he ▸ ho)
theorem Tel.Ok.setx (hq : q.Ok) (hT : q.Told acc W) {g : Nat} {k : Nat} (ha : ¬ q.Own W g) (u : Value) (B : Nat) : Kt q (some g) B W (W.setCell ⟨g, k, none⟩ u) :=
  ⟨rfl, rfl, rfl, by simp, fun b _ hx _ => Below.heap_setCell W _ u b (fun h => hx (by rw [h])), fun b _ ho => (hq.set hT (a := ⟨g, k, none⟩) ha u).2 b ho⟩

end Go.Proofs.YtljcljipppjnoaaGreatDoor
