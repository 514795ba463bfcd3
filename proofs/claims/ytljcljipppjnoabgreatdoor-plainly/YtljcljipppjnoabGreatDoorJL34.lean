import Derived.Test.YtljcljipppjnoabGreatDoorJL03
import Derived.RangeFuncRecord
import Derived.RangeFuncBound
namespace Go.Proofs.YtljcljipppjnoabGreatDoor
open Go.RowKit
structure OwnS {β : Type} (J : β → (Nat → Prop) → World → Prop) : Prop where
  keep : ∀ s O W w', J s O W → (∀ x, O x → w'.heap[x]? = W.heap[x]?) → W.heap.size ≤ w'.heap.size → J s O w'
  lt : ∀ s O W, J s O W → ∀ x, O x → x < W.heap.size
theorem yield_wide {m m' : Nat} {P : Program} {l : Nat} {args : Array Value} {W : World} {R : Ending → World → Prop} (h : YieldAt Fence.wide m P l args W R) : YieldAt Fence.wide m' P l args W R := by
  obtain ⟨fn, tmps, assign, body, hy, hR⟩ := h
  exact ⟨fn, tmps, assign, body, hy, hR.1, fun c cs _ => hR.2 c cs (room_wide _)⟩
def SeqF {α : Type} (P : Program) (w0 : World) (gf : Nat) (lb : Array Value) (encs : α → Array Value) (xs : List α) (R R' : (Nat → Prop) → World → Prop) : Prop :=
  ∀ (l : Nat) (J Jx : List α → (Nat → Prop) → World → Prop) (OI OJ : Nat → Prop) (W : World), OwnS J → OwnS Jx → Below w0.heap.size w0 W → (∀ x, OI x ∨ OJ x → w0.heap.size ≤ x) → R OI W → J [] OJ W → (∀ x, OI x → ¬ OJ x) →
    (∀ pre x rest O1 W1, pre ++ x :: rest = xs → Below w0.heap.size w0 W1 → (∀ y, O1 y → w0.heap.size ≤ y) → J pre O1 W1 → YieldAt Fence.wide 0 P l (encs x) W1 fun e W' => ∃ O', Fp O1 O' W1 W' ∧ ((e = .returned (.bool true) ∧ J (pre ++ [x]) O' W') ∨ (e = .returned (.bool false) ∧ Jx (pre ++ [x]) O' W'))) →
    Calls P gf (#[.func (.yield l) #[] #[]] ++ lb) W fun e W' => (∃ v, e = .returned v) ∧ ∃ OI' OJ', R' OI' W' ∧ (∀ x, OI' x → ¬ OJ' x) ∧ Fp (fun x => OI x ∨ OJ x) (fun x => OI' x ∨ OJ' x) W W' ∧ (J xs OJ' W' ∨ ∃ pre, Jx pre OJ' W')
def fpPost {α : Type} (I Ix : List α → (Nat → Prop) → World → Prop) (s : List α) (O : Nat → Prop) (W : World) : Exit → Act → World → Prop
  | .normal, _, W' => ∃ O', Fp O O' W W' ∧ I s O' W'
  | .ret, _, W' => ∃ O', Fp O O' W W' ∧ Ix s O' W'
  | _, _, _ => False
def RoundJ {α : Type} (I : List α → (Nat → Prop) → World → Prop) (l D : Nat) (r : Loop) (s : List α) (OJ : Nat → Prop) (W : World) : Prop :=
  ∃ O, I s O W ∧ W.heap[l]? = some (.loop r) ∧ W.heap[D]? = some (.deferred (some [])) ∧ ¬ O l ∧ ¬ O D ∧ l ≠ D ∧ ∀ x, OJ x ↔ (O x ∨ x = l ∨ x = D)
theorem RoundJ.own {α : Type} {I : List α → (Nat → Prop) → World → Prop} (kI : OwnS I) (l D : Nat) (r : Loop) : OwnS (RoundJ I l D r) := by
  refine ⟨?_, ?_⟩
  · rintro s OJ W w' ⟨O, h1, h2, h3, h4, h5, h6, h7⟩ hk hz
    exact ⟨O, kI.keep s O W w' h1 (fun x hx => hk x ((h7 x).2 (Or.inl hx))) hz, (hk l ((h7 l).2 (Or.inr (Or.inl rfl)))).trans h2, (hk D ((h7 D).2 (Or.inr (Or.inr rfl)))).trans h3, h4, h5, h6, h7⟩
  · rintro s OJ W ⟨O, h1, h2, h3, h4, h5, h6, h7⟩ x hx
    rcases (h7 x).1 hx with h | rfl | rfl
    · exact kI.lt s O W h1 x h
    · exact (Array.getElem?_eq_some_iff.1 h2).1
    · exact (Array.getElem?_eq_some_iff.1 h3).1
theorem rangeF {α : Type} {P : Program} {n : Nat} {g : Operand} {ps : Array Tmp} {assign body : Code} {Q : Exit → Act → World → Prop} {a : Act} {w w0 : World}
    {gf : Nat} {lb : Array Value} (hg : a.eval g = .func (.func gf) #[] lb) (eg : ∀ args w, (callFunc gf args).run P w = .ok (.enter gf args) w)
    {encs : α → Array Value} {xs : List α} {R R' : (Nat → Prop) → World → Prop} (hseq : SeqF P w0 gf lb encs xs R R') (hps : ∀ x, (encs x).size = ps.size)
    (kR : OwnS fun (_ : Unit) => R) (kR' : OwnS fun (_ : Unit) => R') (I Ix : List α → (Nat → Prop) → World → Prop) (kI : OwnS I) (kX : OwnS Ix) {OI O : Nat → Prop}
    (hb : Below w0.heap.size w0 w) (hlow : ∀ x, OI x ∨ O x → w0.heap.size ≤ x) (hr : R OI w) (h0 : I [] O w) (hd : ∀ x, OI x → ¬ O x) (I1 : List α × α × Act → (Nat → Prop) → World → Prop) (k1 : OwnS I1)
    (hassign : ∀ (l : Nat) (pre : List α) (x : α) (rest : List α) (O : Nat → Prop) (W : World) (K : Act → World → Prop), pre ++ x :: rest = xs → Below w0.heap.size w0 W → (∀ y, O y → w0.heap.size ≤ y) → I pre O W → (∀ a' O' W', Fp O O' W W' → I1 (pre, x, a') O' W' → K a' W') →
      assign.wpIn (Fence.wide.inRound l) 0 P (Exit.then K (fun _ _ _ => False)) { tmps := (ps.zip (encs x)).foldl (fun t (p, v) => t.setIfInBounds p v) a.tmps, defers := [] } W)
    (hbody : ∀ (l : Nat) (pre : List α) (x : α) (rest : List α) (a' : Act) (O : Nat → Prop) (W : World), pre ++ x :: rest = xs → Below w0.heap.size w0 W → (∀ y, O y → w0.heap.size ≤ y) → I1 (pre, x, a') O W → body.wpIn (Fence.wide.inRound l) 0 P (fpPost I Ix (pre ++ [x]) O W) a' W)
    (hdone : ∀ (D : Nat) (OI' O' : Nat → Prop) (W : World), R' OI' W → I xs O' W → (∀ x, OI' x → ¬ O' x) → Fp (fun x => OI x ∨ O x) (fun x => OI' x ∨ O' x) w W → W.heap[D]? = some (.deferred (some [])) → w.heap.size ≤ D → ¬ OI' D → ¬ O' D → Q .normal { a with defers := { target := .collected D, args := #[] } :: a.defers } W)
    (hstop : ∀ (D : Nat) (pre : List α) (OI' O' : Nat → Prop) (W : World), R' OI' W → Ix pre O' W → (∀ x, OI' x → ¬ O' x) → Fp (fun x => OI x ∨ O x) (fun x => OI' x ∨ O' x) w W → W.heap[D]? = some (.deferred (some [])) → w.heap.size ≤ D → ¬ OI' D → ¬ O' D → Code.ret.wpIn Fence.wide n P Q { a with defers := { target := .collected D, args := #[] } :: a.defers } W) :
    (Code.rangeFunc g ps assign body).wpIn Fence.wide n P Q a w := by
  refine wpIn_rangeFunc ?_
  intro fn _
  obtain ⟨rc, hrc⟩ : ∃ rc : LoopState → Option Code → Loop, rc = fun st pe => { state := st, pending := pe, fn, tmps := a.tmps, params := ps, assign, body, defers := w.heap.size } := ⟨_, rfl⟩
  obtain ⟨W1, hW1⟩ : ∃ W1, (w.alloc (.deferred (some []))).alloc (.loop (rc .ready none)) = W1 := ⟨_, rfl⟩
  have hL1 : W1.heap[w.heap.size + 1]? = some (.loop (rc .ready none)) := by
    rw [← hW1]
    have := World.alloc_heap_new (w.alloc (.deferred (some []))) (.loop (rc .ready none))
    rwa [World.size_alloc] at this
  have hK1 : W1.heap[w.heap.size]? = some (.deferred (some [])) := by
    rw [← hW1]
    exact (Below.heap_alloc _ _ _ (by simp)).trans (World.alloc_heap_new w _)
  have b1 : Below w.heap.size w W1 := by
    rw [← hW1]
    exact ((Below.refl _ w).alloc (Nat.le_refl _) _).alloc (by simp) _
  have z1 : W1.heap.size = w.heap.size + 2 := by rw [← hW1]; simp
  have kept : ∀ x, x < w.heap.size → W1.heap[x]? = w.heap[x]? := fun x hx => b1.block x hx
  have hIlt := kI.lt _ _ _ h0
  have hRlt := kR.lt () _ _ hr
  have hJ0 : RoundJ I (w.heap.size + 1) w.heap.size (rc .ready none) [] (fun x => O x ∨ x = w.heap.size + 1 ∨ x = w.heap.size) W1 :=
    ⟨O, kI.keep _ _ _ _ h0 (fun x hx => kept x (hIlt x hx)) b1.size, hL1, hK1, fun h => by have := hIlt _ h; omega, fun h => by have := hIlt _ h; omega, by omega, fun x => Iff.rfl⟩
  have hR1 : R OI W1 := kR.keep () _ _ _ hr (fun x hx => kept x (hRlt x hx)) b1.size
  have hlow1 : ∀ x, OI x ∨ (O x ∨ x = w.heap.size + 1 ∨ x = w.heap.size) → w0.heap.size ≤ x := by
    have := hb.size
    rintro x (h | h | rfl | rfl)
    · exact hlow x (Or.inl h)
    · exact hlow x (Or.inr h)
    · omega
    · omega
  have hd1 : ∀ x, OI x → ¬ (O x ∨ x = w.heap.size + 1 ∨ x = w.heap.size) := by
    rintro x h (h1 | rfl | rfl)
    · exact hd x h h1
    · have := hRlt _ h; omega
    · have := hRlt _ h; omega
  have hb1 : Below w0.heap.size w0 W1 := hb.trans (b1.mono hb.size)
  refine ⟨w.heap.size + 1, [{ target := .collected w.heap.size, args := #[] }], W1, { target := .fn (.func gf) lb, args := #[.func (.yield (w.heap.size + 1)) #[] #[]] }, W1, gf,
    #[.func (.yield (w.heap.size + 1)) #[] #[]] ++ lb, W1, ?_, ?_, fun _ _ => trivial, ?_, fun h => (by cases h), ?_⟩
  · rw [← hW1, hrc]
    exact run_enterLoop_outer _ _ _ _ _
  · simp only [resolve, hg]
    simp [go_sem]
  · simp [invoke, go_sem, eg]
  · refine callsIn_wide.2 ((hseq (w.heap.size + 1) (RoundJ I (w.heap.size + 1) w.heap.size (rc .ready none)) (RoundJ Ix (w.heap.size + 1) w.heap.size (rc .done (some .ret))) OI (fun x => O x ∨ x = w.heap.size + 1 ∨ x = w.heap.size) W1 (RoundJ.own kI _ _ _) (RoundJ.own kX _ _ _) hb1 hlow1 hR1 hJ0 hd1 ?_).mono ?_)
    · rintro pre x rest O1 W hx hbW hlo ⟨OC, hi, hl, hk, nl, nD, _, hiff⟩
      have hlt : w.heap.size + 1 < W.heap.size := (Array.getElem?_eq_some_iff.1 hl).1
      have hy := run_yield (P := P) (args := encs x) hl (by rw [hrc]; exact hps x)
      rw [hrc] at hy
      have hloC : ∀ y, OC y → w0.heap.size ≤ y := fun y hy => hlo y ((hiff y).2 (Or.inl hy))
      refine ⟨fn, _, assign, body, hy, roundIn_of_wpIn trivial (hassign _ pre x rest OC W _ hx hbW hloC hi ?_)⟩
      intro a' OA WA hfA hiA
      have zA := hfA.size
      have hlA : WA.heap[w.heap.size + 1]? = some (.loop (rc .ready none)) := (hfA.block _ hlt nl).trans hl
      have hkA : WA.heap[w.heap.size]? = some (.deferred (some [])) := (hfA.block _ (by omega) nD).trans hk
      have nlA : ¬ OA (w.heap.size + 1) := fun h => by
        rcases hfA.grow _ h with h | h
        · exact nl h
        · omega
      have nDA : ¬ OA w.heap.size := fun h => by
        rcases hfA.grow _ h with h | h
        · exact nD h
        · omega
      refine ⟨_, run_beginRound hlA (by rw [hrc]), ?_⟩
      obtain ⟨W2, hW2⟩ : ∃ W2, WA.putObj (w.heap.size + 1) (.loop { rc .ready none with state := .busy }) = W2 := ⟨_, rfl⟩
      rw [hW2]
      have s2 : W2.heap.size = WA.heap.size := by rw [← hW2]; simp
      have o2 : ∀ y, y ≠ w.heap.size + 1 → W2.heap[y]? = WA.heap[y]? := fun y hy => by rw [← hW2]; exact World.putObj_heap_other hy
      have l2 : W2.heap[w.heap.size + 1]? = some (.loop { rc .ready none with state := .busy }) := by rw [← hW2]; exact World.putObj_heap_same (by omega)
      have k2 : W2.heap[w.heap.size]? = some (.deferred (some [])) := (o2 _ (by omega)).trans hkA
      have hfr : W2.os = W.os ∧ W2.tape = W.tape ∧ W2.output = W.output := by rw [← hW2]; exact ⟨hfA.os, hfA.tape, hfA.output⟩
      have i2 : I1 (pre, x, a') OA W2 := k1.keep _ _ _ _ hiA (fun y hy => o2 y (fun e => nlA (e ▸ hy))) (by omega)
      have hz := hb.size
      have hloA : ∀ y, OA y → w0.heap.size ≤ y := hfA.low (by omega) hloC
      have b2 : Below w0.heap.size w0 W2 := by
        have bA : Below w0.heap.size W WA := hfA.under (by omega) hloC
        exact hbW.trans ⟨hfr.1, hfr.2.1, hfr.2.2, by omega, fun y hy => (o2 y (by omega)).trans (bA.block y hy)⟩
      refine wpIn_mono (hbody _ pre x rest a' OA W2 hx b2 hloA i2) ?_
      have fin : ∀ (jump : Option Code) (I' : List α → (Nat → Prop) → World → Prop) (W3 : World) (O' : Nat → Prop), OwnS I' → Fp OA O' W2 W3 → I' (pre ++ [x]) O' W3 → ∃ v W4, (Instr.endRound (w.heap.size + 1) jump).run P W3 = .ok v W4 ∧ v = .bool jump.isNone ∧ ∃ O4, Fp O1 O4 W W4 ∧ RoundJ I' (w.heap.size + 1) w.heap.size (rc (if jump.isNone then .ready else .done) jump) (pre ++ [x]) O4 W4 := by
        intro jump I' W3 O' kI' hf hi3
        have hl3 : W3.heap[w.heap.size + 1]? = some (.loop { rc .ready none with state := .busy }) := (hf.block _ (by omega) nlA).trans l2
        have hk3 : W3.heap[w.heap.size]? = some (.deferred (some [])) := (hf.block _ (by omega) nDA).trans k2
        have nl3 : ¬ O' (w.heap.size + 1) := fun h => by
          rcases hf.grow _ h with h | h
          · exact nlA h
          · omega
        have nD3 : ¬ O' w.heap.size := fun h => by
          rcases hf.grow _ h with h | h
          · exact nDA h
          · omega
        have hlt3 := (Array.getElem?_eq_some_iff.1 hl3).1
        have her := run_endRound (P := P) jump hl3
        rw [hrc] at her
        refine ⟨_, _, her, rfl, fun y => O' y ∨ y = w.heap.size + 1 ∨ y = w.heap.size, ?_, O', kI'.keep _ _ _ _ hi3 (fun y hy => World.putObj_heap_other (fun e => nl3 (e ▸ hy))) (by simp), ?_, (World.putObj_heap_other (by omega)).trans hk3, nl3, nD3, by omega, fun y => Iff.rfl⟩
        · have s3 := hf.size
          refine ⟨hf.os.trans hfr.1, hf.tape.trans hfr.2.1, hf.output.trans hfr.2.2, by simp; omega, fun y hy ho => ?_, fun y hy => ?_⟩
          · have n1 : ¬ OC y := fun h => ho ((hiff y).2 (Or.inl h))
            have n2 : y ≠ w.heap.size + 1 := fun h => ho ((hiff y).2 (Or.inr (Or.inl h)))
            have n3 : ¬ OA y := fun h => by
              rcases hfA.grow _ h with h | h
              · exact n1 h
              · omega
            exact (World.putObj_heap_other n2).trans ((hf.block y (by omega) n3).trans ((o2 y n2).trans (hfA.block y hy n1)))
          · rcases hy with hy | rfl | rfl
            · rcases hf.grow y hy with h | h
              · rcases hfA.grow y h with h | h
                · exact Or.inl ((hiff y).2 (Or.inl h))
                · exact Or.inr h
              · exact Or.inr (by omega)
            · exact Or.inl ((hiff _).2 (Or.inr (Or.inl rfl)))
            · exact Or.inl ((hiff _).2 (Or.inr (Or.inr rfl)))
        · rw [hrc]
          exact World.putObj_heap_same hlt3
      rintro e a3 W3 hp
      cases e with
      | normal =>
        obtain ⟨O', hf, hi3⟩ := hp
        obtain ⟨v, W4, q1, rfl, O4, q2, q3⟩ := fin none I W3 O' kI hf hi3
        exact ⟨_, W4, q1, O4, q2, Or.inl ⟨rfl, q3⟩⟩
      | ret =>
        obtain ⟨O', hf, hi3⟩ := hp
        obtain ⟨v, W4, q1, rfl, O4, q2, q3⟩ := fin (some .ret) Ix W3 O' kX hf hi3
        exact ⟨_, W4, q1, O4, q2, Or.inr ⟨rfl, q3⟩⟩
      | exit id => exact hp.elim
      | goto t => exact hp.elim
      | panic ch => exact hp.elim
      | outgrown => exact hp.elim
    · rintro e W2 ⟨⟨v, rfl⟩, OI', OJ', hR', hd', hf, hJ⟩
      have fin : ∀ (s : List α) (r : Loop) (I' : List α → (Nat → Prop) → World → Prop), OwnS I' → RoundJ I' (w.heap.size + 1) w.heap.size r s OJ' W2 → r.state ≠ .busy → ∃ W3 O', (Instr.endLoop (w.heap.size + 1)).run P W2 = .ok r.pending W3 ∧ R' OI' W3 ∧ I' s O' W3 ∧ (∀ x, OI' x → ¬ O' x) ∧ Fp (fun x => OI x ∨ O x) (fun x => OI' x ∨ O' x) w W3 ∧ W3.heap[w.heap.size]? = some (.deferred (some [])) ∧ ¬ OI' w.heap.size ∧ ¬ O' w.heap.size := by
        rintro s r I' kI' ⟨O', hi, hl, hk, nl, nD, _, hiff⟩ hst
        have nl' : ¬ OI' (w.heap.size + 1) := fun h => hd' _ h ((hiff _).2 (Or.inr (Or.inl rfl)))
        have nD' : ¬ OI' w.heap.size := fun h => hd' _ h ((hiff _).2 (Or.inr (Or.inr rfl)))
        have f1 := hf.size
        refine ⟨_, O', run_endLoop (P := P) hl hst, kR'.keep () _ _ _ hR' (fun y hy => World.putObj_heap_other (fun e => nl' (e ▸ hy))) (by simp), kI'.keep _ _ _ _ hi (fun y hy => World.putObj_heap_other (fun e => nl (e ▸ hy))) (by simp), fun y h1 h2 => hd' y h1 ((hiff y).2 (Or.inl h2)), ?_, (World.putObj_heap_other (by omega)).trans hk, nD', nD⟩
        refine ⟨hf.os.trans b1.os, hf.tape.trans b1.tape, hf.output.trans b1.output, by simp; omega, fun y hy ho => ?_, fun y hy => ?_⟩
        · refine (World.putObj_heap_other (by omega)).trans ((hf.block y (by omega) ?_).trans (kept y hy))
          rintro (h | h | h | h)
          · exact ho (Or.inl h)
          · exact ho (Or.inr h)
          · omega
          · omega
        · have : OI' y ∨ OJ' y := hy.imp id (fun h => (hiff y).2 (Or.inl h))
          rcases hf.grow y this with (h | h | h | h) | h
          · exact Or.inl (Or.inl h)
          · exact Or.inl (Or.inr h)
          · exact Or.inr (by omega)
          · exact Or.inr (by omega)
          · exact Or.inr (by omega)
      rcases hJ with hJ | ⟨pre, hJ⟩
      · obtain ⟨W3, O', q1, q2, q3, q4, q5, q6, q7, q8⟩ := fin xs _ I kI hJ (by rw [hrc]; simp)
        refine ⟨none, W3, by rw [q1, hrc], hdone _ OI' O' W3 q2 q3 q4 q5 q6 (Nat.le_refl _) q7 q8⟩
      · obtain ⟨W3, O', q1, q2, q3, q4, q5, q6, q7, q8⟩ := fin pre _ Ix kX hJ (by rw [hrc]; simp)
        refine ⟨some .ret, W3, by rw [q1, hrc], hstop _ pre OI' O' W3 q2 q3 q4 q5 q6 (Nat.le_refl _) q7 q8⟩
end Go.Proofs.YtljcljipppjnoabGreatDoor
