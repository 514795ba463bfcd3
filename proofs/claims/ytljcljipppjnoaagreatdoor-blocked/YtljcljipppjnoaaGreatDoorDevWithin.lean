import Derived.Test.YtljcljipppjnoaaGreatDoorDevFrame
namespace Go.Proofs.YtljcljipppjnoaaGreatDoor
open Go.RowKit

/-- What is to be done with each event. -/
def doV (kd b0 : Nat) : Value := .func (.func kd) #[] #[.pointer (some ⟨b0, 0, none⟩)]
def evEnd (e : Ev) : Ev := ⟨e.kind, true, e.level, []⟩

set_option maxRecDepth 100000 in
set_option maxHeartbeats 2000000 in
/-- What is told of a text, if it is not empty. -/
theorem etext_any (kd : Nat) (hD : DoC kd) (b0 : Nat) (acc : List Ev) (t : List UInt8) (W : World) (hT : Told b0 acc W) (hlen : acc.length ≤ 1099511627776) :
    Calls Tryz.prog 62 #[.string ⟨t.toArray⟩, .func (.func kd) #[] #[.pointer (some ⟨b0, 0, none⟩)]] W fun e w' => e = .returned (.tuple #[]) ∧ Told b0 (acc ++ (if t = [] then [] else [⟨8, false, 0, t⟩])) w' ∧ Kp b0 none W.heap.size W w' := by
  have hl : (⟨t.toArray⟩ : ByteArray).toList = t := by rw [list_of]
  by_cases h : t = []
  · subst h
    rw [if_pos rfl, List.append_nil]
    go_enter Tryz.func62, Tryz.ntmps62
    go_wp2
    go_end0
    exact ⟨rfl, hT, Kp.refl _ _ _ _⟩
  · rw [if_neg h]
    have hc := hD.2 b0 acc ⟨8, false, 0, t⟩ W hT hlen
    have ek := hD.1
    unfold evV at hc
    have hne : (!t.isEmpty) = true := by
      cases t with
      | nil => exact absurd rfl h
      | cons a b => rfl
    clear hT hl hD
    go_enter Tryz.func62, Tryz.ntmps62
    go_wp2_with (go_at_fn kd; refine hc.mono ?_; rintro e w1 ⟨rfl, T1, K1⟩)
    go_end0
    exact ⟨rfl, T1, K1⟩

theorem own_new {b0 : Nat} {acc : List Ev} {W w' : World} (h : Told b0 acc W) (hw : w'.heap[b0]? = W.heap[b0]?) {b : Nat} (hb : W.heap.size ≤ b) : ¬ Own b0 w' b := fun ho => by
  have := h.own_lt ((Own.same hw b).1 ho)
  omega
theorem heap_al (W : World) (o : Obj) {k : Nat} {q : Option Obj} (hk : k < W.heap.size) (h : W.heap[k]? = q) : (W.alloc o).heap[k]? = q := by
  rw [Below.heap_alloc W o k hk]
  exact h


end Go.Proofs.YtljcljipppjnoaaGreatDoor
