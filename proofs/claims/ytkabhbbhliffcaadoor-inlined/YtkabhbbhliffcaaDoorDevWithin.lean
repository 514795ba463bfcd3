import Derived.Test.YtkabhbbhliffcaaDoorDevFrame
namespace Go.Proofs.YtkabhbbhliffcaaDoor
open Go.RowKit

/-- What is to be done with each event. -/
def doV (b0 : Nat) : Value := .func (.func 47) #[] #[.pointer (some ⟨b0, 0, none⟩)]
def evEnd (e : Ev) : Ev := ⟨e.kind, true, e.level, []⟩

set_option maxRecDepth 100000 in
set_option maxHeartbeats 2000000 in
theorem within_any (b0 : Nat) (x : Option Nat) (acc mid : List Ev) (ev : Ev) (k : Nat) (capt : Array Value) (W : World) (R : World → Prop)
    (ek : ∀ args w, (callFunc k args).run Tryd.prog w = .ok (.enter k args) w)
    (hT : Told b0 acc W) (hlen : acc.length + 1 + mid.length ≤ 1099511627776) (hx : ∀ g, x = some g → g < W.heap.size)
    (hin : ∀ W', Told b0 (acc ++ [ev]) W' → Kp b0 none W.heap.size W W' → Calls Tryd.prog k capt W' fun e w' => e = .returned (.tuple #[]) ∧ Told b0 (acc ++ [ev] ++ mid) w' ∧ Kp b0 x W'.heap.size W' w' ∧ R w')
    (hR : ∀ W1 w2, R W1 → Kp b0 none W.heap.size W1 w2 → R w2) :
    Calls Tryd.prog 73 #[evV ev, doV b0, .func (.func k) #[] capt] W fun e w' => e = .returned (.tuple #[]) ∧ Told b0 (acc ++ [ev] ++ mid ++ [evEnd ev]) w' ∧ Kp b0 x W.heap.size W w' ∧ R w' := by
  have hmf : ∀ (fn : Fn) (first cap : Array Value) (w : World), (Instr.makeFunc fn first cap).run Tryd.prog w = .ok (.func fn first cap) w := fun _ _ _ _ => rfl
  have hb0 := hT.lt
  obtain ⟨W1, hW1⟩ : ∃ W1, W.alloc (.cells #[.int .i64 ev.kind, .bool ev.fin, .int .i64 ev.level, .string ⟨ev.text.toArray⟩] 76) = W1 := ⟨_, rfl⟩
  have hT1 : Told b0 acc W1 := by rw [← hW1]; exact hT.alloc _
  have z1 : W1.heap.size = W.heap.size + 1 := by rw [← hW1]; simp
  have hE1 : W1.heap[W.heap.size]? = some (.cells #[.int .i64 ev.kind, .bool ev.fin, .int .i64 ev.level, .string ⟨ev.text.toArray⟩] 76 (0, 0)) := by
    rw [← hW1]
    exact heap_alloc_new W _
  have hK1 : Kp b0 none W.heap.size W W1 := by rw [← hW1]; exact Kp.below ((Below.refl _ W).alloc (Nat.le_refl _) _) hb0
  have hO1 : ¬ Own b0 W1 W.heap.size := by
    intro h
    rw [← hW1] at h
    have := hT.own_lt ((Own.same (Below.heap_alloc W _ b0 hb0) _).1 h)
    omega
  have hdo1 := do_any b0 acc ev W1 hT1 (by omega)
  unfold evV at hdo1
  have hdo2 : Calls Tryd.prog 47 #[.agg #[.int .i64 ev.kind, .bool ev.fin, .int .i64 ev.level, .string ⟨ev.text.toArray⟩], .pointer (some ⟨b0, 0, none⟩)] (W.alloc (.cells #[.int .i64 ev.kind, .bool ev.fin, .int .i64 ev.level, .string ⟨ev.text.toArray⟩] 76)) fun e w' => e = .returned (.tuple #[]) ∧ Told b0 (acc ++ [ev]) w' ∧ Kp b0 none W1.heap.size W1 w' := by
    rw [hW1]
    exact hdo1
  have hdo3 : ∀ w2, Told b0 (acc ++ [ev] ++ mid) w2 → Calls Tryd.prog 47 #[.agg #[.int .i64 ev.kind, .bool true, .int .i64 ev.level, .string ⟨#[]⟩], .pointer (some ⟨b0, 0, none⟩)] w2 fun e w' => e = .returned (.tuple #[]) ∧ Told b0 (acc ++ [ev] ++ mid ++ [evEnd ev]) w' ∧ Kp b0 none w2.heap.size w2 w' := by
    intro w2 hT2
    exact do_any b0 (acc ++ [ev] ++ mid) (evEnd ev) _ hT2 (by simp only [List.length_append, List.length_singleton]; omega)
  have hE2 : ∀ w1 w2, Kp b0 none W1.heap.size W1 w1 → Kp b0 x w1.heap.size w1 w2 → w2.heap[W.heap.size]? = some (.cells #[.int .i64 ev.kind, .bool ev.fin, .int .i64 ev.level, .string ⟨ev.text.toArray⟩] 76 (0, 0)) := by
    intro w1 w2 k1 k2
    have o1 := k1.off (by omega) hO1
    have := k1.size
    rw [k2.block W.heap.size (by omega) (fun h => by have := hx _ h.symm; omega) o1, k1.block W.heap.size (by omega) (by simp) hO1]
    exact hE1
  have HE : Hid _ := hE2
  have HD : Hid _ := hdo3
  have HK : Hid (Kp b0 none W.heap.size W W1) := hK1
  have Hin : Hid _ := hin
  have HR : Hid _ := hR
  clear hE2 hdo3 hdo1 hin hR hE1 hO1 hT1 hK1 hT hW1
  unfold doV evV
  go_enter Tryd.func73, Tryd.ntmps73
  go_wp2_with (first
    | (go_at_call 47; refine (HD.out w2 T2).mono ?_; rintro e w3 ⟨rfl, T3, K3⟩)
    | (go_at_call 47; refine hdo2.mono ?_; rintro e w1 ⟨rfl, T1, K1⟩)
    | (go_at_fn k; refine (Hin.out w1 T1 (HK.out.trans (K1.mono (by omega)))).mono ?_; rintro e w2 ⟨rfl, T2, K2, r2⟩; have hB2 := HE.out w1 w2 K1 K2; have c0 := cell_of_row w2 W.heap.size 0 _ _ _ hB2; have c1 := cell_of_row w2 W.heap.size 1 _ _ _ hB2; have c2 := cell_of_row w2 W.heap.size 2 _ _ _ hB2; have c3 := cell_of_row w2 W.heap.size 3 _ _ _ hB2; simp at c0 c1 c2 c3))
  go_end0
  have s1 := K1.size
  have s2 := K2.size
  have k3 : Kp b0 none W.heap.size w2 w3 := K3.mono (by omega)
  exact ⟨rfl, T3, ((HK.out.weak.trans (K1.mono (by omega)).weak).trans (K2.mono (by omega))).trans k3.weak, HR.out w2 w3 r2 k3⟩

set_option maxRecDepth 100000 in
set_option maxHeartbeats 2000000 in
/-- What is told of a text, if it is not empty. -/
theorem etext_any (b0 : Nat) (acc : List Ev) (t : List UInt8) (W : World) (hT : Told b0 acc W) (hlen : acc.length ≤ 1099511627776) :
    Calls Tryd.prog 56 #[.string ⟨t.toArray⟩, .func (.func 47) #[] #[.pointer (some ⟨b0, 0, none⟩)]] W fun e w' => e = .returned (.tuple #[]) ∧ Told b0 (acc ++ (if t = [] then [] else [⟨8, false, 0, t⟩])) w' ∧ Kp b0 none W.heap.size W w' := by
  have hl : (⟨t.toArray⟩ : ByteArray).toList = t := by rw [list_of]
  by_cases h : t = []
  · subst h
    rw [if_pos rfl, List.append_nil]
    go_enter Tryd.func56, Tryd.ntmps56
    go_wp2
    go_end0
    exact ⟨rfl, hT, Kp.refl _ _ _ _⟩
  · rw [if_neg h]
    have hc := do_any b0 acc ⟨8, false, 0, t⟩ W hT hlen
    unfold evV at hc
    have hne : (!t.isEmpty) = true := by
      cases t with
      | nil => exact absurd rfl h
      | cons a b => rfl
    clear hT hl
    go_enter Tryd.func56, Tryd.ntmps56
    go_wp2_with (go_at_call 47; refine hc.mono ?_; rintro e w1 ⟨rfl, T1, K1⟩)
    go_end0
    exact ⟨rfl, T1, K1⟩


theorem own_new {b0 : Nat} {acc : List Ev} {W w' : World} (h : Told b0 acc W) (hw : w'.heap[b0]? = W.heap[b0]?) {b : Nat} (hb : W.heap.size ≤ b) : ¬ Own b0 w' b := fun ho => by
  have := h.own_lt ((Own.same hw b).1 ho)
  omega
theorem heap_al (W : World) (o : Obj) {k : Nat} {q : Option Obj} (hk : k < W.heap.size) (h : W.heap[k]? = q) : (W.alloc o).heap[k]? = q := by
  rw [Below.heap_alloc W o k hk]
  exact h


end Go.Proofs.YtkabhbbhliffcaaDoor
