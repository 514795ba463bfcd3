import Derived.Test.YtljcljipppjnoaaGreatDoorDevWithin
import Derived.Test.YtljcljipppjnoaaGreatDoorTextWalk
namespace Go.Proofs.YtljcljipppjnoaaGreatDoor
open Go.RowKit Go.Shelf

theorem reg_len (s : ByteArray) : (reg s).length ≤ 4 * s.size := by
  have h : ∀ f p, (regFrom s f p).length ≤ 4 * f := by
    intro f
    induction f with
    | zero => intro p; simp [regFrom]
    | succ f ih =>
      intro p
      rw [regFrom]
      split
      · have h1 := regAt_len s p
        have h2 := ih (p + (Utf8.decode s p).2)
        rw [List.length_append]
        omega
      · simp
  exact h s.size 0

/-- What a way through a text tells, as a list: the events X of the regular text. -/
def ListsC (k : Nat) (X : List UInt8 → List Ev) (g : Nat) (m : Int) : Prop :=
  ∀ (b0 : Nat) (t : List UInt8) (W : World), Told b0 [] W → t.length ≤ 16777216 → g < b0 → W.cell? ⟨g, 0, none⟩ = some (.int .i64 m) →
    Calls Tryz.prog k #[.string ⟨t.toArray⟩, .func (.func 82) #[] #[.pointer (some ⟨b0, 0, none⟩)]] W fun e w' => e = .returned (.tuple #[]) ∧ Told b0 (X t) w' ∧ Kp b0 none W.heap.size W w'

set_option maxRecDepth 100000 in
set_option maxHeartbeats 1000000 in
theorem listed_any (k : Nat) (ek : ∀ args w, (callFunc k args).run Tryz.prog w = .ok (.enter k args) w) (X : List UInt8 → List Ev) (g : Nat) (m : Int) (hC : ListsC k X g m) (s : ByteArray) (W : World) (hs : s.size ≤ 1048576) (hm : W.cell? ⟨g, 0, none⟩ = some (.int .i64 m)) :
    Calls Tryz.prog 58 #[.string s, .func (.func k) #[] #[]] W fun e w' => ∃ v, e = .returned v ∧ w'.ownsRow W.heap.size 92 4 v (X (reg s)).length (evCs (X (reg s))) ∧ Below W.heap.size W w' := by
  have hmf : ∀ (fn : Fn) (first cap : Array Value) (w : World), (Instr.makeFunc fn first cap).run Tryz.prog w = .ok (.func fn first cap) w := fun _ _ _ _ => rfl
  have hml : g < W.heap.size := by
    rcases Nat.lt_or_ge g W.heap.size with h | h
    · exact h
    · simp [World.cell?, Array.getElem?_eq_none h] at hm
  obtain ⟨W1, hW1⟩ : ∃ W1, W.alloc (.cells #[.slice none 0 0] 75) = W1 := ⟨_, rfl⟩
  have hx1 : W1.heap[W.heap.size]? = some (.cells #[.slice none 0 0] 75 (0, 0)) := by rw [← hW1]; exact heap_alloc_new W _
  have hT1 : Told W.heap.size [] W1 := ⟨_, hx1, by simpa [evCs] using World.ownsRow_nil W1 (W.heap.size + 1) 92 4⟩
  have hb1 : Below W.heap.size W W1 := by rw [← hW1]; exact (Below.refl _ W).alloc (Nat.le_refl _) _
  have hz1 : W1.heap.size = W.heap.size + 1 := by rw [← hW1]; simp
  have ct := text_any s (W.alloc (.cells #[.slice none 0 0] 75)) (by omega)
  have hrl := reg_len s
  have hc : ∀ w2, Below (W.alloc (.cells #[.slice none 0 0] 75)).heap.size (W.alloc (.cells #[.slice none 0 0] 75)) w2 → Calls Tryz.prog k #[.string ⟨(reg s).toArray⟩, .func (.func 82) #[] #[.pointer (some ⟨W.heap.size, 0, none⟩)]] w2 fun e w' => e = .returned (.tuple #[]) ∧ ∃ v, w'.heap[W.heap.size]? = some (.cells #[v] 75 (0, 0)) ∧ w'.ownsRow W.heap.size 92 4 v (X (reg s)).length (evCs (X (reg s))) ∧ Below W.heap.size W w' := by
    intro w2 hb2
    rw [hW1] at hb2
    have hT2 := hT1.below hb2
    refine (hC W.heap.size (reg s) w2 hT2 (by omega) hml (((hb2.mono (by omega)).cell (p := ⟨g, 0, none⟩) hml).trans ((hb1.cell (p := ⟨g, 0, none⟩) hml).trans hm))).mono ?_
    rintro e w' ⟨rfl, ⟨v, hv, hown⟩, K⟩
    have s2 := hb2.size
    refine ⟨rfl, v, hv, Joins.ownsRow_le hown (by omega), ?_⟩
    have hbW : Below W.heap.size W w2 := hb1.trans (hb2.mono (by omega))
    have hno : ∀ b, b < W.heap.size → ¬ Own W.heap.size w2 b := by
      intro b hb ho
      rcases ho with h | ⟨u, hu, hub⟩
      · omega
      · rw [hb2.block W.heap.size (by omega), hx1] at hu
        rw [← one_inj hu] at hub
        cases hub
    exact ⟨K.os.trans hbW.os, K.tape.trans hbW.tape, K.output.trans hbW.output, Nat.le_trans hbW.size K.size, fun b hb => (K.block b (by have := hbW.size; omega) (by simp) (hno b hb)).trans (hbW.block b hb)⟩
  generalize X (reg s) = bs at hc ⊢
  generalize (reg s).toArray = rg at ct hc
  clear hT1 hx1 hb1 hz1 hW1 hrl hC
  go_enter Tryz.func58, Tryz.ntmps58
  go_wp2_with (first | (go_at_call 81; refine ct.mono ?_; rintro e w2 ⟨rfl, b2⟩) | (go_at_fn k; refine (hc w2 b2).mono ?_; rintro e w3 ⟨rfl, v, hv, hown, hb⟩; have c3 := cell_of_one hv))
  go_ret
  exact ⟨v, rfl, hown, hb⟩

end Go.Proofs.YtljcljipppjnoaaGreatDoor
