import Derived.Test.YtljcljipppjnoaaGreatDoorDevTel
import Derived.Test.YtljcljipppjnoaaGreatDoorDevWithin
namespace Go.Proofs.YtljcljipppjnoaaGreatDoor
open Go.RowKit

set_option maxRecDepth 100000 in
set_option maxHeartbeats 2000000 in
/-- Something with its beginning and end is told; M: what may stand within. -/
theorem twithin_gen (q : Tel) (hq : q.Ok) (x : Option Nat) (acc : List Stp) (M : List Stp → Prop) (L : Nat) (hM : ∀ mid, M mid → mid.length ≤ L) (ev : Ev) (k : Nat) (capt : Array Value) (W : World) (R : World → Prop)
    (ek : ∀ args w, (callFunc k args).run Tryz.prog w = .ok (.enter k args) w)
    (hT : q.Told acc W) (hlen : acc.length + 1 + L ≤ 1099511627776) (Bk : Nat) (hBk : Bk ≤ W.heap.size)
    (hin : ∀ W', q.Told (acc ++ [.ev ev]) W' → Kt q none W.heap.size W W' → W'.heap[W.heap.size]? = some (.cells #[.int .i64 ev.kind, .bool ev.fin, .int .i64 ev.level, .string ⟨ev.text.toArray⟩] 92 (0, 0)) → ¬ q.Own W' W.heap.size → Calls Tryz.prog k capt W' fun e w' => e = .returned (.tuple #[]) ∧ ∃ mid, M mid ∧ q.Told (acc ++ [.ev ev] ++ mid) w' ∧ Kt q x Bk W' w' ∧ w'.heap[W.heap.size]? = W'.heap[W.heap.size]? ∧ R w')
    (hR : ∀ W1 w2, R W1 → Kt q none W.heap.size W1 w2 → R w2) :
    Calls Tryz.prog 152 #[.agg #[.int .i64 ev.kind, .bool ev.fin, .int .i64 ev.level, .string ⟨ev.text.toArray⟩], .func (.func q.kd) #[] #[.pointer (some ⟨q.bd, 0, none⟩)], .func (.func k) #[] capt] W fun e w' => e = .returned (.tuple #[]) ∧ ∃ mid, M mid ∧ q.Told (acc ++ ([.ev ev] ++ mid ++ [.ev (evEnd ev)])) w' ∧ Kt q x Bk W w' ∧ R w' := by
  have hmf : ∀ (fn : Fn) (first cap : Array Value) (w : World), (Instr.makeFunc fn first cap).run Tryz.prog w = .ok (.func fn first cap) w := fun _ _ _ _ => rfl
  have ekd := hq.ed
  obtain ⟨W1, hW1⟩ : ∃ W1, W.alloc (.cells #[.int .i64 ev.kind, .bool ev.fin, .int .i64 ev.level, .string ⟨ev.text.toArray⟩] 92) = W1 := ⟨_, rfl⟩
  have hB1 : Below W.heap.size W W1 := by rw [← hW1]; exact (Below.refl _ W).alloc (Nat.le_refl _) _
  have hT1 : q.Told acc W1 := hq.below hT hB1
  have z1 : W1.heap.size = W.heap.size + 1 := by rw [← hW1]; simp
  have hE1 : W1.heap[W.heap.size]? = some (.cells #[.int .i64 ev.kind, .bool ev.fin, .int .i64 ev.level, .string ⟨ev.text.toArray⟩] 92 (0, 0)) := by
    rw [← hW1]
    exact heap_alloc_new W _
  have hK1 : Kt q none W.heap.size W W1 := hq.kt hT hB1
  have hO1 : ¬ q.Own W1 W.heap.size := hq.new hT hB1 (Nat.le_refl _)
  have hdo1 := hq.doc acc ev W1 hT1 (by omega)
  unfold evV at hdo1
  have hdo2 : Calls Tryz.prog q.kd #[.agg #[.int .i64 ev.kind, .bool ev.fin, .int .i64 ev.level, .string ⟨ev.text.toArray⟩], .pointer (some ⟨q.bd, 0, none⟩)] (W.alloc (.cells #[.int .i64 ev.kind, .bool ev.fin, .int .i64 ev.level, .string ⟨ev.text.toArray⟩] 92)) fun e w' => e = .returned (.tuple #[]) ∧ q.Told (acc ++ [.ev ev]) w' ∧ Kt q none W1.heap.size W1 w' := by
    rw [hW1]
    exact hdo1
  have hdo3 : ∀ w2 mid, M mid → q.Told (acc ++ [.ev ev] ++ mid) w2 → Calls Tryz.prog q.kd #[.agg #[.int .i64 ev.kind, .bool true, .int .i64 ev.level, .string ⟨#[]⟩], .pointer (some ⟨q.bd, 0, none⟩)] w2 fun e w' => e = .returned (.tuple #[]) ∧ q.Told (acc ++ [.ev ev] ++ mid ++ [.ev (evEnd ev)]) w' ∧ Kt q none w2.heap.size w2 w' := by
    intro w2 mid hmid hT2
    exact hq.doc (acc ++ [.ev ev] ++ mid) (evEnd ev) _ hT2 (by have := hM mid hmid; simp only [List.length_append, List.length_singleton]; omega)
  have hE2 : ∀ w1, Kt q none W1.heap.size W1 w1 → w1.heap[W.heap.size]? = some (.cells #[.int .i64 ev.kind, .bool ev.fin, .int .i64 ev.level, .string ⟨ev.text.toArray⟩] 92 (0, 0)) ∧ ¬ q.Own w1 W.heap.size :=
    fun w1 k1 => ⟨(k1.block W.heap.size (by omega) (by simp) hO1).trans hE1, k1.off (by omega) hO1⟩
  have HE : Hid _ := hE2
  have HD : Hid _ := hdo3
  have HK : Hid (Kt q none W.heap.size W W1) := hK1
  have Hin : Hid _ := hin
  have HR : Hid _ := hR
  have HQ : Hid q.Ok := hq
  clear hE2 hdo3 hdo1 hin hR hE1 hO1 hT1 hK1 hT hW1 hB1 hq hM
  go_enter Tryz.func152, Tryz.ntmps152
  go_wp2_with (first
    | (go_at_fn q.kd; refine (HD.out w2 mid hmid T2).mono ?_; rintro e w3 ⟨rfl, T3, K3⟩)
    | (go_at_fn q.kd; refine hdo2.mono ?_; rintro e w1 ⟨rfl, T1, K1⟩)
    | (go_at_fn k; refine (Hin.out w1 T1 (HK.out.trans (K1.mono (by omega))) (HE.out w1 K1).1 (HE.out w1 K1).2).mono ?_; rintro e w2 ⟨rfl, mid, hmid, T2, K2, e2, r2⟩; have hB2 := e2.trans (HE.out w1 K1).1; clear e2; have c0 := cell_of_row w2 W.heap.size 0 _ _ _ hB2; have c1 := cell_of_row w2 W.heap.size 1 _ _ _ hB2; have c2 := cell_of_row w2 W.heap.size 2 _ _ _ hB2; have c3 := cell_of_row w2 W.heap.size 3 _ _ _ hB2; simp at c0 c1 c2 c3))
  go_end0
  have s1 := K1.size
  have s2 := K2.size
  have k3 : Kt q none W.heap.size w2 w3 := K3.mono (by omega)
  exact ⟨rfl, mid, hmid, by simpa using T3, (((HK.out.mono hBk).weak.trans (K1.mono (by omega)).weak).trans K2).trans (k3.mono hBk).weak, HR.out w2 w3 r2 k3⟩

/-- The like, where what stands within leaves all that was there. -/
theorem twithin_any (q : Tel) (hq : q.Ok) (x : Option Nat) (acc : List Stp) (M : List Stp → Prop) (L : Nat) (hM : ∀ mid, M mid → mid.length ≤ L) (ev : Ev) (k : Nat) (capt : Array Value) (W : World) (R : World → Prop)
    (ek : ∀ args w, (callFunc k args).run Tryz.prog w = .ok (.enter k args) w)
    (hT : q.Told acc W) (hlen : acc.length + 1 + L ≤ 1099511627776) (hx : ∀ g, x = some g → g < W.heap.size)
    (hin : ∀ W', q.Told (acc ++ [.ev ev]) W' → Kt q none W.heap.size W W' → Calls Tryz.prog k capt W' fun e w' => e = .returned (.tuple #[]) ∧ ∃ mid, M mid ∧ q.Told (acc ++ [.ev ev] ++ mid) w' ∧ Kt q x W'.heap.size W' w' ∧ R w')
    (hR : ∀ W1 w2, R W1 → Kt q none W.heap.size W1 w2 → R w2) :
    Calls Tryz.prog 152 #[.agg #[.int .i64 ev.kind, .bool ev.fin, .int .i64 ev.level, .string ⟨ev.text.toArray⟩], .func (.func q.kd) #[] #[.pointer (some ⟨q.bd, 0, none⟩)], .func (.func k) #[] capt] W fun e w' => e = .returned (.tuple #[]) ∧ ∃ mid, M mid ∧ q.Told (acc ++ ([.ev ev] ++ mid ++ [.ev (evEnd ev)])) w' ∧ Kt q x W.heap.size W w' ∧ R w' :=
  twithin_gen q hq x acc M L hM ev k capt W R ek hT hlen W.heap.size (Nat.le_refl _) (fun W' hT' hK' he ho => (hin W' hT' hK').mono fun e w' h => by
    obtain ⟨h1, mid, h2, h3, h4, h5⟩ := h
    exact ⟨h1, mid, h2, h3, h4.mono hK'.size, h4.block _ (Array.getElem?_eq_some_iff.1 he).1 (fun h => by have := hx _ h.symm; omega) ho, h5⟩) hR

set_option maxRecDepth 100000 in
set_option maxHeartbeats 2000000 in
/-- A text is told, if it is not empty. -/
theorem ttext_any (q : Tel) (hq : q.Ok) (acc : List Stp) (t : List UInt8) (W : World) (hT : q.Told acc W) (hlen : acc.length ≤ 1099511627776) :
    Calls Tryz.prog 62 #[.string ⟨t.toArray⟩, .func (.func q.kd) #[] #[.pointer (some ⟨q.bd, 0, none⟩)]] W fun e w' => e = .returned (.tuple #[]) ∧ q.Told (acc ++ (if t = [] then [] else [.ev ⟨8, false, 0, t⟩])) w' ∧ Kt q none W.heap.size W w' := by
  have hl : (⟨t.toArray⟩ : ByteArray).toList = t := by rw [list_of]
  by_cases h : t = []
  · subst h
    rw [if_pos rfl, List.append_nil]
    clear hq
    go_enter Tryz.func62, Tryz.ntmps62
    go_wp2
    go_end0
    exact ⟨rfl, hT, Kt.refl _ _ _ _⟩
  · rw [if_neg h]
    have hc := hq.doc acc ⟨8, false, 0, t⟩ W hT hlen
    have ek := hq.ed
    unfold evV at hc
    have hne : (!t.isEmpty) = true := by
      cases t with
      | nil => exact absurd rfl h
      | cons a b => rfl
    clear hT hl hq
    go_enter Tryz.func62, Tryz.ntmps62
    go_wp2_with (go_at_fn q.kd; refine hc.mono ?_; rintro e w1 ⟨rfl, T1, K1⟩)
    go_end0
    exact ⟨rfl, T1, K1⟩

theorem Strs.kept {q : Tel} {g o cap B : Nat} {x : Option Nat} {ls : List (List UInt8)} {W w' : World} (h : Strs g o cap ls W) (hk : Kt q x B W w') (hg : g < B) (hx : some g ≠ x) (ho : ¬ q.Own W g) : Strs g o cap ls w' :=
  ⟨h.fits, h.max, by have := hk.size; have := h.lt; omega, fun j l hj => (World.cell?_of_block (w := W) (hk.block g hg hx ho) : w'.cell? ⟨g, o + j, Option.none⟩ = W.cell? ⟨g, o + j, Option.none⟩).trans (h.cell j l hj)⟩

end Go.Proofs.YtljcljipppjnoaaGreatDoor
