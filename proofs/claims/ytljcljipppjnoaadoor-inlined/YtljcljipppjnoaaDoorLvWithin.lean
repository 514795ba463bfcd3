import Derived.Test.YtljcljipppjnoaaDoorLvTell
import Derived.Test.YtljcljipppjnoaaDoorLvLink
namespace Go.Proofs.YtljcljipppjnoaaDoor
open Go.RowKit Go.Shelf

theorem ba_eta (s : ByteArray) : (⟨s.data.toList.toArray⟩ : ByteArray) = s := by
  apply ByteArray.ext
  simp

set_option maxRecDepth 100000 in
set_option maxHeartbeats 2000000 in
theorem ltext_any (q : Tl) (A : List Ev) (s : ByteArray) (W : World) (hT : Tell q A W) (h1 : 1 ≤ s.size) (hl : s.size ≤ 1099511627776) (hx : ∀ e ∈ A, e.text.length ≤ 1099511627776) :
    Calls Tryd.prog 56 #[.string s, .func (.func 58) #[] #[.pointer (some ⟨q.bT, 0, none⟩), .pointer (some ⟨q.bE, 0, none⟩), .pointer (some ⟨q.bD, 0, none⟩)]] W fun e w' => e = .returned (.tuple #[]) ∧ Tell q (addS A s.data.toList) w' ∧ Kl q W w' := by
  have hz := ba_len s
  have hne : s.data.toList ≠ [] := fun h => by rw [h] at hz; simp at hz; omega
  have hc := tell_text q A s.data.toList W hT hne (by omega) hx
  rw [ba_eta] at hc
  have hne2 : s.toList.isEmpty = false := by
    rw [Lib.toList_data]
    cases h : s.data.toList with
    | nil => exact absurd h hne
    | cons a b => rfl
  generalize addS A s.data.toList = A2 at hc ⊢
  clear hT hx hne
  go_enter Tryd.func56, Tryd.ntmps56
  go_wp2_with (go_at_call 58; refine hc.mono ?_; rintro e w1 ⟨rfl, T1, K1⟩)
  go_end0
  exact ⟨rfl, T1, K1⟩

set_option maxRecDepth 100000 in
set_option maxHeartbeats 2000000 in
theorem lwithin_any (q : Tl) (A mid : List Ev) (ev : Ev) (hk : ev.kind ≠ 8) (k : Nat) (capt : Array Value) (W : World)
    (ek : ∀ args w, (callFunc k args).run Tryd.prog w = .ok (.enter k args) w)
    (hT : Tell q A W) (hlen : A.length + 1 + mid.length ≤ 1099511627776)
    (hin : ∀ W', Tell q (A ++ [ev]) W' → Kl q W W' → Calls Tryd.prog k capt W' fun e w' => e = .returned (.tuple #[]) ∧ Tell q (A ++ [ev] ++ mid) w' ∧ Kl q W' w') :
    Calls Tryd.prog 73 #[.agg #[.int .i64 ev.kind, .bool ev.fin, .int .i64 ev.level, .string ⟨ev.text.toArray⟩], .func (.func 58) #[] #[.pointer (some ⟨q.bT, 0, none⟩), .pointer (some ⟨q.bE, 0, none⟩), .pointer (some ⟨q.bD, 0, none⟩)], .func (.func k) #[] capt] W fun e w' => e = .returned (.tuple #[]) ∧ Tell q (A ++ [ev] ++ mid ++ [evEnd ev]) w' ∧ Kl q W w' := by
  have hb0 := hT.b0lt
  obtain ⟨W1, hW1⟩ : ∃ W1, W.alloc (.cells #[.int .i64 ev.kind, .bool ev.fin, .int .i64 ev.level, .string ⟨ev.text.toArray⟩] 76) = W1 := ⟨_, rfl⟩
  have hb1 : Below W.heap.size W W1 := by rw [← hW1]; exact (Below.refl _ W).alloc (Nat.le_refl _) _
  have hT1 := hT.below hb1
  have hE1 : W1.heap[W.heap.size]? = some (.cells #[.int .i64 ev.kind, .bool ev.fin, .int .i64 ev.level, .string ⟨ev.text.toArray⟩] 76 (0, 0)) := by
    rw [← hW1]
    exact heap_alloc_new W _
  have hK1 : Kl q W W1 := Kl.below hb1 hb0
  have hO1 : ¬ Own q.b0 W1 W.heap.size := hT.new hb1 (Nat.le_refl _)
  have hlt1 := (Array.getElem?_eq_some_iff.1 hE1).1
  have hdo1 := tell_else q A ev W1 hT1 hk (by omega)
  rw [← hW1] at hdo1
  have HD : Hid (∀ w2, Tell q (A ++ [ev] ++ mid) w2 → Calls Tryd.prog 58 #[.agg #[.int .i64 ev.kind, .bool true, .int .i64 ev.level, .string ⟨#[]⟩], .pointer (some ⟨q.bT, 0, none⟩), .pointer (some ⟨q.bE, 0, none⟩), .pointer (some ⟨q.bD, 0, none⟩)] w2 fun e w' => e = .returned (.tuple #[]) ∧ Tell q (A ++ [ev] ++ mid ++ [evEnd ev]) w' ∧ Kl q w2 w') :=
    fun w2 hT2 => tell_else q (A ++ [ev] ++ mid) (evEnd ev) w2 hT2 hk (by simp only [List.length_append, List.length_singleton]; omega)
  have HE : Hid (∀ w1 w2, Tell q (A ++ [ev]) w1 → Kl q W1 w1 → Kl q w1 w2 → w2.heap[W.heap.size]? = some (.cells #[.int .i64 ev.kind, .bool ev.fin, .int .i64 ev.level, .string ⟨ev.text.toArray⟩] 76 (0, 0))) := by
    intro w1 w2 t1 k1 k2
    have e1 := hT1.kept k1 hE1 (by decide) (by decide) hO1
    exact t1.kept k2 e1 (by decide) (by decide) (fun h => hO1 (k1.own _ hlt1 h))
  have HK : Hid (Kl q W W1) := hK1
  have Hin : Hid _ := hin
  rw [← hW1] at HE HK
  clear hin hT hT1 hE1 hK1 hO1 hb1 hW1 hlt1
  go_enter Tryd.func73, Tryd.ntmps73
  go_wp2_with (first
    | (go_at_call 58; refine (HD.out w2 T2).mono ?_; rintro e w3 ⟨rfl, T3, K3⟩)
    | (go_at_call 58; refine hdo1.mono ?_; rintro e w1 ⟨rfl, T1, K1⟩)
    | (go_at_fn k; refine (Hin.out w1 T1 (HK.out.trans K1)).mono ?_; rintro e w2 ⟨rfl, T2, K2⟩; have hB2 := HE.out w1 w2 T1 K1 K2; have c0 := cell_of_row w2 W.heap.size 0 _ _ _ hB2; have c1 := cell_of_row w2 W.heap.size 1 _ _ _ hB2; have c2 := cell_of_row w2 W.heap.size 2 _ _ _ hB2; have c3 := cell_of_row w2 W.heap.size 3 _ _ _ hB2; simp at c0 c1 c2 c3))
  go_end0
  exact ⟨rfl, T3, ((HK.out.trans K1).trans K2).trans K3⟩

/-- A variable of the shelf. -/
def ML (q : Tl) (m : Int) (W : World) : Prop := 5 < q.b0 ∧ W.cell? ⟨5, 0, none⟩ = some (.int .i64 m)
theorem ML.keep {q : Tl} {m : Int} {A : List Ev} {W w' : World} (h : ML q m W) (hT : Tell q A W) (hK : Kl q W w') : ML q m w' := by
  refine ⟨h.1, ?_⟩
  have hb0 := hT.b0lt
  have h0 := hT.lt
  have hlt := h.1
  have hno : ¬ Own q.b0 W 5 := by
    intro ho
    obtain ⟨p, o, _, _, hTo, _⟩ := hT.st
    obtain ⟨v, hv, ho2⟩ := hTo
    rcases ho with ho | ⟨u, hu, hub⟩
    · omega
    · rw [hv] at hu
      rw [← one_inj hu] at hub
      have := (ho2.lt _ hub).1
      omega
  have := hK.block 5 (by omega) (Or.inl (by omega)) hno
  simp only [World.cell?, this]
  exact h.2
theorem ML.below {q : Tl} {m : Int} {A : List Ev} {W w' : World} (h : ML q m W) (hT : Tell q A W) (hb : Below W.heap.size W w') : ML q m w' := h.keep hT (Kl.below hb hT.b0lt)

theorem lv_replace (s : ByteArray) (m : Int) (w : World) (hs : s.size ≤ 1073741824) (hm : w.cell? ⟨5, 0, none⟩ = some (.int .i64 m)) :
    Calls Tryd.prog 71 #[.string s, .string ⟨#[10]⟩, .string ⟨#[32]⟩] w fun e w' => e = .returned (.string ⟨(spacedL s.data.toList).toArray⟩) ∧ Below w.heap.size w w' := by
  have h := Any.strings_ReplaceAll Tryd.lays155 Tryd.Builder_Extra_155 s ⟨#[10]⟩ ⟨#[32]⟩ m w (by omega) hm (by decide) ?_
  · rw [show (⟨#[10]⟩ : ByteArray).data.toList = [10] from rfl, show (⟨#[32]⟩ : ByteArray).data.toList = [32] from rfl, replace_spaced] at h
    exact h
  · have h1 := Lib.count_le s.data.toList [10]
    rw [ba_len] at h1
    have h2 : Lib.countB s ⟨#[10]⟩ = Lib.count s.data.toList [10] := rfl
    have h3 : (⟨#[32]⟩ : ByteArray).size = 1 := rfl
    rw [h2, h3]
    omega

end Go.Proofs.YtljcljipppjnoaaDoor
