import Derived.Test.YtljcljipppjnoaaDoorLvFrame
import Derived.Deep.RegionWith
namespace Go.Proofs.YtljcljipppjnoaaDoor
open Go.RowKit Go.Shelf

set_option maxRecDepth 100000 in
set_option maxHeartbeats 2000000 in
/-- A builder is emptied. -/
theorem reset_any (B b : Nat) (p : List UInt8) (W : World) (h : HasL B b p W) :
    Calls Tryd.prog 57 #[.pointer (some ⟨b, 0, none⟩)] W fun e w' => e = .returned (.tuple #[]) ∧ HasL B b [] w' ∧ Below b W w' ∧ Lib.OthersKept 5 (some b) W w' := by
  obtain ⟨hB, x, v, hb, _⟩ := h.at
  clear h
  have c0 := cell_of_row W b 0 _ _ _ hb
  have c1 := cell_of_row W b 1 _ _ _ hb
  have f0 : W.frozen? ⟨b, 0, none⟩ = false := by simp [World.frozen?, hb]
  have hs1 : (W.setCell ⟨b, 0, none⟩ (.pointer none)).heap[b]? = some (.cells #[.pointer none, v] 87 (0, 0)) := set_row hb
  have f1 : (W.setCell ⟨b, 0, none⟩ (.pointer none)).frozen? ⟨b, 1, none⟩ = false := by simp [World.frozen?, hs1]
  have hs2 : ((W.setCell ⟨b, 0, none⟩ (.pointer none)).setCell ⟨b, 1, none⟩ (.slice none 0 0)).heap[b]? = some (.cells #[.pointer none, .slice none 0 0] 87 (0, 0)) := set_row hs1
  have HF : Hid (HasL B b [] ((W.setCell ⟨b, 0, none⟩ (.pointer none)).setCell ⟨b, 1, none⟩ (.slice none 0 0))) := Or.inl ⟨hB, _, hs2, ⟨rfl, Or.inl ⟨rfl, rfl⟩⟩, by intro h; cases h⟩
  simp at c0 c1
  clear hs1 hs2 hb
  go_enter Tryd.func57, Tryd.ntmps57
  go_wp2
  go_end0
  exact ⟨rfl, HF.out, ((Below.refl b W).setCell (p := ⟨b, 0, none⟩) (Nat.le_refl _) _).setCell (p := ⟨b, 1, none⟩) (Nat.le_refl _) _, ((Lib.OthersKept.refl _ _ W).setCell ⟨b, 0, none⟩ rfl _).setCell ⟨b, 1, none⟩ rfl _⟩

set_option maxRecDepth 100000 in
set_option maxHeartbeats 2000000 in
/-- What waits is told. -/
theorem end_any (q : Tl) (hD : DoC q.kd) (p : List UInt8) (o : List Ev) (W : World) (hT : Told q.b0 o W) (hH : HasL q.bT q.bT p W) (h0 : q.b0 < q.bT) (hd : W.heap[q.bD]? = some (.cells #[doV q.kd q.b0] 111 (0, 0))) (hlen : o.length ≤ 1099511627776) :
    Calls Tryd.prog 55 #[.pointer (some ⟨q.bT, 0, none⟩), .pointer (some ⟨q.bD, 0, none⟩)] W fun e w' => e = .returned (.tuple #[]) ∧ Told q.b0 (o ++ textS p) w' ∧ HasL q.bT q.bT [] w' ∧ Kl q W w' := by
  have hlT := hH.lt
  have c1 := hasL_get q.bT q.bT p W.drew hH (by show q.bT ≤ W.heap.size; omega)
  have c0 := cell_of_one hd
  have H2 : Hid (∀ w1, HasL q.bT q.bT p w1 → Below q.bT W.drew w1 → Lib.OthersKept 5 (some q.bT) W.drew w1 → w1.cell? ⟨q.bD, 0, none⟩ = some (doV q.kd q.b0) ∧ Calls Tryd.prog 56 #[.string ⟨p.toArray⟩, .func (.func q.kd) #[] #[.pointer (some ⟨q.b0, 0, none⟩)]] w1 fun e w' => e = .returned (.tuple #[]) ∧ Told q.b0 (o ++ textS p) w' ∧ HasL q.bT q.bT p w' ∧ Kl q W w') := by
    intro w1 h1 b1 o1
    have hT1 := hT.bld hH o1
    refine ⟨cell_of_one (oth_cell hH o1 hd (by decide) (by decide)), (etext_any q.kd hD q.b0 o p w1 hT1 hlen).mono ?_⟩
    rintro e w2 ⟨rfl, T2, K2⟩
    exact ⟨rfl, T2, h1.kp hT1 K2, (Kl.bld ((Below.refl _ W).drew.trans b1) ((Lib.OthersKept.refl _ _ W).drew.trans o1) h0).trans (Kl.of_kp K2)⟩
  have H3 : Hid (∀ w2, Told q.b0 (o ++ textS p) w2 → HasL q.bT q.bT p w2 → Kl q W w2 → Calls Tryd.prog 57 #[.pointer (some ⟨q.bT, 0, none⟩)] w2 fun e w' => e = .returned (.tuple #[]) ∧ Told q.b0 (o ++ textS p) w' ∧ HasL q.bT q.bT [] w' ∧ Kl q W w') := by
    intro w2 T2 h2 K2
    refine (reset_any q.bT q.bT p w2 h2).mono ?_
    rintro e w3 ⟨rfl, h3, b3, o3⟩
    exact ⟨rfl, T2.bld h2 o3, h3, K2.trans (Kl.bld b3 o3 h0)⟩
  generalize o ++ textS p = A at H2 H3 ⊢
  clear hT hH hd hD
  unfold doV at H2 c0
  go_enter Tryd.func55, Tryd.ntmps55
  go_wp2_with fail
  go_region_with (first
    | (go_at_call 37; refine c1.mono ?_; rintro e w1 ⟨rfl, h1, b1, o1⟩; obtain ⟨cd, c2⟩ := H2.out w1 h1 b1 o1)
    | (go_at_call 56; refine c2.mono ?_; rintro e w2 ⟨rfl, T2, h2, K2⟩))
  all_goals
    go_wp2_with (go_at_call 57; refine (H3.out w2 T2 h2 K2).mono ?_; rintro e w3 ⟨rfl, T3, h3, K3⟩)
    go_end0
    exact ⟨rfl, T3, h3, K3⟩

/-- What is to be done with each event, texts joined. -/
def tellV (q : Tl) : Value := .func (.func 58) #[] #[.pointer (some ⟨q.bT, 0, none⟩), .pointer (some ⟨q.bE, 0, none⟩), .pointer (some ⟨q.bD, 0, none⟩)]

set_option maxRecDepth 100000 in
set_option maxHeartbeats 2000000 in
/-- A text is told. -/
theorem tell_text (q : Tl) (acc : List Ev) (t : List UInt8) (W : World) (hT : Tell q acc W) (ht : t ≠ []) (hl : t.length ≤ 1099511627776) (hx : ∀ e ∈ acc, e.text.length ≤ 1099511627776) :
    Calls Tryd.prog 58 #[.agg #[.int .i64 8, .bool false, .int .i64 0, .string ⟨t.toArray⟩], .pointer (some ⟨q.bT, 0, none⟩), .pointer (some ⟨q.bE, 0, none⟩), .pointer (some ⟨q.bD, 0, none⟩)] W fun e w' => e = .returned (.tuple #[]) ∧ Tell q (addS acc t) w' ∧ Kl q W w' := by
  have hb0 := hT.b0lt
  obtain ⟨p, o, rfl, hlo, hTo, hH⟩ := hT.st
  have h0 := hT.lt
  have hp : p.length ≤ 1099511627776 := by
    by_cases h : p = []
    · subst h; simp
    · exact hx ⟨8, false, 0, p⟩ (by simp [textS, h])
  obtain ⟨W1, hW1⟩ : ∃ W1, W.alloc (.cells #[.int .i64 8, .bool false, .int .i64 0, .string ⟨t.toArray⟩] 76) = W1 := ⟨_, rfl⟩
  have hb1 : Below W.heap.size W W1 := by rw [← hW1]; exact (Below.refl _ W).alloc (Nat.le_refl _) _
  have hT1 := hT.below hb1
  have hH1 := hH.below hb1
  have hlT := hH1.lt
  have c1 := hasL_write q.bT q.bT p t W1 hH1 (by omega) (by omega)
  rw [← hW1] at c1
  have HF : Hid (∀ w2, HasL q.bT q.bT (p ++ t) w2 → Below q.bT W1 w2 → Lib.OthersKept 5 (some q.bT) W1 w2 → Tell q (addS (o ++ textS p) t) w2 ∧ Kl q W w2) := by
    intro w2 h2 b2 o2
    refine ⟨⟨⟨p ++ t, o, text_add o p t hlo ht, hlo, (hTo.below hb1).bld hH1 o2, h2⟩, h0, oth_cell hH1 o2 hT1.e (by decide) (by decide), oth_cell hH1 o2 hT1.d (by decide) (by decide), hT.dc⟩, (Kl.below hb1 hb0).trans (Kl.bld b2 o2 h0)⟩
  rw [← hW1] at HF
  generalize addS (o ++ textS p) t = A at HF ⊢
  clear hT hTo hH hT1 hH1 hb1 hx hlo hp hW1
  go_enter Tryd.func58, Tryd.ntmps58
  go_wp2_with (go_at_call 36; refine c1.mono ?_; rintro e w2 ⟨rfl, h2, b2, o2⟩; obtain ⟨TF, KF⟩ := HF.out w2 h2 b2 o2)
  refine bodyPost_ret (results_none rfl _ _ _) rfl ?_
  exact ⟨rfl, TF, KF⟩

set_option maxRecDepth 100000 in
set_option maxHeartbeats 2000000 in
/-- Something else is told. -/
theorem tell_else (q : Tl) (acc : List Ev) (ev : Ev) (W : World) (hT : Tell q acc W) (hk : ev.kind ≠ 8) (hlen : acc.length ≤ 1099511627776) :
    Calls Tryd.prog 58 #[.agg #[.int .i64 ev.kind, .bool ev.fin, .int .i64 ev.level, .string ⟨ev.text.toArray⟩], .pointer (some ⟨q.bT, 0, none⟩), .pointer (some ⟨q.bE, 0, none⟩), .pointer (some ⟨q.bD, 0, none⟩)] W fun e w' => e = .returned (.tuple #[]) ∧ Tell q (acc ++ [ev]) w' ∧ Kl q W w' := by
  have hb0 := hT.b0lt
  have hD := hT.dc
  have ek := hD.1
  obtain ⟨p, o, hacc, hlo, hTo, hH⟩ := hT.st
  have h0 := hT.lt
  have hol : o.length ≤ acc.length := by rw [hacc]; simp
  obtain ⟨W1, hW1⟩ : ∃ W1, W.alloc (.cells #[.int .i64 ev.kind, .bool ev.fin, .int .i64 ev.level, .string ⟨ev.text.toArray⟩] 76) = W1 := ⟨_, rfl⟩
  have hb1 : Below W.heap.size W W1 := by rw [← hW1]; exact (Below.refl _ W).alloc (Nat.le_refl _) _
  have hE1 : W1.heap[W.heap.size]? = some (.cells #[.int .i64 ev.kind, .bool ev.fin, .int .i64 ev.level, .string ⟨ev.text.toArray⟩] 76 (0, 0)) := by
    rw [← hW1]
    exact heap_alloc_new W _
  have hO1 : ¬ Own q.b0 W1 W.heap.size := hT.new hb1 (Nat.le_refl _)
  have hT1 := hT.below hb1
  have c1 := end_any q hT.dc p o W1 (hTo.below hb1) (hH.below hb1) h0 hT1.d (by omega)
  have hce := cell_of_one hT1.e
  rw [← hW1] at c1 hce
  have H2 : Hid (∀ w2, Told q.b0 (o ++ textS p) w2 → HasL q.bT q.bT [] w2 → Kl q W1 w2 → (w2.cell? ⟨q.bD, 0, none⟩ = some (doV q.kd q.b0) ∧ w2.heap[W.heap.size]? = some (.cells #[.int .i64 ev.kind, .bool ev.fin, .int .i64 ev.level, .string ⟨ev.text.toArray⟩] 76 (0, 0))) ∧ Calls Tryd.prog q.kd #[.agg #[.int .i64 ev.kind, .bool ev.fin, .int .i64 ev.level, .string ⟨ev.text.toArray⟩], .pointer (some ⟨q.b0, 0, none⟩)] w2 fun e w' => e = .returned (.tuple #[]) ∧ Tell q (acc ++ [ev]) w' ∧ Kl q W w') := by
    intro w2 T2 h2 K2
    have d2 := hT1.kept K2 hT1.d (by decide) (by decide) (hT1.off hT1.d (by decide) (by decide))
    have e2 := hT1.kept K2 hT1.e (by decide) (by decide) (hT1.off hT1.e (by decide) (by decide))
    refine ⟨⟨cell_of_one d2, hT1.kept K2 hE1 (by decide) (by decide) hO1⟩, ?_⟩
    have hc := hD.2 q.b0 (o ++ textS p) ev w2 T2 (by rw [← hacc]; exact hlen)
    refine hc.mono ?_
    rintro e w3 ⟨rfl, T3, K3⟩
    have k3 : Kl q w2 w3 := Kl.of_kp K3
    rw [← hacc] at T3
    refine ⟨rfl, ⟨⟨[], acc ++ [ev], by simp [textS], last_snoc _ _ hk, T3, h2.kp T2 K3⟩, h0, ?_, ?_, hD⟩, ((Kl.below hb1 hb0).trans K2).trans k3⟩
    · rw [K3.block _ (lt_of_block e2) (by simp) (T2.off e2 (by decide) (by decide))]; exact e2
    · rw [K3.block _ (lt_of_block d2) (by simp) (T2.off d2 (by decide) (by decide))]; exact d2
  rw [← hW1] at H2
  have hk2 : (ev.kind == 8) = false := by rw [beq_eq_false_iff_ne]; exact hk
  generalize o ++ textS p = A at H2 c1
  clear hT hTo hH hT1 hb1 hlo hW1 hE1 hO1 hacc hk hD
  unfold doV at H2
  go_enter Tryd.func58, Tryd.ntmps58
  go_wp2_with (first
    | (go_at_call 55; refine c1.mono ?_; rintro e w2 ⟨rfl, T2, h2, K2⟩; obtain ⟨⟨cd, hB2⟩, c2⟩ := H2.out w2 T2 h2 K2; have k0 := cell_of_row w2 W.heap.size 0 _ _ _ hB2; have k1 := cell_of_row w2 W.heap.size 1 _ _ _ hB2; have k2 := cell_of_row w2 W.heap.size 2 _ _ _ hB2; have k3 := cell_of_row w2 W.heap.size 3 _ _ _ hB2; simp at k0 k1 k2 k3)
    | (go_at_fn q.kd; refine c2.mono ?_; rintro e w3 ⟨rfl, T3, K3⟩))
  go_end0
  exact ⟨rfl, T3, K3⟩

end Go.Proofs.YtljcljipppjnoaaDoor
