import Derived.Test.YtljcljipppjnoaaDoorLvWithin
namespace Go.Proofs.YtljcljipppjnoaaDoor
open Go.RowKit Go.Shelf

theorem glue_nil (A : List Ev) : glue A [] = A := by simp [glue]
theorem glue_text' (A : List Ev) (t : List UInt8) : glue A [⟨8, false, 0, t⟩] = addS A t := by simp [glue]
theorem glue_one (A : List Ev) (e : Ev) (h : e.kind ≠ 8) : glue A [e] = A ++ [e] := by simp [glue, h]
theorem glue_many (A m : List Ev) (h : 2 ≤ m.length) : glue A m = A ++ m := by
  unfold glue
  split
  · simp at h
  · rfl

set_option maxRecDepth 100000 in
set_option maxHeartbeats 2000000 in
theorem feed_any (q : Tl) (A : List Ev) (W : World) (hT : Tell q A W) (hlen : A.length ≤ 1099511627776) :
    Calls Tryd.prog 63 #[.func (.func 58) #[] #[.pointer (some ⟨q.bT, 0, none⟩), .pointer (some ⟨q.bE, 0, none⟩), .pointer (some ⟨q.bD, 0, none⟩)]] W fun e w' => e = .returned (.int .i64 1) ∧ Tell q (A ++ [⟨10, false, 0, []⟩]) w' ∧ Kl q W w' := by
  have hc : Calls Tryd.prog 58 #[.agg #[.int .i64 10, .bool false, .int .i64 0, .string ⟨#[]⟩], .pointer (some ⟨q.bT, 0, none⟩), .pointer (some ⟨q.bE, 0, none⟩), .pointer (some ⟨q.bD, 0, none⟩)] W fun e w' => e = .returned (.tuple #[]) ∧ Tell q (A ++ [⟨10, false, 0, []⟩]) w' ∧ Kl q W w' := tell_else q A ⟨10, false, 0, []⟩ W hT (by decide) hlen
  generalize A ++ [⟨10, false, 0, []⟩] = A2 at hc ⊢
  clear hT hlen
  go_enter Tryd.func63, Tryd.ntmps63
  go_wp2_with (go_at_call 58; refine hc.mono ?_; rintro e w1 ⟨rfl, T1, K1⟩)
  go_ret
  exact ⟨rfl, T1, K1⟩

set_option maxRecDepth 100000 in
set_option maxHeartbeats 4000000 in
theorem slash_any (q : Tl) (A : List Ev) (f : List UInt8 → Bool → List Ev) (s : ByteArray) (ins : Bool) (W : World) (hT : Tell q A W) (h0 : s.data.toList[0]? = some 92) (hs : s.size ≤ 1073741824) (hlen : A.length ≤ 1099511627776) (hx : ∀ e ∈ A, e.text.length ≤ 1099511627776) (X : List Ev × Nat) (hX : oneS f s.data.toList 0 ins = X) :
    Calls Tryd.prog 62 #[.string s, .func (.func 58) #[] #[.pointer (some ⟨q.bT, 0, none⟩), .pointer (some ⟨q.bE, 0, none⟩), .pointer (some ⟨q.bD, 0, none⟩)]] W fun e w' => e = .returned (.int .i64 X.2) ∧ Tell q (glue A X.1) w' ∧ Kl q W w' := by
  have hl := ba_len s
  have hb0 := hT.b0lt
  have cH := fun W => lv_prefix s ⟨#[92, 10]⟩ W
  rw [show (⟨#[92, 10]⟩ : ByteArray).data.toList = [92, 10] from rfl] at cH
  have hpt := pre_two s.data.toList 92 10
  have cE := fun W => esc_any s W hs
  unfold oneS at hX
  rw [if_pos h0] at hX
  by_cases h10 : s.data.toList[0 + 1]? = some 10
  · rw [if_pos h10] at hX
    rw [hpt.2 ⟨h0, h10⟩] at cH
    subst hX
    have hc : Calls Tryd.prog 58 #[.agg #[.int .i64 11, .bool false, .int .i64 0, .string ⟨#[]⟩], .pointer (some ⟨q.bT, 0, none⟩), .pointer (some ⟨q.bE, 0, none⟩), .pointer (some ⟨q.bD, 0, none⟩)] W fun e w' => e = .returned (.tuple #[]) ∧ Tell q (A ++ [⟨11, false, 0, []⟩]) w' ∧ Kl q W w' := tell_else q A ⟨11, false, 0, []⟩ W hT (by decide) hlen
    show Calls _ _ _ _ (fun e w' => e = .returned (.int .i64 2) ∧ Tell q (glue A [⟨11, false, 0, []⟩]) w' ∧ Kl q W w')
    rw [glue_one A ⟨11, false, 0, []⟩ (by decide)]
    generalize A ++ [⟨11, false, 0, []⟩] = A2 at hc ⊢
    clear hT hlen hx hpt cE h0 h10
    go_enter Tryd.func62, Tryd.ntmps62
    go_wp2_with (first | (go_at_call 68; refine (cH _).mono ?_; rintro e w' ⟨rfl, hw⟩; rw [hw]; clear hw) | (go_at_call 58; refine hc.mono ?_; rintro e w1 ⟨rfl, T1, K1⟩))
    go_ret
    exact ⟨rfl, T1, K1⟩
  · rw [if_neg h10] at hX
    have hnp : List.isPrefixOf [92, 10] s.data.toList = false := by
      rw [← Bool.not_eq_true]
      exact fun h => h10 (hpt.1 h).2
    rw [hnp] at cH
    by_cases hsg : s.data.toList[0 + 1]?.map signS = some true
    · rw [if_pos hsg] at hX
      have hn : escN s.data.toList = 2 := by rw [escN, if_pos hsg]
      rw [hn] at cE
      subst hX
      have h2 : 2 ≤ s.size := by
        cases hh : s.data.toList[0 + 1]? with
        | none => rw [hh] at hsg; cases hsg
        | some c => have := (List.getElem?_eq_some_iff.1 hh).1; omega
      have hcut : (s.extract 1 2).data.toList = cut s.data.toList (0 + 1) (0 + 2) := by rw [ba_cut]
      have hz : (s.extract 1 2).size = 1 := by rw [ByteArray.size_extract]; omega
      have hc := ltext_any q A (s.extract 1 2) W hT (by omega) (by omega) hx
      rw [hcut] at hc
      show Calls _ _ _ _ (fun e w' => e = .returned (.int .i64 2) ∧ Tell q (glue A [⟨8, false, 0, cut s.data.toList (0 + 1) (0 + 2)⟩]) w' ∧ Kl q W w')
      rw [glue_text']
      generalize addS A (cut s.data.toList (0 + 1) (0 + 2)) = A2 at hc ⊢
      clear hT hlen hx hpt h0 h10 hnp hsg hn hcut hz
      go_enter Tryd.func62, Tryd.ntmps62
      go_wp2_with (first | (go_at_call 68; refine (cH _).mono ?_; rintro e w' ⟨rfl, hw⟩; rw [hw]; clear hw) | (go_at_call 69; refine (cE _).mono ?_; rintro e w' ⟨rfl, hw⟩; rw [hw]; clear hw) | (go_at_call 56; refine hc.mono ?_; rintro e w1 ⟨rfl, T1, K1⟩))
      go_ret
      exact ⟨rfl, T1, K1⟩
    · rw [if_neg hsg] at hX
      have hn : escN s.data.toList = 0 := by rw [escN, if_neg hsg]
      rw [hn] at cE
      subst hX
      show Calls _ _ _ _ (fun e w' => e = .returned (.int .i64 0) ∧ Tell q (glue A []) w' ∧ Kl q W w')
      rw [glue_nil]
      have HT : Hid (Tell q A W) := hT
      clear hT hlen hx hpt h0 h10 hnp hsg hn
      go_enter Tryd.func62, Tryd.ntmps62
      go_wp2_with (first | (go_at_call 68; refine (cH _).mono ?_; rintro e w' ⟨rfl, hw⟩; rw [hw]; clear hw) | (go_at_call 69; refine (cE _).mono ?_; rintro e w' ⟨rfl, hw⟩; rw [hw]; clear hw))
      go_ret
      exact ⟨rfl, HT.out, Kl.refl _ _⟩

set_option maxRecDepth 100000 in
set_option maxHeartbeats 4000000 in
theorem code_any (q : Tl) (m : Int) (A : List Ev) (f : List UInt8 → Bool → List Ev) (s : ByteArray) (ins : Bool) (W : World) (hT : Tell q A W) (hM : ML q m W) (h0 : s.data.toList[0]? = some 96) (hs : s.size ≤ 1073741824) (hlen : A.length ≤ 1099511627776) (X : List Ev × Nat) (hX : oneS f s.data.toList 0 ins = X) :
    Calls Tryd.prog 64 #[.string s, .func (.func 58) #[] #[.pointer (some ⟨q.bT, 0, none⟩), .pointer (some ⟨q.bE, 0, none⟩), .pointer (some ⟨q.bD, 0, none⟩)]] W fun e w' => e = .returned (.int .i64 X.2) ∧ Tell q (glue A X.1) w' ∧ Kl q W w' := by
  have hl := ba_len s
  have hb0 := hT.b0lt
  have h1 : 1 ≤ s.size := by
    have := (List.getElem?_eq_some_iff.1 h0).1
    omega
  have cC := fun W => cod_any s W h1 hs
  unfold oneS at hX
  rw [if_neg (by rw [h0]; simp), if_neg (by rw [h0]; simp), if_pos h0] at hX
  by_cases hn : nextAt s.data.toList 96 (0 + 1) < s.data.toList.length
  · rw [if_pos hn] at hX
    have hcd : codN s.data.toList = nextAt s.data.toList 96 (0 + 1) + 1 := by rw [codN, if_pos hn]
    rw [hcd] at cC
    have hge := next_ge s.data.toList 96 (0 + 1)
    rw [hl] at hn
    subst hX
    generalize nextAt s.data.toList 96 (0 + 1) = n at cC hn hge ⊢
    have hcut : (s.extract 1 n).data.toList = cut s.data.toList (0 + 1) n := by rw [ba_cut]
    have hz : (s.extract 1 n).size = n - 1 := by rw [ByteArray.size_extract]; omega
    have c2 := lv_replace (s.extract 1 n) m W (by omega) hM.2
    rw [hcut] at c2
    have HT : Hid (∀ w1, Below W.heap.size W w1 → Calls Tryd.prog 58 #[.agg #[.int .i64 9, .bool false, .int .i64 0, .string ⟨(spacedL (cut s.data.toList (0 + 1) n)).toArray⟩], .pointer (some ⟨q.bT, 0, none⟩), .pointer (some ⟨q.bE, 0, none⟩), .pointer (some ⟨q.bD, 0, none⟩)] w1 fun e w' => e = .returned (.tuple #[]) ∧ Tell q (A ++ [⟨9, false, 0, spacedL (cut s.data.toList (0 + 1) n)⟩]) w' ∧ Kl q W w') := by
      intro w1 b1
      refine (tell_else q A ⟨9, false, 0, spacedL (cut s.data.toList (0 + 1) n)⟩ w1 (hT.below b1) (by decide : (9 : Int) ≠ 8) hlen).mono ?_
      rintro e w2 ⟨rfl, T2, K2⟩
      exact ⟨rfl, T2, (Kl.below b1 hb0).trans K2⟩
    show Calls _ _ _ _ (fun e w' => e = .returned (.int .i64 ((n + 1 - 0 : Nat) : Int)) ∧ Tell q (glue A [⟨9, false, 0, spacedL (cut s.data.toList (0 + 1) n)⟩]) w' ∧ Kl q W w')
    rw [glue_one A _ (by decide : (9 : Int) ≠ 8)]
    generalize A ++ [⟨9, false, 0, spacedL (cut s.data.toList (0 + 1) n)⟩] = A2 at HT ⊢
    generalize spacedL (cut s.data.toList (0 + 1) n) = t at c2 HT
    clear hT hM hlen h0 hcut hz hcd hl
    go_enter Tryd.func64, Tryd.ntmps64
    go_wp2_with (first | (go_at_call 70; refine (cC _).mono ?_; rintro e w' ⟨rfl, hw⟩; rw [hw]; clear hw) | (go_at_call 71; refine c2.mono ?_; rintro e w1 ⟨rfl, b1⟩) | (go_at_call 58; refine (HT.out w1 b1).mono ?_; rintro e w2 ⟨rfl, T2, K2⟩))
    go_ret
    exact ⟨congrArg (fun z : Int => Ending.returned (Value.int IntKind.i64 z)) (by omega), T2, K2⟩
  · rw [if_neg hn] at hX
    have hcd : codN s.data.toList = 0 := by rw [codN, if_neg hn]
    rw [hcd] at cC
    subst hX
    show Calls _ _ _ _ (fun e w' => e = .returned (.int .i64 0) ∧ Tell q (glue A []) w' ∧ Kl q W w')
    rw [glue_nil]
    have HT : Hid (Tell q A W) := hT
    clear hT hM hlen h0 hcd hn
    go_enter Tryd.func64, Tryd.ntmps64
    go_wp2_with (go_at_call 70; refine (cC _).mono ?_; rintro e w' ⟨rfl, hw⟩; rw [hw]; clear hw)
    go_ret
    exact ⟨rfl, HT.out, Kl.refl _ _⟩

end Go.Proofs.YtljcljipppjnoaaDoor
