import Derived.Test.YtljcljipppjnoaaDoorLvTwo
namespace Go.Proofs.YtljcljipppjnoaaDoor
open Go.RowKit Go.Shelf

/-- What stands first, and how long it is. -/
def ftS (f : List UInt8 → Bool → List Ev) (l : List UInt8) (ins : Bool) : List Ev × Nat :=
  if (oneS f l 0 ins).2 = 0 then ([⟨8, false, 0, l.take (plainLen l)⟩], plainLen l) else oneS f l 0 ins
theorem ft_eq (f : List UInt8 → Bool → List Ev) (l : List UInt8) (hl : l ≠ []) (ins : Bool) (acc : List Ev) : inlFrom f l ins 0 acc = inlFrom f (l.drop (ftS f l ins).2) ins 0 (glue acc (ftS f l ins).1) := by
  unfold ftS
  by_cases h : (oneS f l 0 ins).2 = 0
  · rw [if_pos h, inl_plain f l hl ins acc h, glue_text']
  · rw [if_neg h, inl_step f l hl, if_neg h]
theorem ft_facts (f : List UInt8 → Bool → List Ev) (hfl : ∀ l ins, (f l ins).length ≤ 2 * l.length) (hft : ∀ l ins, ∀ e ∈ f l ins, e.text.length ≤ l.length) (l : List UInt8) (hl : l ≠ []) (ins : Bool) :
    1 ≤ (ftS f l ins).2 ∧ (ftS f l ins).2 ≤ l.length ∧ (ftS f l ins).1.length ≤ 2 * (ftS f l ins).2 ∧ ∀ e ∈ (ftS f l ins).1, e.text.length ≤ (ftS f l ins).2 := by
  have hp := plain_le l hl
  unfold ftS
  by_cases h : (oneS f l 0 ins).2 = 0
  · rw [if_pos h]
    refine ⟨hp.1, hp.2, by simp; omega, fun e he => ?_⟩
    simp at he
    subst he
    simp only [List.length_take]
    omega
  · rw [if_neg h]
    obtain ⟨f1, f2⟩ := one_facts f hfl l 0 (List.length_pos_iff.2 hl) ins
    exact ⟨by omega, by omega, f1, one_text f hft l 0 ins⟩

/-- What one of the five says: mere text, or what it is. -/
theorem lfirst_fin (q : Tl) (A : List Ev) (s : ByteArray) (h1 : 1 ≤ s.size) (hs : s.size ≤ 1073741824) (hx : ∀ e ∈ A, e.text.length ≤ 1099511627776) (W W1 W2 : World) (hT : Tell q A W1) (hK : Kl q W W1) (b2 : Below W1.heap.size W1 W2) :
    Calls Tryd.prog 56 #[.string (s.extract 0 (plainLen s.data.toList)), .func (.func 58) #[] #[.pointer (some ⟨q.bT, 0, none⟩), .pointer (some ⟨q.bE, 0, none⟩), .pointer (some ⟨q.bD, 0, none⟩)]] W2 fun e w' => e = .returned (.tuple #[]) ∧ Tell q (glue A [⟨8, false, 0, s.data.toList.take (plainLen s.data.toList)⟩]) w' ∧ Kl q W w' := by
  have hne : s.data.toList ≠ [] := fun h => by have := ba_len s; rw [h] at this; simp at this; omega
  obtain ⟨p1, p2⟩ := plain_le s.data.toList hne
  rw [ba_len] at p2
  have hz : (s.extract 0 (plainLen s.data.toList)).size = plainLen s.data.toList := by rw [ByteArray.size_extract]; omega
  refine (ltext_any q A (s.extract 0 (plainLen s.data.toList)) W2 (hT.below b2) (by omega) (by omega) hx).mono ?_
  rintro e w3 ⟨rfl, T3, K3⟩
  rw [take_data] at T3
  rw [glue_text']
  exact ⟨rfl, T3, (hK.trans (Kl.below b2 hT.b0lt)).trans K3⟩

set_option maxRecDepth 100000 in
set_option maxHeartbeats 8000000 in
theorem first_any (q : Tl) (m : Int) (N : Nat) (hC : PartC q m N) (A : List Ev) (s : ByteArray) (ins : Bool) (W : World) (hT : Tell q A W) (hM : ML q m W) (h1 : 1 ≤ s.size) (hN : s.size ≤ N) (hs : s.size ≤ 1073741824) (hlen : A.length + 2 * s.size ≤ 1099511627776) (hx : ∀ e ∈ A, e.text.length + s.size ≤ 1099511627776) (X : List Ev × Nat) (hX : ftS inlineS s.data.toList ins = X) :
    Calls Tryd.prog 59 #[.string s, .bool ins, .func (.func 58) #[] #[.pointer (some ⟨q.bT, 0, none⟩), .pointer (some ⟨q.bE, 0, none⟩), .pointer (some ⟨q.bD, 0, none⟩)]] W fun e w' => e = .returned (.int .i64 X.2) ∧ Tell q (glue A X.1) w' ∧ Kl q W w' := by
  have hat : s.data.toList[0]? = some s[0] := at_some s 0 h1
  have hxA : ∀ e ∈ A, e.text.length ≤ 1099511627776 := fun e he => by have := hx e he; omega
  have hne : s.data.toList ≠ [] := fun h => by have := ba_len s; rw [h] at this; simp at this; omega
  obtain ⟨p1, p2⟩ := plain_le s.data.toList hne
  rw [ba_len] at p2
  obtain ⟨Y, hY⟩ : ∃ Y, oneS inlineS s.data.toList 0 ins = Y := ⟨_, rfl⟩
  have hX2 : (if Y.2 = 0 then ([⟨8, false, 0, s.data.toList.take (plainLen s.data.toList)⟩], plainLen s.data.toList) else Y) = X := by rw [← hX, ftS, hY]
  have hO : ∀ e, (oneS inlineS s.data.toList 0 ins).2 = 0 → e ∈ (oneS inlineS s.data.toList 0 ins).1 → False := by
    intro e h0 he
    have hlI := (one_facts inlineS inl_len s.data.toList 0 (List.length_pos_iff.2 hne) ins).1
    rw [h0] at hlI
    have : (oneS inlineS s.data.toList 0 ins).1 = [] := List.length_eq_zero_iff.1 (by omega)
    rw [this] at he
    cases he
  have hY1 : Y.2 = 0 → Y.1 = [] := fun h => by
    rw [← hY] at h ⊢
    exact List.eq_nil_iff_forall_not_mem.2 fun e he => hO e h he
  have HF : Hid (∀ W1 W2, Tell q A W1 → Kl q W W1 → Below W1.heap.size W1 W2 → _) := fun W1 W2 hT1 hK1 b2 => lfirst_fin q A s h1 hs hxA W W1 W2 hT1 hK1 b2
  have cP := fun W => pln_any s W h1 hs
  have t92 := u8_eq s[0] 92
  have t10 := u8_eq s[0] 10
  have t96 := u8_eq s[0] 96
  have t91 := u8_eq s[0] 91
  have t42 := u8_eq s[0] 42
  by_cases h92 : s[0] = 92
  · have g92 : ((s[0].toNat : Int) == 92) = true := by rw [h92]; rfl
    have h0 : s.data.toList[0]? = some 92 := by rw [hat, h92]
    have cS := slash_any q A inlineS s ins W hT h0 hs (by omega) hxA Y hY
    by_cases hz : Y.2 = 0
    · rw [if_pos hz] at hX2
      subst hX2
      rw [hz, hY1 hz, glue_nil] at cS
      show Calls _ _ _ _ (fun e w' => e = .returned (.int .i64 (plainLen s.data.toList : Int)) ∧ Tell q (glue A [⟨8, false, 0, s.data.toList.take (plainLen s.data.toList)⟩]) w' ∧ Kl q W w')
      generalize glue A [⟨8, false, 0, s.data.toList.take (plainLen s.data.toList)⟩] = A2 at HF ⊢
      generalize plainLen s.data.toList = n at HF cP p1 p2 ⊢
      clear hT hM hC hx hxA hX hO hY1 hY hat hlen hne h0 hz
      go_enter Tryd.func59, Tryd.ntmps59
      go_wp2_with (first | (go_at_call 62; refine cS.mono ?_; rintro e w1 ⟨rfl, T1, K1⟩) | (go_at_call 67; refine (cP _).mono ?_; rintro e w2 ⟨rfl, b2⟩) | (go_at_call 56; refine (HF.out _ _ T1 K1 b2).mono ?_; rintro e w3 ⟨rfl, T3, K3⟩))
      go_ret
      exact ⟨rfl, T3, K3⟩
    · rw [if_neg hz] at hX2
      subst hX2
      have hzb : ((Y.2 : Int) == 0) = false := by rw [beq_eq_false_iff_ne]; omega
      generalize glue A Y.1 = A2 at cS ⊢
      generalize Y.2 = n at cS hzb ⊢
      clear hT hM hC hx hxA hX hO hY1 hY hat hlen hne h0 hz HF cP
      go_enter Tryd.func59, Tryd.ntmps59
      go_wp2_with (go_at_call 62; refine cS.mono ?_; rintro e w1 ⟨rfl, T1, K1⟩)
      go_ret
      exact ⟨rfl, T1, K1⟩
  have g92 : ((s[0].toNat : Int) == 92) = false := t92.trans (beq_eq_false_iff_ne.2 h92)
  by_cases h10 : s[0] = 10
  · have g10 : ((s[0].toNat : Int) == 10) = true := by rw [h10]; rfl
    have h0 : s.data.toList[0]? = some 10 := by rw [hat, h10]
    have hY0 : Y = ([⟨10, false, 0, []⟩], 1) := by rw [← hY]; unfold oneS; rw [if_neg (by rw [h0]; simp), if_pos h0]
    have cS := feed_any q A W hT (by omega)
    rw [hY0, if_neg (by simp)] at hX2
    subst hX2
    show Calls _ _ _ _ (fun e w' => e = .returned (.int .i64 1) ∧ Tell q (glue A [⟨10, false, 0, []⟩]) w' ∧ Kl q W w')
    rw [glue_one A ⟨10, false, 0, []⟩ (by decide)]
    generalize A ++ [⟨10, false, 0, []⟩] = A2 at cS ⊢
    clear hT hM hC hx hxA hX hO hY1 hY hat hlen hne h0 hY0 HF cP
    go_enter Tryd.func59, Tryd.ntmps59
    go_wp2_with (go_at_call 63; refine cS.mono ?_; rintro e w1 ⟨rfl, T1, K1⟩)
    go_ret
    exact ⟨rfl, T1, K1⟩
  have g10 : ((s[0].toNat : Int) == 10) = false := t10.trans (beq_eq_false_iff_ne.2 h10)
  by_cases h96 : s[0] = 96
  · have g96 : ((s[0].toNat : Int) == 96) = true := by rw [h96]; rfl
    have h0 : s.data.toList[0]? = some 96 := by rw [hat, h96]
    have cS := code_any q m A inlineS s ins W hT hM h0 hs (by omega) Y hY
    by_cases hz : Y.2 = 0
    · rw [if_pos hz] at hX2
      subst hX2
      rw [hz, hY1 hz, glue_nil] at cS
      show Calls _ _ _ _ (fun e w' => e = .returned (.int .i64 (plainLen s.data.toList : Int)) ∧ Tell q (glue A [⟨8, false, 0, s.data.toList.take (plainLen s.data.toList)⟩]) w' ∧ Kl q W w')
      generalize glue A [⟨8, false, 0, s.data.toList.take (plainLen s.data.toList)⟩] = A2 at HF ⊢
      generalize plainLen s.data.toList = n at HF cP p1 p2 ⊢
      clear hT hM hC hx hxA hX hO hY1 hY hat hlen hne h0 hz
      go_enter Tryd.func59, Tryd.ntmps59
      go_wp2_with (first | (go_at_call 64; refine cS.mono ?_; rintro e w1 ⟨rfl, T1, K1⟩) | (go_at_call 67; refine (cP _).mono ?_; rintro e w2 ⟨rfl, b2⟩) | (go_at_call 56; refine (HF.out _ _ T1 K1 b2).mono ?_; rintro e w3 ⟨rfl, T3, K3⟩))
      go_ret
      exact ⟨rfl, T3, K3⟩
    · rw [if_neg hz] at hX2
      subst hX2
      have hzb : ((Y.2 : Int) == 0) = false := by rw [beq_eq_false_iff_ne]; omega
      generalize glue A Y.1 = A2 at cS ⊢
      generalize Y.2 = n at cS hzb ⊢
      clear hT hM hC hx hxA hX hO hY1 hY hat hlen hne h0 hz HF cP
      go_enter Tryd.func59, Tryd.ntmps59
      go_wp2_with (go_at_call 64; refine cS.mono ?_; rintro e w1 ⟨rfl, T1, K1⟩)
      go_ret
      exact ⟨rfl, T1, K1⟩
  have g96 : ((s[0].toNat : Int) == 96) = false := t96.trans (beq_eq_false_iff_ne.2 h96)
  by_cases h91 : s[0] = 91
  · have g91 : ((s[0].toNat : Int) == 91) = true := by rw [h91]; rfl
    have h0 : s.data.toList[0]? = some 91 := by rw [hat, h91]
    have cS := link_any q m N hC A s ins W hT hM h0 hN hs hlen hx Y hY
    by_cases hz : Y.2 = 0
    · rw [if_pos hz] at hX2
      subst hX2
      rw [hz, hY1 hz, glue_nil] at cS
      show Calls _ _ _ _ (fun e w' => e = .returned (.int .i64 (plainLen s.data.toList : Int)) ∧ Tell q (glue A [⟨8, false, 0, s.data.toList.take (plainLen s.data.toList)⟩]) w' ∧ Kl q W w')
      generalize glue A [⟨8, false, 0, s.data.toList.take (plainLen s.data.toList)⟩] = A2 at HF ⊢
      generalize plainLen s.data.toList = n at HF cP p1 p2 ⊢
      clear hT hM hC hx hxA hX hO hY1 hY hat hlen hne h0 hz
      go_enter Tryd.func59, Tryd.ntmps59
      go_wp2_with (first | (go_at_call 65; refine cS.mono ?_; rintro e w1 ⟨rfl, T1, K1⟩) | (go_at_call 67; refine (cP _).mono ?_; rintro e w2 ⟨rfl, b2⟩) | (go_at_call 56; refine (HF.out _ _ T1 K1 b2).mono ?_; rintro e w3 ⟨rfl, T3, K3⟩))
      go_ret
      exact ⟨rfl, T3, K3⟩
    · rw [if_neg hz] at hX2
      subst hX2
      have hzb : ((Y.2 : Int) == 0) = false := by rw [beq_eq_false_iff_ne]; omega
      generalize glue A Y.1 = A2 at cS ⊢
      generalize Y.2 = n at cS hzb ⊢
      clear hT hM hC hx hxA hX hO hY1 hY hat hlen hne h0 hz HF cP
      go_enter Tryd.func59, Tryd.ntmps59
      go_wp2_with (go_at_call 65; refine cS.mono ?_; rintro e w1 ⟨rfl, T1, K1⟩)
      go_ret
      exact ⟨rfl, T1, K1⟩
  have g91 : ((s[0].toNat : Int) == 91) = false := t91.trans (beq_eq_false_iff_ne.2 h91)
  by_cases h42 : s[0] = 42
  · have g42 : ((s[0].toNat : Int) == 42) = true := by rw [h42]; rfl
    have h0 : s.data.toList[0]? = some 42 := by rw [hat, h42]
    have cS := emph_any q m N hC A s ins W hT hM h0 hN hs hlen hx Y hY
    by_cases hz : Y.2 = 0
    · rw [if_pos hz] at hX2
      subst hX2
      rw [hz, hY1 hz, glue_nil] at cS
      show Calls _ _ _ _ (fun e w' => e = .returned (.int .i64 (plainLen s.data.toList : Int)) ∧ Tell q (glue A [⟨8, false, 0, s.data.toList.take (plainLen s.data.toList)⟩]) w' ∧ Kl q W w')
      generalize glue A [⟨8, false, 0, s.data.toList.take (plainLen s.data.toList)⟩] = A2 at HF ⊢
      generalize plainLen s.data.toList = n at HF cP p1 p2 ⊢
      clear hT hM hC hx hxA hX hO hY1 hY hat hlen hne h0 hz
      go_enter Tryd.func59, Tryd.ntmps59
      go_wp2_with (first | (go_at_call 66; refine cS.mono ?_; rintro e w1 ⟨rfl, T1, K1⟩) | (go_at_call 67; refine (cP _).mono ?_; rintro e w2 ⟨rfl, b2⟩) | (go_at_call 56; refine (HF.out _ _ T1 K1 b2).mono ?_; rintro e w3 ⟨rfl, T3, K3⟩))
      go_ret
      exact ⟨rfl, T3, K3⟩
    · rw [if_neg hz] at hX2
      subst hX2
      have hzb : ((Y.2 : Int) == 0) = false := by rw [beq_eq_false_iff_ne]; omega
      generalize glue A Y.1 = A2 at cS ⊢
      generalize Y.2 = n at cS hzb ⊢
      clear hT hM hC hx hxA hX hO hY1 hY hat hlen hne h0 hz HF cP
      go_enter Tryd.func59, Tryd.ntmps59
      go_wp2_with (go_at_call 66; refine cS.mono ?_; rintro e w1 ⟨rfl, T1, K1⟩)
      go_ret
      exact ⟨rfl, T1, K1⟩
  have g42 : ((s[0].toNat : Int) == 42) = false := t42.trans (beq_eq_false_iff_ne.2 h42)
  have hz : Y.2 = 0 := by rw [← hY]; unfold oneS; rw [hat, if_neg (fun h => h92 (Option.some.inj h)), if_neg (fun h => h10 (Option.some.inj h)), if_neg (fun h => h96 (Option.some.inj h)), if_neg (fun h => h91 (Option.some.inj h)), if_neg (fun h => h42 (Option.some.inj h))]
  rw [if_pos hz] at hX2
  subst hX2
  show Calls _ _ _ _ (fun e w' => e = .returned (.int .i64 (plainLen s.data.toList : Int)) ∧ Tell q (glue A [⟨8, false, 0, s.data.toList.take (plainLen s.data.toList)⟩]) w' ∧ Kl q W w')
  generalize glue A [⟨8, false, 0, s.data.toList.take (plainLen s.data.toList)⟩] = A2 at HF ⊢
  generalize plainLen s.data.toList = n at HF cP p1 p2 ⊢
  have HT : Hid (Tell q A W) := hT
  clear hT hM hC hx hxA hX hO hY1 hY hat hlen hne hz h92 h10 h96 h91 h42 t92 t10 t96 t91 t42
  go_enter Tryd.func59, Tryd.ntmps59
  go_wp2_with (first | (go_at_call 67; refine (cP _).mono ?_; rintro e w2 ⟨rfl, b2⟩) | (go_at_call 56; refine (HF.out _ _ HT.out (Kl.refl _ _) b2).mono ?_; rintro e w3 ⟨rfl, T3, K3⟩))
  go_ret
  exact ⟨rfl, T3, K3⟩

end Go.Proofs.YtljcljipppjnoaaDoor
