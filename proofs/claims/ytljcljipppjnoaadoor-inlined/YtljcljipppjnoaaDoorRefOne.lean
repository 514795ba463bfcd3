import Derived.Test.YtljcljipppjnoaaDoorRefAdd
import Derived.Test.YtljcljipppjnoaaDoorRefLink
import Derived.Test.YtljcljipppjnoaaDoorRefPartner
namespace Go.Proofs.YtljcljipppjnoaaDoor
open Go.RowKit

def cut (l : List UInt8) (a b : Nat) : List UInt8 := (l.drop a).take (b - a)
theorem ba_cut (s : ByteArray) (a b : Nat) : s.extract a b = ⟨(cut s.data.toList a b).toArray⟩ := by
  apply ByteArray.ext
  apply Array.ext'
  rw [Lib.extract_data]
  rfl
theorem cut_len (l : List UInt8) (a b : Nat) (h : b ≤ l.length) : (cut l a b).length = b - a := by
  rw [cut, List.length_take, List.length_drop]
  omega

/-- What begins at place i, and how many bytes it takes (0: it is text). -/
def oneS (inner : List UInt8 → Bool → List Ev) (l : List UInt8) (i : Nat) (ins : Bool) : List Ev × Nat :=
  if l[i]? = some 92 then
    if l[i + 1]? = some 10 then ([⟨11, false, 0, []⟩], 2)
    else if l[i + 1]?.map signS = some true then ([⟨8, false, 0, cut l (i + 1) (i + 2)⟩], 2) else ([], 0)
  else if l[i]? = some 10 then ([⟨10, false, 0, []⟩], 1)
  else if l[i]? = some 96 then
    if nextAt l 96 (i + 1) < l.length then ([⟨9, false, 0, spacedL (cut l (i + 1) (nextAt l 96 (i + 1)))⟩], nextAt l 96 (i + 1) + 1 - i) else ([], 0)
  else if l[i]? = some 91 then
    match linkS l i with
    | some x => ([⟨7, false, 0, cut l (x.1 + 2) x.2⟩] ++ inner (cut l (i + 1) x.1) ins ++ [⟨7, true, 0, []⟩], x.2 + 1 - i)
    | none => ([], 0)
  else if l[i]? = some 42 then
    if ins = true then ([], 0) else
    match partnerS l i with
    | some j => ([⟨6, false, 0, []⟩] ++ inner (cut l (i + 1) j) true ++ [⟨6, true, 0, []⟩], j + 1 - i)
    | none => ([], 0)
  else ([], 0)

theorem link_facts (l : List UInt8) (i : Nat) (x : Nat × Nat) (h : linkS l i = some x) (h91 : l[i]? = some 91) : i + 1 ≤ x.1 ∧ x.1 + 2 ≤ x.2 ∧ x.2 < l.length := by
  unfold linkS at h
  split at h
  · next hc =>
    cases h
    have hi : i < l.length := (List.getElem?_eq_some_iff.1 h91).1
    have hv : l[i] = 91 := (List.getElem?_eq_some_iff.1 h91).2
    have h1 := next_lt l 93 i hi (by rw [hv]; rfl)
    have h2 := next_ge l 93 (i + 1)
    have h3 := stop_ge l (nextAt l 93 i + 2)
    have h4 := (List.getElem?_eq_some_iff.1 hc.2.2.2).1
    exact ⟨by simp only; omega, h3, h4⟩
  · cases h
theorem pfrom_ge (l : List UInt8) (j : Nat) : j ≤ pfrom l j := by
  induction hm : l.length - j using Nat.strongRecOn generalizing j with
  | _ m ih =>
    by_cases h : j < l.length ∧ l[j]? ≠ some 42
    · have h1 := pnext_gt l j
      have h2 := ih (l.length - pnext l j) (by omega) (pnext l j) rfl
      rw [pfrom_go l j h.1 h.2]
      omega
    · rw [pfrom_at l j h]
      exact Nat.le_refl _
theorem partner_facts (l : List UInt8) (i j : Nat) (h : partnerS l i = some j) : i + 2 ≤ j ∧ j < l.length := by
  unfold partnerS at h
  split at h
  · next hc =>
    cases h
    have := pfrom_ge l (i + 1)
    exact ⟨by omega, hc.1⟩
  · cases h
theorem one_facts (inner : List UInt8 → Bool → List Ev) (hfl : ∀ l ins, (inner l ins).length ≤ 2 * l.length) (l : List UInt8) (i : Nat) (hi : i < l.length) (ins : Bool) :
    (oneS inner l i ins).1.length ≤ 2 * (oneS inner l i ins).2 ∧ i + (oneS inner l i ins).2 ≤ l.length := by
  unfold oneS
  split
  · split
    · next h => have := (List.getElem?_eq_some_iff.1 h).1; exact ⟨by simp, by simp only; omega⟩
    · split
      · next h =>
        have : i + 1 < l.length := by
          cases hc : l[i + 1]? with
          | none => rw [hc] at h; cases h
          | some c => exact (List.getElem?_eq_some_iff.1 hc).1
        exact ⟨by simp, by simp only; omega⟩
      · exact ⟨by simp, by simp only; omega⟩
  split
  · exact ⟨by simp, by simp only; omega⟩
  split
  · have := next_ge l 96 (i + 1)
    split
    · exact ⟨by simp; omega, by simp only; omega⟩
    · exact ⟨by simp, by simp only; omega⟩
  split
  · next h91 =>
    cases hl : linkS l i with
    | none => exact ⟨by simp, by simp only; omega⟩
    | some x =>
      obtain ⟨a1, a2, a3⟩ := link_facts l i x hl h91
      have h1 := hfl (cut l (i + 1) x.1) ins
      rw [cut_len l (i + 1) x.1 (by omega)] at h1
      exact ⟨by simp; omega, by simp only; omega⟩
  split
  · split
    · exact ⟨by simp, by simp only; omega⟩
    · cases hp : partnerS l i with
      | none => exact ⟨by simp, by simp only; omega⟩
      | some j =>
        obtain ⟨a1, a2⟩ := partner_facts l i j hp
        have h1 := hfl (cut l (i + 1) j) true
        rw [cut_len l (i + 1) j (by omega)] at h1
        exact ⟨by simp; omega, by simp only; omega⟩
  · exact ⟨by simp, by simp only; omega⟩

/-- What Inline does with texts shorter than this. -/
def InlC (N : Nat) (f : List UInt8 → Bool → List Ev) : Prop :=
  ∀ (s : ByteArray) (ins : Bool) (w : World), s.size < N → s.size ≤ 1073741824 → Calls Tryd.prog 12 #[.string s, .bool ins] w fun e w' => ∃ v, e = .returned v ∧ w'.ownsRow w.heap.size 58 4 v (f s.data.toList ins).length (evCs (f s.data.toList ins)) ∧ Below w.heap.size w w'

set_option maxRecDepth 100000 in
set_option maxHeartbeats 4000000 in
theorem rone_any (f : List UInt8 → Bool → List Ev) (N : Nat) (hC : InlC N f) (hfl : ∀ l ins, (f l ins).length ≤ 2 * l.length) (s : ByteArray) (i : Nat) (ins : Bool) (w : World) (hN : s.size ≤ N) (hs : s.size ≤ 1073741824) (hi : i < s.size) (X : List Ev × Nat) (hX : oneS f s.data.toList i ins = X) :
    Calls Tryd.prog 19 #[.string s, .int .i64 i, .bool ins] w fun e w' => ∃ v, e = .returned (.tuple #[v, .int .i64 X.2]) ∧ w'.ownsRow w.heap.size 58 4 v X.1.length (evCs X.1) ∧ Below w.heap.size w w' := by
  have hl := ba_len s
  obtain ⟨j0, hj, hy0, hy1, hy2⟩ := info_parts Tryd.infoEv
  have hat : s.data.toList[i]? = some s[i] := at_some s i hi
  unfold oneS at hX
  rw [hat] at hX
  have oN : w.ownsRow w.heap.size 58 4 (.slice none 0 0) 0 (evCs []) := by simpa [evCs] using World.ownsRow_nil w w.heap.size 58 4
  by_cases h92 : s[i] = 92
  · rw [if_pos (by rw [h92])] at hX
    have g92 : ((s[i].toNat : Int) == 92) = true := by rw [h92]; rfl
    by_cases h1 : i + 1 < s.size
    · have hat1 : s.data.toList[i + 1]? = some s[i + 1] := at_some s (i + 1) h1
      rw [hat1] at hX
      have c2 := fun W => rsign_any s[i + 1] W
      by_cases hb : s[i + 1] = 10
      · rw [if_pos (by rw [hb])] at hX
        have gb : ((s[i + 1].toNat : Int) == 10) = true := by rw [hb]; rfl
        have oL := own_lit w ⟨11, false, 0, []⟩ 58
        subst hX
        clear hat h92 hb hat1 c2
        go_enter Tryd.func19, Tryd.ntmps19
        go_wp2
        go_ret2
        exact ⟨_, rfl, oL, (Below.refl _ w).alloc (Nat.le_refl _) _⟩
      · rw [if_neg (fun h => hb (Option.some.inj h))] at hX
        have gb : ((s[i + 1].toNat : Int) == 10) = false := (u8_eq s[i + 1] 10).trans (beq_eq_false_iff_ne.2 hb)
        cases y : signS s[i + 1] with
        | true =>
          rw [if_pos (by rw [Option.map_some, y])] at hX
          rw [y] at c2
          have hcut := ba_cut s (i + 1) (i + 2)
          have oL := own_lit w ⟨8, false, 0, cut s.data.toList (i + 1) (i + 2)⟩ 58
          subst hX
          have HO : Hid ((w.alloc (.cells #[.int .i64 8, .bool false, .int .i64 0, .string (s.extract (i + 1) (i + 2))] 58)).ownsRow w.heap.size 58 4 (.slice (some ⟨w.heap.size, 0, none⟩) 1 1) 1 (evCs [⟨8, false, 0, cut s.data.toList (i + 1) (i + 2)⟩])) := by
            show World.ownsRow _ _ _ _ _ _ _
            rw [hcut]
            exact oL
          clear hat h92 hb hat1 hcut oL
          go_enter Tryd.func19, Tryd.ntmps19
          go_wp2_with (go_at_call 28; refine (c2 _).mono ?_; rintro e w' ⟨rfl, hw⟩; rw [hw]; clear hw)
          go_ret2
          exact ⟨_, rfl, HO.out, (Below.refl _ w).alloc (Nat.le_refl _) _⟩
        | false =>
          rw [if_neg (by rw [Option.map_some, y]; simp)] at hX
          rw [y] at c2
          subst hX
          clear hat h92 hb hat1
          go_enter Tryd.func19, Tryd.ntmps19
          go_wp2_with (go_at_call 28; refine (c2 _).mono ?_; rintro e w' ⟨rfl, hw⟩; rw [hw]; clear hw)
          go_ret2
          exact ⟨_, rfl, oN, Below.refl _ _⟩
    · rw [at_none s (i + 1) h1, if_neg (by simp), if_neg (by simp)] at hX
      subst hX
      clear hat h92
      go_enter Tryd.func19, Tryd.ntmps19
      go_wp2
      go_ret2
      exact ⟨_, rfl, oN, Below.refl _ _⟩
  rw [if_neg (fun h => h92 (Option.some.inj h))] at hX
  have g92 : ((s[i].toNat : Int) == 92) = false := (u8_eq s[i] 92).trans (beq_eq_false_iff_ne.2 h92)
  by_cases h10 : s[i] = 10
  · rw [if_pos (by rw [h10])] at hX
    have g10 : ((s[i].toNat : Int) == 10) = true := by rw [h10]; rfl
    have oL := own_lit w ⟨10, false, 0, []⟩ 58
    subst hX
    clear hat h92 h10
    go_enter Tryd.func19, Tryd.ntmps19
    go_wp2
    go_ret2
    exact ⟨_, rfl, oL, (Below.refl _ w).alloc (Nat.le_refl _) _⟩
  rw [if_neg (fun h => h10 (Option.some.inj h))] at hX
  have g10 : ((s[i].toNat : Int) == 10) = false := (u8_eq s[i] 10).trans (beq_eq_false_iff_ne.2 h10)
  by_cases h96 : s[i] = 96
  · rw [if_pos (by rw [h96])] at hX
    have g96 : ((s[i].toNat : Int) == 96) = true := by rw [h96]; rfl
    have c1 := fun W => rfind_any s 96 (i + 1) W (by omega) (by omega)
    have e96 : ((96 : UInt8).toNat : Int) = 96 := rfl
    have en : ((i + 1 : Nat) : Int) = (i : Int) + 1 := by omega
    rw [e96, en] at c1
    by_cases hk : nextAt s.data.toList 96 (i + 1) < s.size
    · rw [hl, if_pos hk] at hX
      have hF : foundZ s.data.toList 96 (i + 1) = (nextAt s.data.toList 96 (i + 1) : Int) := by rw [foundZ, hl, if_pos hk]
      have hge := next_ge s.data.toList 96 (i + 1)
      rw [hF] at c1
      generalize nextAt s.data.toList 96 (i + 1) = k at c1 hX hk hge
      have hcut := ba_cut s (i + 1) k
      have c2 := fun W => rspaced_any (s.extract (i + 1) k) W (by simp; omega)
      have hce : (s.extract (i + 1) k).data.toList = cut s.data.toList (i + 1) k := by rw [hcut]
      rw [hce] at c2
      have oL := own_lit w ⟨9, false, 0, spacedL (cut s.data.toList (i + 1) k)⟩ 58
      subst hX
      generalize spacedL (cut s.data.toList (i + 1) k) = sp at c2 oL ⊢
      clear hat h92 h10 h96 hcut hce hF
      go_enter Tryd.func19, Tryd.ntmps19
      go_wp2_with (first | (go_at_call 29; refine (c1 _).mono ?_; rintro e w' ⟨rfl, hw⟩; rw [hw]; clear hw) | (go_at_call 30; refine (c2 _).mono ?_; rintro e w' ⟨rfl, hw⟩; rw [hw]; clear hw))
      go_ret2
      exact ⟨_, (by go_num), oL, (Below.refl _ w).alloc (Nat.le_refl _) _⟩
    · rw [hl, if_neg hk] at hX
      have hF : foundZ s.data.toList 96 (i + 1) = -1 := by rw [foundZ, hl, if_neg hk]
      rw [hF] at c1
      subst hX
      clear hat h92 h10 h96 hF hk
      go_enter Tryd.func19, Tryd.ntmps19
      go_wp2_with (go_at_call 29; refine (c1 _).mono ?_; rintro e w' ⟨rfl, hw⟩; rw [hw]; clear hw)
      go_ret2
      exact ⟨_, rfl, oN, Below.refl _ _⟩
  rw [if_neg (fun h => h96 (Option.some.inj h))] at hX
  have g96 : ((s[i].toNat : Int) == 96) = false := (u8_eq s[i] 96).trans (beq_eq_false_iff_ne.2 h96)
  by_cases h91 : s[i] = 91
  · rw [if_pos (by rw [h91])] at hX
    have g91 : ((s[i].toNat : Int) == 91) = true := by rw [h91]; rfl
    have c1 := fun W => rlink_any s i W (by omega) hi
    cases hk : linkS s.data.toList i with
    | none =>
      rw [hk] at hX c1
      have hX2 : X = ([], 0) := hX.symm
      subst hX2
      unfold linkV at c1
      clear hat h92 h10 h96 h91 hk hX
      go_enter Tryd.func19, Tryd.ntmps19
      go_wp2_with (go_at_call 31; refine (c1 _).mono ?_; rintro e w' ⟨rfl, hw⟩; rw [hw]; clear hw)
      go_ret2
      exact ⟨_, rfl, oN, Below.refl _ _⟩
    | some x =>
      obtain ⟨a1, a2, a3⟩ := link_facts s.data.toList i x hk (by rw [hat, h91])
      rw [hk] at hX c1
      obtain ⟨xj, xe⟩ := x
      simp only at a1 a2 a3 hX
      rw [hl] at a3
      unfold linkV at c1
      have hp := hC (s.extract (i + 1) xj) ins
      have hce : (s.extract (i + 1) xj).data.toList = cut s.data.toList (i + 1) xj := by rw [ba_cut]
      have hpz : (s.extract (i + 1) xj).size = xj - (i + 1) := by simp; omega
      rw [hce] at hp
      have c2 := fun W => hp W (by omega) (by omega)
      have hfb := hfl (cut s.data.toList (i + 1) xj) ins
      rw [cut_len _ _ _ (by omega)] at hfb
      have hct := ba_cut s (xj + 2) xe
      have hA : X.1 = [⟨7, false, 0, cut s.data.toList (xj + 2) xe⟩] ++ f (cut s.data.toList (i + 1) xj) ins ++ [⟨7, true, 0, []⟩] := by rw [← hX]
      have hB : X.2 = xe + 1 - i := by rw [← hX]
      have HX1 : Hid (X.1.length = 1 + (f (cut s.data.toList (i + 1) xj) ins).length + 1 ∧ evCs X.1 = evCs [⟨7, false, 0, cut s.data.toList (xj + 2) xe⟩] ++ (evCs (f (cut s.data.toList (i + 1) xj) ins) ++ evCells ⟨7, true, 0, []⟩)) := by
        rw [hA]
        exact ⟨by simp; omega, by rw [evCs_append, evCs_append, evCs_one ⟨7, true, 0, []⟩, List.append_assoc]⟩
      have HL : Hid (∀ w1 : World, w.heap.size ≤ w1.heap.size → (w1.alloc (.cells #[.int .i64 7, .bool false, .int .i64 0, .string (s.extract (xj + 2) xe)] 58)).ownsRow w.heap.size 58 4 (.slice (some ⟨w1.heap.size, 0, none⟩) 1 1) 1 (evCs [⟨7, false, 0, cut s.data.toList (xj + 2) xe⟩])) := by
        intro w1 h1
        rw [hct]
        exact Joins.ownsRow_le (own_lit w1 ⟨7, false, 0, cut s.data.toList (xj + 2) xe⟩ 58) h1
      have hez : ((xe + 1 - i : Nat) : Int) = (xe : Int) + 1 - (i : Int) := by omega
      have HE : Hid (∀ v : Value, Ending.returned (.tuple #[v, .int .i64 ((xe : Int) + 1 - (i : Int))]) = Ending.returned (.tuple #[v, .int .i64 X.2])) := fun v => by rw [hB, hez]
      generalize cut s.data.toList (xj + 2) xe = tx at HL HX1
      generalize f (cut s.data.toList (i + 1) xj) ins = fi at c2 hfb HX1
      clear hat h92 h10 h96 h91 hk hX hce hp hct hA hB hez
      go_enter Tryd.func19, Tryd.ntmps19
      go_wp2_with (first | (go_at_call 31; refine (c1 _).mono ?_; rintro e w' ⟨rfl, hw⟩; rw [hw]; clear hw) | (go_at_call 12; refine (c2 _).mono ?_; rintro e w1 ⟨vb, rfl, ownb, belb⟩; have s1 := belb.size) | (at_builtin; refine wpList_append_row _ rfl _ _ 37 rfl w.heap.size w.heap.size 58 j0 (.agg #[.int .i64 0, .bool false, .int .i64 0, .string ⟨#[]⟩]) 4 40 Tryd.underlying37 hj hy0 hy1 hy2 rfl (by decide) _ 1 (evCs [⟨7, false, 0, tx⟩]) rfl (HL.out w1 s1) _ _ _ rfl (ownb.alloc _) (evCs_one' _) ?c3 ?c4 ?c5 ?_))
      case c3 => unfold maxLen; omega
      case c4 => omega
      case c5 => simp; omega
      intro v2 w2 own2 grow2
      have b2 : Below w.heap.size w w2 := (belb.alloc s1 _).grown grow2 (by simp; omega) (fun b hb => (HL.out w1 s1).lt b hb |>.1)
      have z2 := b2.size
      go_wp2_with (at_builtin; refine wpList_append_own _ rfl _ _ 37 rfl w.heap.size 58 j0 (.agg #[.int .i64 0, .bool false, .int .i64 0, .string ⟨#[]⟩]) 4 40 Tryd.underlying37 hj hy0 hy1 hy2 rfl (by decide) _ _ _ rfl (own2.alloc _) ⟨w2.heap.size, 0, none⟩ 1 1 (evCells ⟨7, true, 0, []⟩) rfl rfl (ev_cell _ _ _ (by simp)) (ev_one _) (by unfold maxLen; omega) (by omega) (by simp; omega) ?_; intro v3 w3 own3 grow3 _)
      go_ret2
      refine ⟨v3, HE.out v3, ?_, (b2.alloc z2 _).grown grow3 (by simp; omega) (fun b hb => (own2.lt b hb).1)⟩
      rw [HX1.out.1, HX1.out.2]
      first | exact own3 | (simpa only [List.append_assoc] using own3)
  rw [if_neg (fun h => h91 (Option.some.inj h))] at hX
  have g91 : ((s[i].toNat : Int) == 91) = false := (u8_eq s[i] 91).trans (beq_eq_false_iff_ne.2 h91)
  by_cases h42 : s[i] = 42
  · rw [if_pos (by rw [h42])] at hX
    have g42 : ((s[i].toNat : Int) == 42) = true := by rw [h42]; rfl
    cases ins with
    | true =>
      rw [if_pos rfl] at hX
      subst hX
      clear hat h92 h10 h96 h91 h42
      go_enter Tryd.func19, Tryd.ntmps19
      go_wp2
      go_ret2
      exact ⟨_, rfl, oN, Below.refl _ _⟩
    | false =>
    rw [if_neg (by simp)] at hX
    have c1 := fun W => rpartner_any s i W (by omega) hi
    cases hk : partnerS s.data.toList i with
    | none =>
      rw [hk] at hX c1
      have hX2 : X = ([], 0) := hX.symm
      subst hX2
      unfold partnerZ at c1
      clear hat h92 h10 h96 h91 h42 hk hX
      go_enter Tryd.func19, Tryd.ntmps19
      go_wp2_with (go_at_call 32; refine (c1 _).mono ?_; rintro e w' ⟨rfl, hw⟩; rw [hw]; clear hw)
      go_ret2
      exact ⟨_, rfl, oN, Below.refl _ _⟩
    | some xj =>
      obtain ⟨a1, a2⟩ := partner_facts s.data.toList i xj hk
      rw [hk] at hX c1
      rw [hl] at a2
      unfold partnerZ at c1
      simp only at c1 hX
      have hp := hC (s.extract (i + 1) xj) true
      have hce : (s.extract (i + 1) xj).data.toList = cut s.data.toList (i + 1) xj := by rw [ba_cut]
      have hpz : (s.extract (i + 1) xj).size = xj - (i + 1) := by simp; omega
      rw [hce] at hp
      have c2 := fun W => hp W (by omega) (by omega)
      have hfb := hfl (cut s.data.toList (i + 1) xj) true
      rw [cut_len _ _ _ (by omega)] at hfb
      have hA : X.1 = [⟨6, false, 0, []⟩] ++ f (cut s.data.toList (i + 1) xj) true ++ [⟨6, true, 0, []⟩] := by rw [← hX]
      have hB : X.2 = xj + 1 - i := by rw [← hX]
      have HX1 : Hid (X.1.length = 1 + (f (cut s.data.toList (i + 1) xj) true).length + 1 ∧ evCs X.1 = evCs [⟨6, false, 0, []⟩] ++ (evCs (f (cut s.data.toList (i + 1) xj) true) ++ evCells ⟨6, true, 0, []⟩)) := by
        rw [hA]
        exact ⟨by simp; omega, by rw [evCs_append, evCs_append, evCs_one ⟨6, true, 0, []⟩, List.append_assoc]⟩
      have HL : Hid (∀ w1 : World, w.heap.size ≤ w1.heap.size → (w1.alloc (.cells #[.int .i64 6, .bool false, .int .i64 0, .string ⟨#[]⟩] 58)).ownsRow w.heap.size 58 4 (.slice (some ⟨w1.heap.size, 0, none⟩) 1 1) 1 (evCs [⟨6, false, 0, []⟩])) := fun w1 h1 => Joins.ownsRow_le (own_lit w1 ⟨6, false, 0, []⟩ 58) h1
      have hez : ((xj + 1 - i : Nat) : Int) = (xj : Int) + 1 - (i : Int) := by omega
      have HE : Hid (∀ v : Value, Ending.returned (.tuple #[v, .int .i64 ((xj : Int) + 1 - (i : Int))]) = Ending.returned (.tuple #[v, .int .i64 X.2])) := fun v => by rw [hB, hez]
      generalize f (cut s.data.toList (i + 1) xj) true = fi at c2 hfb HX1
      clear hat h92 h10 h96 h91 h42 hk hX hce hp hA hB hez
      go_enter Tryd.func19, Tryd.ntmps19
      go_wp2_with (first | (go_at_call 32; refine (c1 _).mono ?_; rintro e w' ⟨rfl, hw⟩; rw [hw]; clear hw) | (go_at_call 12; refine (c2 _).mono ?_; rintro e w1 ⟨vb, rfl, ownb, belb⟩; have s1 := belb.size) | (at_builtin; refine wpList_append_row _ rfl _ _ 37 rfl w.heap.size w.heap.size 58 j0 (.agg #[.int .i64 0, .bool false, .int .i64 0, .string ⟨#[]⟩]) 4 40 Tryd.underlying37 hj hy0 hy1 hy2 rfl (by decide) _ 1 (evCs [⟨6, false, 0, []⟩]) rfl (HL.out w1 s1) _ _ _ rfl (ownb.alloc _) (evCs_one' _) ?c3 ?c4 ?c5 ?_))
      case c3 => unfold maxLen; omega
      case c4 => omega
      case c5 => simp; omega
      intro v2 w2 own2 grow2
      have b2 : Below w.heap.size w w2 := (belb.alloc s1 _).grown grow2 (by simp; omega) (fun b hb => (HL.out w1 s1).lt b hb |>.1)
      have z2 := b2.size
      go_wp2_with (at_builtin; refine wpList_append_own _ rfl _ _ 37 rfl w.heap.size 58 j0 (.agg #[.int .i64 0, .bool false, .int .i64 0, .string ⟨#[]⟩]) 4 40 Tryd.underlying37 hj hy0 hy1 hy2 rfl (by decide) _ _ _ rfl (own2.alloc _) ⟨w2.heap.size, 0, none⟩ 1 1 (evCells ⟨6, true, 0, []⟩) rfl rfl (ev_cell _ _ _ (by simp)) (ev_one _) (by unfold maxLen; omega) (by omega) (by simp; omega) ?_; intro v3 w3 own3 grow3 _)
      go_ret2
      refine ⟨v3, HE.out v3, ?_, (b2.alloc z2 _).grown grow3 (by simp; omega) (fun b hb => (own2.lt b hb).1)⟩
      rw [HX1.out.1, HX1.out.2]
      first | exact own3 | (simpa only [List.append_assoc] using own3)
  rw [if_neg (fun h => h42 (Option.some.inj h))] at hX
  have g42 : ((s[i].toNat : Int) == 42) = false := (u8_eq s[i] 42).trans (beq_eq_false_iff_ne.2 h42)
  subst hX
  clear hat h92 h10 h96 h91 h42
  go_enter Tryd.func19, Tryd.ntmps19
  go_wp2
  go_ret2
  exact ⟨_, rfl, oN, Below.refl _ _⟩

end Go.Proofs.YtljcljipppjnoaaDoor
