import Derived.Test.YtkabhbbhliffcaaGreatDoorDevPara
import Derived.Test.YtkabhbbhliffcaaGreatDoorBldL
import Derived.Deep.DeepCutAuto
import Derived.Deep.CutBlock
namespace Go.Proofs.YtkabhbbhliffcaaGreatDoor
open Go.RowKit Go.Shelf

/-- Where the code ends, in the lines behind the fence. -/
def codeN (r : List (List UInt8)) (k : Nat) : Nat := scan (fun l => !shuts l) r k
theorem shut_code (l : List UInt8) (r : List (List UInt8)) : shutAt (l :: r) 1 = 1 + codeN r 0 := by
  simp [shutAt, codeN, scan]
theorem code_text (l : List UInt8) (r : List (List UInt8)) : fencedT (l :: r) = codeOf (r.take (codeN r 0)) := by
  rw [fencedT, shut_code, Nat.add_comm, List.take_succ_cons, List.drop_succ_cons, List.drop_zero]
theorem code_rest (l : List UInt8) (r : List (List UInt8)) (hn : codeN r 0 ≤ r.length) : (l :: r).drop (fencedN (l :: r)) = r.drop (min (codeN r 0 + 1) r.length) := by
  have e : fencedN (l :: r) = min (codeN r 0 + 1) r.length + 1 := by
    rw [fencedN, shut_code, List.length_cons]
    split <;> omega
  rw [e, List.drop_succ_cons]

set_option maxRecDepth 100000 in
set_option maxHeartbeats 4000000 in
theorem dcode_any (b0 : Nat) (acc0 : List Ev) (g o cap : Nat) (l0 : List UInt8) (r : List (List UInt8)) (W : World) (hT : Told b0 acc0 W) (hlen : acc0.length + 2 ≤ 1099511627776) (hS : Strs g o cap (l0 :: r) W) (hO : ¬ Own b0 W g) (hM : tot (l0 :: r) ≤ 1073741824) :
    Calls Tryz.prog 40 #[.slice (some ⟨g, o, none⟩) (r.length + 1) cap, .func (.func 28) #[] #[.pointer (some ⟨b0, 0, none⟩)]] W fun e w' =>
      (∃ v, e = .returned v ∧ RestV g ((l0 :: r).drop (fencedN (l0 :: r))) w' v) ∧ Told b0 (acc0 ++ leafS 5 0 (fencedT (l0 :: r))) w' ∧ Kp b0 none W.heap.size W w' := by
  have hb0 := hT.lt
  have hglt := hS.lt
  have hfit := hS.fits
  rw [List.length_cons] at hfit
  have hmax := hS.max
  have hn0 : codeN r 0 ≤ r.length := (scan_le _ r 0 (Nat.zero_le _)).1
  rw [tot_cons] at hM
  have hll := tot_len r
  have HM : Hid (tot r ≤ 1073741824) := by show _ ≤ _; omega
  have HT : Hid (Told b0 acc0 W) := hT
  have HO : Hid (¬ Own b0 W g) := hO
  have HF : Hid (∀ (t : List UInt8) w', Told b0 acc0 w' → _) := fun t w' h => leaf_any b0 acc0 5 0 t w' h hlen
  rw [code_text, code_rest l0 r hn0]
  obtain ⟨ct, hct⟩ : ∃ ct, codeOf (r.take (codeN r 0)) = ct := ⟨_, rfl⟩
  obtain ⟨dr, hdr⟩ : ∃ dr, r.drop (min (codeN r 0 + 1) r.length) = dr := ⟨_, rfl⟩
  rw [hct, hdr]
  have HC : Hid (codeOf (r.take (codeN r 0)) = ct ∧ r.drop (min (codeN r 0 + 1) r.length) = dr) := ⟨hct, hdr⟩
  have HB : Hid (Strs g (o + 1) (cap - 1) r W) := hS.drop 1 (by simp)
  have HA : Hid (cap ≤ 1 → Strs g o 0 r W) := fun hc => hS.none o r (by omega)
  clear hT hO hS hct hdr hn0
  go_enter Tryz.func40, Tryz.ntmps40
  go_upto_region 1 with fail
  go_cut [0] (fun v0 wx => wx = W ∧ ∃ o1 cap1, v0 = .slice (some ⟨g, o1, none⟩) r.length cap1 ∧ Strs g o1 cap1 r W)
  case first =>
    go_wp2
    all_goals
      go_meet
      first | exact ⟨rfl, o + 1, cap - 1, rfl, HB.out⟩ | exact ⟨rfl, o, 0, rfl, HA.out (by omega)⟩
  case rest =>
    obtain ⟨hwc, o1, cap1, rfl, hSr⟩ := hcut
    rw [hwc]
    clear hwc
    clear HA HB
    have hfit2 := hSr.fits
    have hmax2 := hSr.max
    go_wp2
    go_loopw [5] (fun i wr => ∃ (k : Nat) (acc : List UInt8), k ≤ r.length ∧ i = .int .i64 k ∧ HasL W.heap.size W.heap.size acc wr ∧ Below W.heap.size W wr ∧ Hid (acc = codeOf (r.take k)) ∧ Hid (codeN r k = codeN r 0)) (fun i _ => r.length - (intOf i).toNat)
    case atStart => exact ⟨0, [], Nat.zero_le _, rfl, Lib.IsBuilderF.of (Lib.fresh_isBuilder 57 5 W), (Below.refl _ W).alloc (Nat.le_refl _) _, (by show _ = _; rfl), (by show _ = _; rfl)⟩
    case round =>
      obtain ⟨k, acc, hk, rfl, hI, hbel, HAc, HN⟩ := hrel
      have hbs := hbel.size
      have hgwr : g < wr.heap.size := by omega
      have hacc : acc.length ≤ 1073741824 := by
        rw [HAc.out, codeOf_len]
        exact Nat.le_trans (tot_take r k) HM.out
      have hfin : codeN r 0 = k → acc = ct := fun h => by rw [← HC.out.1, h]; exact HAc.out
      have hbw : ∀ w1 w2, Below wr.heap.size wr w1 → Below W.heap.size w1 w2 → Below W.heap.size W w2 := fun w1 w2 a b => (hbel.trans (a.mono hbs)).trans b
      by_cases hlt : k < r.length
      · obtain ⟨l, hl⟩ : ∃ l, r[k] = l := ⟨_, rfl⟩
        have hcell := (hSr.below hbel hglt).cell k l (by rw [List.getElem?_eq_getElem hlt, hl])
        have hsz : l.length ≤ 1073741824 := Nat.le_trans (tot_mem (by rw [← hl]; exact List.getElem_mem hlt)) HM.out
        have hcE := fun W => dfenceEnd_any ⟨l.toArray⟩ W (by rw [size_of]; omega)
        have hsh : shuts (⟨l.toArray⟩ : ByteArray).data.toList = shuts l := rfl
        rw [hsh] at hcE
        cases hb : shuts l with
        | true =>
          have hkk : codeN r 0 = k := by
            rw [← HN.out]
            exact scan_at _ r k hlt (by rw [hl, hb]; rfl)
          have hac := hfin hkk
          subst hac
          have hdk : r.drop (k + 1) = dr := by rw [← HC.out.2]; congr 1; omega
          have HE : Hid (∀ w', Kp b0 none W.heap.size W w' → RestV g dr w' (.slice (some ⟨g, o1 + (k + 1), none⟩) (r.length - (k + 1)) (cap1 - (k + 1)))) := fun w' hK => by
            rw [← hdk]
            exact rest_at (hSr.kept hK hglt (by simp) HO.out) (k + 1) (by omega)
          have HE2 : Hid (cap1 ≤ k + 1 → ∀ w', Kp b0 none W.heap.size W w' → RestV g dr w' (.slice (some ⟨g, o1, none⟩) (r.length - (k + 1)) 0)) := fun hc w' hK => by
            rw [← hdk]
            exact rest_no (hSr.kept hK hglt (by simp) HO.out) (k + 1) (by omega) hc
          have hm : min ((k : Int) + 1) (r.length : Int) = (k : Int) + 1 := by omega
          rw [hb] at hcE
          clear hb hsh hl hfin HN hSr hdk
          go_wp2_with (first | (go_at_call 53; refine (hcE _).mono ?_; rintro e w1 ⟨rfl, b1⟩) | (go_at_call 33; refine (hasL_all _ _ _ w1 (hI.below b1) (by have := b1.size; omega)).mono ?_; rintro e w2 ⟨rfl, b2⟩; have hB2 := hbw _ _ b1 b2) | (go_at_call 55; refine (HF.out _ w2 (HT.out.below hB2)).mono ?_; rintro e w5 ⟨rfl, T5, K5⟩))
          all_goals
            have hK : Kp b0 none W.heap.size W w5 := (Kp.below hB2 hb0).trans (K5.mono hB2.size)
            go_ret
            first | exact ⟨⟨_, rfl, HE.out w5 hK⟩, T5, hK⟩ | exact ⟨⟨_, rfl, HE2.out (by omega) w5 hK⟩, T5, hK⟩
        | false =>
          have HN2 : Hid (codeN r (k + 1) = codeN r 0) := by
            show _ = _
            rw [← HN.out]
            exact (scan_lt _ r k hlt (by rw [hl, hb]; rfl)).symm
          have HA2 : Hid (acc ++ l ++ [10] = codeOf (r.take (k + 1))) := by
            show _ = _
            rw [snoc_take r k hlt, codeOf_snoc, hl, ← HAc.out, List.append_assoc]
          rw [hb] at hcE
          clear hb hsh hl hfin HN
          go_wp2_with (first | (go_at_call 53; refine (hcE _).mono ?_; rintro e w1 ⟨rfl, b1⟩; have c1 := (b1.cell (p := ⟨g, _, none⟩) hgwr).trans hcell; have s1 := b1.size) | (go_at_call 54; refine (hasL_string _ _ acc l w1 (hI.below b1) (by omega) (by omega)).mono ?_; rintro e w2 ⟨rfl, i2, b2⟩; have s2 := b2.size) | (go_at_call 31; refine (hasL_byte _ _ (acc ++ l) w2 i2 (by rw [List.length_append]; omega) (by omega)).mono ?_; rintro e w3 ⟨rfl, i3, b3⟩))
          go_roundw
          case rel => exact ⟨k + 1, _, by omega, by go_num, i3, (hbw _ _ b1 b2).trans b3, HA2, HN2⟩
          case measure => simp [intOf]; omega
      · have hkk : codeN r 0 = k := by
          rw [← HN.out]
          exact scan_end _ r k (by omega)
        have hac := hfin hkk
        subst hac
        have hke : k = r.length := by omega
        subst hke
        have hdk : r.drop r.length = dr := by rw [← HC.out.2, hkk]; congr 1; omega
        have HE : Hid (∀ w', Kp b0 none W.heap.size W w' → RestV g dr w' (.slice (some ⟨g, o1 + r.length, none⟩) 0 (cap1 - r.length))) := fun w' hK => by
          have := rest_at (hSr.kept hK hglt (by simp) HO.out) r.length (Nat.le_refl _)
          rw [hdk, Nat.sub_self] at this
          exact this
        have HE2 : Hid (cap1 ≤ r.length → ∀ w', Kp b0 none W.heap.size W w' → RestV g dr w' (.slice (some ⟨g, o1, none⟩) 0 0)) := fun hc w' hK => by
          have := rest_no (hSr.kept hK hglt (by simp) HO.out) r.length (Nat.le_refl _) hc
          rw [hdk, Nat.sub_self] at this
          exact this
        have hm : min ((r.length : Int) + 1) (r.length : Int) = (r.length : Int) := by omega
        clear hfin HN hSr hkk hdk
        go_wp2_with (first | (go_at_call 33; refine (hasL_all _ _ _ _ hI (by omega)).mono ?_; rintro e w2 ⟨rfl, b2⟩; have hB2 := hbel.trans b2) | (go_at_call 55; refine (HF.out _ w2 (HT.out.below hB2)).mono ?_; rintro e w5 ⟨rfl, T5, K5⟩))
        all_goals
          have hK : Kp b0 none W.heap.size W w5 := (Kp.below hB2 hb0).trans (K5.mono hB2.size)
          go_ret
          first | exact ⟨⟨_, rfl, HE.out w5 hK⟩, T5, hK⟩ | exact ⟨⟨_, rfl, HE2.out (by omega) w5 hK⟩, T5, hK⟩

end Go.Proofs.YtkabhbbhliffcaaGreatDoor
