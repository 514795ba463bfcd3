import Derived.Test.YtljcljipppjnoabGreatDoorJL17
import Derived.Deep.CutBlock
import Derived.Deep.DeepCutAuto
namespace Go.Proofs.YtljcljipppjnoabGreatDoor
open Go.RowKit Go.Shelf
theorem cut_pre (l : List UInt8) (n : Nat) : cut l 1 (1 + n) = (l.drop 1).take n := by
  rw [cut, show 1 + n - 1 = n by omega]
theorem cut_mid (l : List UInt8) (n e : Nat) : cut l (1 + n + 2) (1 + n + 2 + e) = ((l.drop 1).drop (n + 2)).take e := by
  rw [cut, List.drop_drop, show 1 + n + 2 + e - (1 + n + 2) = e by omega, show 1 + (n + 2) = 1 + n + 2 by omega]
theorem take_data (s : ByteArray) (n : Nat) : (s.extract 0 n).data.toList = s.data.toList.take n := by
  rw [Lib.extract_data, List.drop_zero, Nat.sub_zero]
set_option maxRecDepth 100000 in
set_option maxHeartbeats 4000000 in
theorem dlink_any (s : ByteArray) (w : World) (h0 : s.data.toList[0]? = some 91) (hs : s.size ≤ 1073741824) :
    Calls Tryz.prog 145 #[.string s] w fun e w' => e = .returned (linkPV s.data.toList (linkS s.data.toList 0)) ∧ Below w.heap.size w w' := by
  have hl := ba_len s
  have h1 : 1 ≤ s.size := by
    have := (List.getElem?_eq_some_iff.1 h0).1
    omega
  obtain ⟨m, hm⟩ : ∃ m, m = s.data.toList.drop 1 := ⟨_, rfl⟩
  obtain ⟨n, hn⟩ : ∃ n, n = firstN (fun x => x == 91 || x == 93) m := ⟨_, rfl⟩
  obtain ⟨e, he⟩ : ∃ e, e = firstN endsL (m.drop (n + 2)) := ⟨_, rfl⟩
  have HL : Hid (linkS s.data.toList 0 = if m[n]? = some 93 ∧ m[n + 1]? = some 40 ∧ (m.drop (n + 2))[e]? = some 41 then some (1 + n, 1 + n + 2 + e) else none) := link_plain s.data.toList h0 m hm n e hn he
  obtain ⟨s1, hs1⟩ : ∃ s1, s.extract 1 s.size = s1 := ⟨_, rfl⟩
  have hd1 : s1.data.toList = m := by rw [← hs1, drop_data, hm]
  have hz1 : s1.size = m.length := by rw [← hd1, ba_len]
  have hmz : m.length = s.size - 1 := by rw [hm, List.length_drop, hl]
  have c1 := fun W => lv_indexAny s1 ⟨#[91, 93]⟩ W (by omega) (by decide) (by decide) (by decide)
  have e1 : (⟨#[91, 93]⟩ : ByteArray).data.toList = [91, 93] := rfl
  rw [e1, hd1, show (fun x => ([91, 93] : List UInt8).contains x) = (fun x => x == 91 || x == 93) from funext ends_of, firstZ, ← hn] at c1
  have HI : Hid ((⟨(cut s.data.toList 1 (1 + n)).toArray⟩ : ByteArray) = s1.extract 0 n) := by
    show _ = _
    apply ByteArray.ext
    apply Array.ext'
    rw [take_data, hd1, cut_pre, ← hm]
  have HD : Hid (∀ s2 : ByteArray, s2.data.toList = m.drop (n + 2) → (⟨(cut s.data.toList (1 + n + 2) (1 + n + 2 + e)).toArray⟩ : ByteArray) = s2.extract 0 e) := fun s2 h2 => by
    apply ByteArray.ext
    apply Array.ext'
    rw [take_data, h2, cut_mid, ← hm]
  have HLN : (¬ (m[n]? = some 93 ∧ m[n + 1]? = some 40 ∧ (m.drop (n + 2))[e]? = some 41)) → Hid (linkPV s.data.toList (linkS s.data.toList 0) = .tuple #[.string ⟨#[]⟩, .string ⟨#[]⟩, .bool false]) := fun h => by
    show _ = _
    rw [HL.out, if_neg h]
    rfl
  have HLY : (m[n]? = some 93 ∧ m[n + 1]? = some 40 ∧ (m.drop (n + 2))[e]? = some 41) → ∀ s2 : ByteArray, s2.data.toList = m.drop (n + 2) → Hid (linkPV s.data.toList (linkS s.data.toList 0) = .tuple #[.string (s1.extract 0 n), .string (s2.extract 0 e), .bool true]) := fun h s2 h2 => by
    show _ = _
    rw [HL.out, if_pos h, ← HI.out, ← HD.out s2 h2]
    rfl
  clear HL HI HD e1 hm h0
  generalize linkPV s.data.toList (linkS s.data.toList 0) = V at HLN HLY ⊢
  have hs1z : s1.size ≤ 1073741824 := by omega
  rw [← hz1] at c1
  by_cases hnl : n < s1.size
  · rw [if_pos hnl] at c1
    have cH := fun W => lv_prefix (s1.extract n s1.size) ⟨#[93, 40]⟩ W
    rw [drop_data, hd1, show (⟨#[93, 40]⟩ : ByteArray).data.toList = [93, 40] from rfl] at cH
    have hpt := pre_two (m.drop n) 93 40
    rw [← at_drop, ← at_drop, Nat.add_zero] at hpt
    cases hb : List.isPrefixOf [93, 40] (m.drop n) with
    | false =>
      have HV := HLN (fun h => by rw [hpt.2 ⟨h.1, h.2.1⟩] at hb; cases hb)
      rw [hb] at cH
      clear HLN HLY hpt hb hn he hd1 hz1 hmz hl
      go_enter Tryz.func145, Tryz.ntmps145
      go_wp2_with (first | (go_at_call 149; refine (c1 _).mono ?_; rintro e w1 ⟨rfl, b1⟩) | (go_at_call 125; refine (cH _).mono ?_; rintro e w' ⟨rfl, hw⟩; rw [hw]; clear hw))
      exact bodyPost_ret (v := .tuple #[.string ⟨#[]⟩, .string ⟨#[]⟩, .bool false]) (by simp [results, Tryz.results145, go_sem]) rfl ⟨by rw [HV.out], b1⟩
    | true =>
      obtain ⟨hp1, hp2⟩ := hpt.1 hb
      have hn2 : n + 2 ≤ s1.size := by
        have := (List.getElem?_eq_some_iff.1 hp2).1
        omega
      rw [hb] at cH
      obtain ⟨s2, hs2⟩ : ∃ s2, s1.extract (n + 2) s1.size = s2 := ⟨_, rfl⟩
      have hd2 : s2.data.toList = m.drop (n + 2) := by rw [← hs2, drop_data, hd1]
      have hz2 : s2.size = m.length - (n + 2) := by rw [← ba_len s2, hd2, List.length_drop]
      have c2 := fun W => lv_indexAny s2 ⟨#[40, 41, 32, 9, 10]⟩ W (by omega) (by decide) (by decide) (by decide)
      have e2 : (⟨#[40, 41, 32, 9, 10]⟩ : ByteArray).data.toList = [40, 41, 32, 9, 10] := rfl
      rw [e2, hd2, show (fun x => ([40, 41, 32, 9, 10] : List UInt8).contains x) = endsL from funext ends_any, firstZ, ← he, ← hd2, ba_len] at c2
      rw [← hd2] at HLN HLY
      have HD2 : Hid (s2.data.toList = m.drop (n + 2)) := hd2
      have hs2z : s2.size ≤ 1073741824 := by omega
      have z2 : IntKind.i64.wrap ((n : Int) + 2) = (n : Int) + 2 := wrap_small _ (by omega) (by omega)
      have z3 : (n : Int) + 2 ≤ (s1.size : Int) := by omega
      have z4 : (n : Int) ≤ (s1.size : Int) := by omega
      have z5 : ((n : Int) + 2).toNat = n + 2 := by omega
      by_cases hel : e < s2.size
      · rw [if_pos hel] at c2
        have hat : s2.data.toList[e]? = some s2[e] := at_some s2 e hel
        have t41 := u8_eq s2[e] 41
        by_cases h41 : s2[e] = 41
        · have HV := HLY ⟨hp1, hp2, by rw [hat, h41]⟩ s2 rfl
          have g41 : ((s2[e].toNat : Int) != 41) = false := by rw [h41]; rfl
          clear HLN HLY hpt hb hn he hd1 hd2 hz1 hmz hl hz2 hat t41 h41 e2 hp1 hp2 HD2
          go_enter Tryz.func145, Tryz.ntmps145
          go_wp2_with (first | (go_at_call 149; refine (c1 _).mono ?_; rintro e w1 ⟨rfl, b1⟩) | (go_at_call 125; refine (cH _).mono ?_; rintro e w' ⟨rfl, hw⟩; rw [hw]; clear hw))
          go_region
          go_wp2_with (go_at_call 149; refine (c2 _).mono ?_; rintro e w2 ⟨rfl, b2⟩)
          have bb : Below w.heap.size w w2 := (b1.drew).trans (b2.mono b1.size)
          have z6 : (e : Int) ≤ (s2.size : Int) := by omega
          go_region
          all_goals go_wp2
          all_goals exact bodyPost_ret (v := .tuple #[.string (s1.extract 0 n), .string (s2.extract 0 e), .bool true]) (by simp [results, Tryz.results145, go_sem]) rfl ⟨by rw [HV.out], bb.drew⟩
        · have HV := HLN (fun h => h41 (by have := h.2.2; rw [hat] at this; exact Option.some.inj this))
          have g41 : ((s2[e].toNat : Int) != 41) = true := by rw [bne, show ((s2[e].toNat : Int) == 41) = (s2[e] == 41) from t41, beq_eq_false_iff_ne.2 h41]; rfl
          clear HLN HLY hpt hb hn he hd1 hd2 hz1 hmz hl hz2 hat t41 h41 e2 hp1 hp2 HD2
          go_enter Tryz.func145, Tryz.ntmps145
          go_wp2_with (first | (go_at_call 149; refine (c1 _).mono ?_; rintro e w1 ⟨rfl, b1⟩) | (go_at_call 125; refine (cH _).mono ?_; rintro e w' ⟨rfl, hw⟩; rw [hw]; clear hw))
          go_region
          go_wp2_with (go_at_call 149; refine (c2 _).mono ?_; rintro e w2 ⟨rfl, b2⟩)
          have bb : Below w.heap.size w w2 := (b1.drew).trans (b2.mono b1.size)
          exact bodyPost_ret (v := .tuple #[.string ⟨#[]⟩, .string ⟨#[]⟩, .bool false]) (by simp [results, Tryz.results145, go_sem]) rfl ⟨by rw [HV.out], bb⟩
      · rw [if_neg hel] at c2
        have HV := HLN (fun h => hel (by have := (List.getElem?_eq_some_iff.1 h.2.2).1; rw [ba_len] at this; exact this))
        clear HLN HLY hpt hb hn he hd1 hd2 hz1 hmz hl hz2 e2 hp1 hp2 HD2
        go_enter Tryz.func145, Tryz.ntmps145
        go_wp2_with (first | (go_at_call 149; refine (c1 _).mono ?_; rintro e w1 ⟨rfl, b1⟩) | (go_at_call 125; refine (cH _).mono ?_; rintro e w' ⟨rfl, hw⟩; rw [hw]; clear hw))
        go_region
        go_wp2_with (go_at_call 149; refine (c2 _).mono ?_; rintro e w2 ⟨rfl, b2⟩)
        have bb : Below w.heap.size w w2 := (b1.drew).trans (b2.mono b1.size)
        exact bodyPost_ret (v := .tuple #[.string ⟨#[]⟩, .string ⟨#[]⟩, .bool false]) (by simp [results, Tryz.results145, go_sem]) rfl ⟨by rw [HV.out], bb⟩
  · rw [if_neg hnl] at c1
    have HV := HLN (fun h => hnl (by rw [hz1]; exact (List.getElem?_eq_some_iff.1 h.1).1))
    clear HLN HLY hn he hd1 hz1 hmz hl
    go_enter Tryz.func145, Tryz.ntmps145
    go_wp2_with (go_at_call 149; refine (c1 _).mono ?_; rintro e w1 ⟨rfl, b1⟩)
    exact bodyPost_ret (v := .tuple #[.string ⟨#[]⟩, .string ⟨#[]⟩, .bool false]) (by simp [results, Tryz.results145, go_sem]) rfl ⟨by rw [HV.out], b1⟩
end Go.Proofs.YtljcljipppjnoabGreatDoor
