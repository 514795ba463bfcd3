import Derived.Test.YtljcljipppjnoaaGreatDoorRows
import Derived.WalkKit
import Derived.WalkSpells
import Derived.WalkLawsBesides
import Derived.Handy
import Derived.Lib.Strings
import Derived.Deep.RegionWith
import Derived.Deep.LoopGhost
namespace Go.Proofs.YtljcljipppjnoaaGreatDoor
open Go.RowKit

/-! Lines, in plain words. -/
def isBl (c : UInt8) : Bool := c == 32 || c == 9
def blankS (s : ByteArray) : Bool := s.data.toList.all isBl
def beginsS (s w : ByteArray) : Bool := w.data.toList.isPrefixOf s.data.toList

theorem take_snoc (s : ByteArray) (k : Nat) (h : k < s.size) : s.data.toList.take (k + 1) = s.data.toList.take k ++ [s[k]] := by
  rw [List.take_succ_eq_append_getElem (by simpa using h)]; rfl
theorem drop_cons (s : ByteArray) (k : Nat) (h : k < s.size) : s.data.toList.drop k = s[k] :: s.data.toList.drop (k + 1) := by
  rw [List.drop_eq_getElem_cons (by simpa using h)]; rfl

theorem u8_eq (c d : UInt8) : ((c.toNat : Int) == (d.toNat : Int)) = (c == d) := by
  rw [Bool.eq_iff_iff, beq_iff_eq, beq_iff_eq]
  constructor
  · intro h
    exact UInt8.toNat_inj.1 (by omega)
  · intro h
    rw [h]

theorem rblank_any (c : UInt8) (w : World) :
    Calls Tryz.prog 63 #[.int .u8 c.toNat] w fun e w' => e = .returned (.bool (isBl c)) ∧ w' = w := by
  by_cases h1 : c = 32
  · subst h1
    go_enter Tryz.func63, Tryz.ntmps63
    go_wp2
    go_ret
    exact ⟨rfl, rfl⟩
  · have k1 : ((c.toNat : Int) == 32) = false := by
      have := u8_eq c 32
      rw [beq_eq_false_iff_ne.2 h1] at this
      exact this
    have hb : isBl c = (c == 9) := by
      have : (c == 32) = false := by rw [beq_eq_false_iff_ne]; exact h1
      simp [isBl, this]
    have k2 : ((c.toNat : Int) == 9) = (c == 9) := u8_eq c 9
    have H : Hid (isBl c = (c == 9)) := hb
    clear hb h1
    go_enter Tryz.func63, Tryz.ntmps63
    go_wp2
    go_ret
    rw [H.out]
    exact ⟨rfl, rfl⟩

set_option maxHeartbeats 400000 in
theorem rBlank_any (s : ByteArray) (w : World) (hs : s.size ≤ 4611686018427387904) :
    Calls Tryz.prog 36 #[.string s] w fun e w' => e = .returned (.bool (blankS s)) ∧ w' = w := by
  go_enter Tryz.func36, Tryz.ntmps36
  go_wp2
  go_loop [3] (fun i => ∃ k : Nat, k ≤ s.size ∧ i = .int .i64 k ∧ Hid ((s.data.toList.take k).all isBl = true)) (fun i => s.size - (intOf i).toNat)
  case atStart => exact ⟨0, Nat.zero_le _, rfl, (by show _ = _; simp)⟩
  case round =>
    obtain ⟨k, hk, rfl, ha⟩ := hrel
    by_cases hlt : k < s.size
    · cases hb : isBl s[k] with
      | true =>
        have hc := fun W => rblank_any s[k] W
        rw [hb] at hc
        have HB : Hid (isBl s[k] = true) := hb
        clear hb
        go_wp2_with (go_at_call 63; refine (hc _).mono ?_; rintro e w' ⟨rfl, rfl⟩)
        go_round
        case rel =>
          refine ⟨k + 1, by omega, by go_num, ?_⟩
          show _ = _
          rw [take_snoc s k hlt, List.all_append, ha.out]
          simp [HB.out]
        case measure => simp [intOf]; omega
      | false =>
        have hc := fun W => rblank_any s[k] W
        rw [hb] at hc
        have hno : Hid (blankS s = false) := by
          show _ = _
          unfold blankS
          rw [← List.take_append_drop k s.data.toList, List.all_append, drop_cons s k hlt]
          simp [hb]
        clear hb
        go_wp2_with (go_at_call 63; refine (hc _).mono ?_; rintro e w' ⟨rfl, rfl⟩)
        go_ret
        rw [hno.out]
        exact ⟨rfl, rfl⟩
    · go_wp2
      go_ret
      have : blankS s = true := by
        unfold blankS
        have := ha.out
        rwa [List.take_of_length_le (by simp; omega)] at this
      rw [this]
      exact ⟨rfl, rfl⟩

theorem list_of (s : ByteArray) : s.toList = s.data.toList := by
  have h := Lib.extract_toList s 0 s.size
  have e : s.extract 0 s.size = s := by
    apply ByteArray.ext
    rw [ByteArray.data_extract]
    exact Array.extract_size
  rw [e] at h
  rw [h, List.drop_zero, Nat.sub_zero, List.take_of_length_le]
  rw [Array.length_toList]
  exact Nat.le_refl _

theorem begins_eq (s p : ByteArray) : ((s.extract 0 p.size).toList == p.toList) = beginsS s p := by
  rw [Lib.extract_toList, list_of, List.drop_zero, Nat.sub_zero, Bool.eq_iff_iff, beq_iff_eq]
  unfold beginsS
  rw [List.isPrefixOf_iff_prefix, List.prefix_iff_eq_take]
  have hl : p.data.toList.length = p.size := by rw [Array.length_toList]; rfl
  rw [hl]
  exact ⟨Eq.symm, Eq.symm⟩

theorem begins_short (s p : ByteArray) (h : ¬ p.size ≤ s.size) : beginsS s p = false := by
  rw [Bool.eq_false_iff]
  intro h1
  unfold beginsS at h1
  rw [List.isPrefixOf_iff_prefix] at h1
  have := h1.length_le
  rw [Array.length_toList, Array.length_toList] at this
  exact h this

set_option maxHeartbeats 400000 in
theorem begins_any (s p : ByteArray) (w : World) :
    Calls Tryz.prog 64 #[.string s, .string p] w fun e w' => e = .returned (.bool (beginsS s p)) ∧ w' = w := by
  by_cases h : p.size ≤ s.size
  · go_enter Tryz.func64, Tryz.ntmps64
    go_wp2
    go_ret
    exact ⟨by rw [← begins_eq s p]; rfl, rfl⟩
  · have HN : Hid (beginsS s p = false) := begins_short s p h
    go_enter Tryz.func64, Tryz.ntmps64
    go_wp2
    go_ret
    exact ⟨by rw [HN.out]; rfl, rfl⟩

def itemS (s : ByteArray) : Bool := (s.toList == [45]) || beginsS s ⟨#[45, 32]⟩ || beginsS s ⟨#[45, 9]⟩

set_option maxHeartbeats 400000 in
theorem ritem_any (s : ByteArray) (w : World) :
    Calls Tryz.prog 65 #[.string s] w fun e w' => e = .returned (.bool (itemS s)) ∧ w' = w := by
  have c1 := fun W => begins_any s ⟨#[45, 32]⟩ W
  have c2 := fun W => begins_any s ⟨#[45, 9]⟩ W
  cases h1 : (s.toList == [45]) with
  | true =>
    have H : Hid (itemS s = true) := by show _ = _; simp [itemS, h1]
    go_enter Tryz.func65, Tryz.ntmps65
    go_wp2
    go_ret
    exact ⟨by rw [H.out]; rfl, rfl⟩
  | false =>
    cases h2 : beginsS s ⟨#[45, 32]⟩ with
    | true =>
      have H : Hid (itemS s = true) := by show _ = _; simp [itemS, h2]
      rw [h2] at c1
      clear h2 c2
      go_enter Tryz.func65, Tryz.ntmps65
      go_wp2_with (go_at_call 64; refine (c1 _).mono ?_; rintro e w' ⟨rfl, rfl⟩)
      go_ret
      exact ⟨by rw [H.out]; rfl, rfl⟩
    | false =>
      have H : Hid (itemS s = beginsS s ⟨#[45, 9]⟩) := by show _ = _; simp [itemS, h1, h2]
      rw [h2] at c1
      clear h2
      generalize beginsS s ⟨#[45, 9]⟩ = b3 at c2 H
      go_enter Tryz.func65, Tryz.ntmps65
      go_wp2_with (first | (go_at_call_of 64 (Value.string { data := #[45, 32] }); refine (c1 _).mono ?_; rintro e w' ⟨rfl, rfl⟩) | (go_at_call_of 64 (Value.string { data := #[45, 9] }); refine (c2 _).mono ?_; rintro e w' ⟨rfl, rfl⟩))
      go_ret
      exact ⟨by rw [H.out]; rfl, rfl⟩

/-- A line without blanks at either end. -/
def trimL (l : List UInt8) : List UInt8 := ((l.dropWhile isBl).reverse.dropWhile isBl).reverse
def trimS (s : ByteArray) : ByteArray := ⟨(trimL s.data.toList).toArray⟩

theorem ext_tail (s : ByteArray) (h : 0 < s.size) : s.data.toList = s[0] :: (s.extract 1 s.size).data.toList := by
  have := drop_cons s 0 h
  rw [List.drop_zero] at this
  rw [this, Lib.extract_data, List.take_of_length_le]
  rw [List.length_drop, Array.length_toList]
  exact Nat.le_refl _
theorem ext_init (s : ByteArray) (h : 0 < s.size) : s.data.toList = (s.extract 0 (s.size - 1)).data.toList ++ [s[s.size - 1]] := by
  have := take_snoc s (s.size - 1) (by omega)
  rw [show s.size - 1 + 1 = s.size by omega, List.take_of_length_le (by rw [Array.length_toList]; exact Nat.le_refl _)] at this
  rw [this, Lib.extract_data]
  simp

theorem u8_bl (c : UInt8) : isBl c = (((c.toNat : Int) == 32) || ((c.toNat : Int) == 9)) := by
  have h1 := u8_eq c 32
  have h2 := u8_eq c 9
  unfold isBl
  rw [← h1, ← h2]
  rfl

set_option maxHeartbeats 1000000 in
theorem rtrim_any (s : ByteArray) (w : World) (hs : s.size ≤ 4611686018427387904) :
    Calls Tryz.prog 40 #[.string s] w fun e w' => e = .returned (.string (trimS s)) ∧ w' = w := by
  go_enter Tryz.func40, Tryz.ntmps40
  go_wp2
  go_loopg [0] s.size (fun gk t wr => ∃ r : ByteArray, t = .string r ∧ r.size ≤ gk ∧ wr = w ∧ Hid (r.data.toList.dropWhile isBl = s.data.toList.dropWhile isBl) ∧ r.size ≤ s.size)
  case atStart => exact ⟨s, rfl, Nat.le_refl _, rfl, (by show _ = _; rfl), Nat.le_refl _⟩
  case round =>
    obtain ⟨r, rfl, hrk, rfl, hr, hrs⟩ := hrel
    by_cases hgo : ∃ h0 : 0 < r.size, isBl (r[0]'h0) = true
    · obtain ⟨h0, hb0⟩ := hgo
      have hb := u8_bl r[0]
      rw [hb0] at hb
      have hz : (r.extract 1 r.size).size = r.size - 1 := by simp
      have HN : Hid ((r.extract 1 r.size).data.toList.dropWhile isBl = s.data.toList.dropWhile isBl ∧ (r.extract 1 r.size).size = r.size - 1) := by
        refine ⟨?_, hz⟩
        rw [← hr.out]
        conv => rhs; rw [ext_tail r h0]
        rw [List.dropWhile_cons, if_pos hb0]
      clear hb0 hz
      by_cases k1 : ((r[0].toNat : Int) == 32) = true
      · clear hb
        go_wp2
        go_roundg (r.size - 1)
        case measure => omega
        case rel => exact ⟨_, rfl, by rw [HN.out.2]; exact Nat.le_refl _, rfl, HN.out.1, by rw [HN.out.2]; omega⟩
      · have k1' : ((r[0].toNat : Int) == 32) = false := by simpa using k1
        have k2 : ((r[0].toNat : Int) == 9) = true := by rw [k1'] at hb; simpa using hb.symm
        clear hb k1
        go_wp2
        go_roundg (r.size - 1)
        case measure => omega
        case rel => exact ⟨_, rfl, by rw [HN.out.2]; exact Nat.le_refl _, rfl, HN.out.1, by rw [HN.out.2]; omega⟩
    · have HR : Hid (r.data.toList = s.data.toList.dropWhile isBl) := by
        show _ = _
        rw [← hr.out]
        by_cases h0 : 0 < r.size
        · conv => rhs; rw [ext_tail r h0]
          rw [List.dropWhile_cons, if_neg (fun hh => hgo ⟨h0, hh⟩), ← ext_tail r h0]
        · have : r.data.toList = [] := by
            rw [← List.length_eq_zero_iff, Array.length_toList]
            show r.size = 0
            omega
          rw [this]
          rfl
      have hgo' : ∀ h0 : 0 < r.size, ((r[0].toNat : Int) == 32) = false ∧ ((r[0].toNat : Int) == 9) = false := by
        intro h0
        have hb := u8_bl r[0]
        rw [Bool.eq_false_iff.2 (fun hh => hgo ⟨h0, hh⟩)] at hb
        simpa using hb.symm
      have HG : Hid _ := hgo'
      clear hgo hgo' hr hrk
      by_cases h0 : 0 < r.size
      · obtain ⟨k1, k2⟩ := HG.out h0
        clear HG
        go_wp2
        clear k1 k2
        go_loopg [0] r.size (fun gk t wr2 => ∃ q : ByteArray, t = .string q ∧ q.size ≤ gk ∧ wr2 = wr ∧ Hid (q.data.toList.reverse.dropWhile isBl = (s.data.toList.dropWhile isBl).reverse.dropWhile isBl) ∧ q.size ≤ s.size)
        case atStart => exact ⟨r, rfl, Nat.le_refl _, rfl, (by show _ = _; rw [HR.out]), hrs⟩
        case round =>
          obtain ⟨q, rfl, hqk, rfl, hq, hqs⟩ := hrel
          clear HR hrs
          by_cases hgo : ∃ h0 : 0 < q.size, isBl (q[q.size - 1]'(by omega)) = true
          · obtain ⟨h0, hb0⟩ := hgo
            have hb := u8_bl q[q.size - 1]
            rw [hb0] at hb
            have hz : (q.extract 0 (q.size - 1)).size = q.size - 1 := by simp
            have HN : Hid ((q.extract 0 (q.size - 1)).data.toList.reverse.dropWhile isBl = (s.data.toList.dropWhile isBl).reverse.dropWhile isBl ∧ (q.extract 0 (q.size - 1)).size = q.size - 1) := by
              refine ⟨?_, hz⟩
              rw [← hq.out]
              conv => rhs; rw [ext_init q h0, List.reverse_append]
              rw [List.reverse_singleton, List.singleton_append, List.dropWhile_cons, if_pos hb0]
            have hidx : ((q.size : Int) - 1).toNat = q.size - 1 := by omega
            clear hb0 hz
            by_cases k1 : ((q[q.size - 1].toNat : Int) == 32) = true
            · clear hb
              go_wp2
              go_roundg (q.size - 1)
              case measure => omega
              case rel => exact ⟨_, rfl, by rw [HN.out.2]; exact Nat.le_refl _, rfl, HN.out.1, by rw [HN.out.2]; omega⟩
            · have k1' : ((q[q.size - 1].toNat : Int) == 32) = false := by simpa using k1
              have k2 : ((q[q.size - 1].toNat : Int) == 9) = true := by rw [k1'] at hb; simpa using hb.symm
              clear hb k1
              go_wp2
              go_roundg (q.size - 1)
              case measure => omega
              case rel => exact ⟨_, rfl, by rw [HN.out.2]; exact Nat.le_refl _, rfl, HN.out.1, by rw [HN.out.2]; omega⟩
          · have HE : Hid (q = trimS s) := by
              show _ = _
              unfold trimS trimL
              rw [← hq.out]
              apply ByteArray.ext
              apply Array.ext'
              by_cases h0 : 0 < q.size
              · have e := ext_init q h0
                conv => rhs; rw [e, List.reverse_append]
                simp only [List.reverse_singleton, List.singleton_append]
                rw [List.dropWhile_cons, if_neg (fun hh => hgo ⟨h0, hh⟩)]
                simp only [List.reverse_cons, List.reverse_reverse]
                exact e
              · have e : q.data.toList = [] := by
                  rw [← List.length_eq_zero_iff, Array.length_toList]
                  show q.size = 0
                  omega
                simp [e]
            have hgo' : ∀ h0 : 0 < q.size, ((q[q.size - 1].toNat : Int) == 32) = false ∧ ((q[q.size - 1].toNat : Int) == 9) = false := by
              intro h0
              have hb := u8_bl q[q.size - 1]
              rw [Bool.eq_false_iff.2 (fun hh => hgo ⟨h0, hh⟩)] at hb
              simpa using hb.symm
            have HG : Hid _ := hgo'
            clear hgo hgo' hq hqk
            by_cases h1 : 0 < q.size
            · obtain ⟨k1, k2⟩ := HG.out h1
              have hidx : ((q.size : Int) - 1).toNat = q.size - 1 := by omega
              clear HG
              go_wp2
              go_ret
              exact ⟨by rw [← HE.out]; rfl, rfl⟩
            · clear HG
              go_wp2
              go_ret
              exact ⟨by rw [← HE.out]; rfl, rfl⟩
      · clear HG
        go_wp2
        go_loopg [0] r.size (fun gk t wr2 => ∃ q : ByteArray, t = .string q ∧ q.size ≤ gk ∧ wr2 = wr ∧ Hid (q.data.toList.reverse.dropWhile isBl = (s.data.toList.dropWhile isBl).reverse.dropWhile isBl) ∧ q.size ≤ s.size)
        case atStart => exact ⟨r, rfl, Nat.le_refl _, rfl, (by show _ = _; rw [HR.out]), hrs⟩
        case round =>
          obtain ⟨q, rfl, hqk, rfl, hq, hqs⟩ := hrel
          clear HR hrs
          by_cases hgo : ∃ h0 : 0 < q.size, isBl (q[q.size - 1]'(by omega)) = true
          · obtain ⟨h0, hb0⟩ := hgo
            have hb := u8_bl q[q.size - 1]
            rw [hb0] at hb
            have hz : (q.extract 0 (q.size - 1)).size = q.size - 1 := by simp
            have HN : Hid ((q.extract 0 (q.size - 1)).data.toList.reverse.dropWhile isBl = (s.data.toList.dropWhile isBl).reverse.dropWhile isBl ∧ (q.extract 0 (q.size - 1)).size = q.size - 1) := by
              refine ⟨?_, hz⟩
              rw [← hq.out]
              conv => rhs; rw [ext_init q h0, List.reverse_append]
              rw [List.reverse_singleton, List.singleton_append, List.dropWhile_cons, if_pos hb0]
            have hidx : ((q.size : Int) - 1).toNat = q.size - 1 := by omega
            clear hb0 hz
            by_cases k1 : ((q[q.size - 1].toNat : Int) == 32) = true
            · clear hb
              go_wp2
              go_roundg (q.size - 1)
              case measure => omega
              case rel => exact ⟨_, rfl, by rw [HN.out.2]; exact Nat.le_refl _, rfl, HN.out.1, by rw [HN.out.2]; omega⟩
            · have k1' : ((q[q.size - 1].toNat : Int) == 32) = false := by simpa using k1
              have k2 : ((q[q.size - 1].toNat : Int) == 9) = true := by rw [k1'] at hb; simpa using hb.symm
              clear hb k1
              go_wp2
              go_roundg (q.size - 1)
              case measure => omega
              case rel => exact ⟨_, rfl, by rw [HN.out.2]; exact Nat.le_refl _, rfl, HN.out.1, by rw [HN.out.2]; omega⟩
          · have HE : Hid (q = trimS s) := by
              show _ = _
              unfold trimS trimL
              rw [← hq.out]
              apply ByteArray.ext
              apply Array.ext'
              by_cases h0 : 0 < q.size
              · have e := ext_init q h0
                conv => rhs; rw [e, List.reverse_append]
                simp only [List.reverse_singleton, List.singleton_append]
                rw [List.dropWhile_cons, if_neg (fun hh => hgo ⟨h0, hh⟩)]
                simp only [List.reverse_cons, List.reverse_reverse]
                exact e
              · have e : q.data.toList = [] := by
                  rw [← List.length_eq_zero_iff, Array.length_toList]
                  show q.size = 0
                  omega
                simp [e]
            have hgo' : ∀ h0 : 0 < q.size, ((q[q.size - 1].toNat : Int) == 32) = false ∧ ((q[q.size - 1].toNat : Int) == 9) = false := by
              intro h0
              have hb := u8_bl q[q.size - 1]
              rw [Bool.eq_false_iff.2 (fun hh => hgo ⟨h0, hh⟩)] at hb
              simpa using hb.symm
            have HG : Hid _ := hgo'
            clear hgo hgo' hq hqk
            by_cases h1 : 0 < q.size
            · obtain ⟨k1, k2⟩ := HG.out h1
              have hidx : ((q.size : Int) - 1).toNat = q.size - 1 := by omega
              clear HG
              go_wp2
              go_ret
              exact ⟨by rw [← HE.out]; rfl, rfl⟩
            · clear HG
              go_wp2
              go_ret
              exact ⟨by rw [← HE.out]; rfl, rfl⟩

end Go.Proofs.YtljcljipppjnoaaGreatDoor
