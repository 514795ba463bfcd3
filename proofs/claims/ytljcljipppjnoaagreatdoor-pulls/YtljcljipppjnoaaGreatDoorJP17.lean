import Derived.Lib.RuneBytes
import Derived.Laws.RangeAny
import Derived.Laws.Runes
namespace Go.Proofs.YtljcljipppjnoaaGreatDoor

/-- Is there a line feed at place p? -/
def lfAt (s : ByteArray) (p : Nat) : Bool := decide (p < s.size) && (s.get! p == 10)

/-- What one rune at place p comes to, by the document's own answer. -/
def regAt (s : ByteArray) (p : Nat) : List UInt8 :=
  if (Utf8.decode s p).1 = 0 ∨ (Utf8.decode s p).1 = 65533 then [239, 191, 189]
  else if (Utf8.decode s p).1 = 13 then (if lfAt s (p + 1) = true then [] else [10])
  else Lib.encodeRune (Utf8.decode s p).1
def regFrom (s : ByteArray) : Nat → Nat → List UInt8
  | 0, _ => []
  | f + 1, p => if p < s.size then regAt s p ++ regFrom s f (p + (Utf8.decode s p).2) else []
/-- The regular text of some bytes. -/
def reg (s : ByteArray) : List UInt8 := regFrom s s.size 0

/-- The same, with a flag in the place of a look ahead. -/
def txtAt (s : ByteArray) (b : Bool) (p : Nat) : List UInt8 :=
  if (Utf8.decode s p).1 = 13 then [10]
  else if (Utf8.decode s p).1 = 10 ∧ b = true then []
  else if (Utf8.decode s p).1 = 0 then Lib.encodeRune 65533
  else Lib.encodeRune (Utf8.decode s p).1
def txtFrom (s : ByteArray) : Nat → Bool → Nat → List UInt8
  | 0, _, _ => []
  | f + 1, b, p => if p < s.size then txtAt s b p ++ txtFrom s f (decide ((Utf8.decode s p).1 = 13)) (p + (Utf8.decode s p).2) else []

theorem get_bang (s : ByteArray) (p : Nat) (h : p < s.size) : s.get! p = s[p]'h := by
  simpa using get_at s p h

theorem width_pos (s : ByteArray) (p : Nat) (h : p < s.size) : 1 ≤ (Utf8.decode s p).2 := by
  by_cases ha : (s[p]'h).toNat < 128
  · rw [decode_ascii s p h ha]
    exact Nat.le_refl _
  · exact (decode_high s p h (by omega)).2

/-- A rune below 128 is its byte, and its width is one. -/
theorem low_rune (s : ByteArray) (p : Nat) (h : p < s.size) (hr : (Utf8.decode s p).1 < 128) : (s.get! p).toNat = (Utf8.decode s p).1 ∧ (Utf8.decode s p).2 = 1 := by
  by_cases ha : (s[p]'h).toNat < 128
  · rw [decode_ascii s p h ha, get_bang s p h]
    exact ⟨rfl, rfl⟩
  · have := (decode_high s p h (by omega)).1
    omega

theorem low_byte (s : ByteArray) (p : Nat) (h : p < s.size) (hb : (s.get! p).toNat < 128) : (Utf8.decode s p).1 = (s.get! p).toNat := by
  rw [get_bang s p h] at hb ⊢
  rw [decode_ascii s p h hb]

theorem lfAt_iff (s : ByteArray) (p : Nat) (h : p < s.size) : lfAt s p = true ↔ (Utf8.decode s p).1 = 10 := by
  unfold lfAt
  constructor
  · intro hh
    simp [h] at hh
    have := low_byte s p h (by rw [hh]; decide)
    rw [this, hh]
    rfl
  · intro hr
    have := (low_rune s p h (by omega)).1
    simp [h]
    apply UInt8.toNat_inj.1
    rw [this, hr]
    rfl

theorem lfAt_end (s : ByteArray) (p : Nat) (h : ¬ p < s.size) : lfAt s p = false := by simp [lfAt, h]

theorem enc_bad : Lib.encodeRune 65533 = [239, 191, 189] := by decide
theorem enc_lf : Lib.encodeRune 10 = [10] := by decide

theorem txt_reg (s : ByteArray) : ∀ (f p : Nat) (b : Bool), s.size ≤ p + f →
    (if b = true ∧ lfAt s p = true then [10] else []) ++ txtFrom s f b p = regFrom s f p := by
  intro f
  induction f with
  | zero =>
    intro p b h
    have : lfAt s p = false := lfAt_end s p (by omega)
    simp [txtFrom, regFrom, this]
  | succ f ih =>
    intro p b h
    by_cases hp : p < s.size
    · have hw := width_pos s p hp
      have hlf := lfAt_iff s p hp
      have ih' := ih (p + (Utf8.decode s p).2) (decide ((Utf8.decode s p).1 = 13)) (by omega)
      simp only [txtFrom, regFrom, if_pos hp]
      rw [← ih']
      by_cases h13 : (Utf8.decode s p).1 = 13
      · have hw1 := (low_rune s p hp (by omega)).2
        have hnl : lfAt s p = false := by
          cases hl : lfAt s p with
          | false => rfl
          | true => have := hlf.1 hl; omega
        simp only [txtAt, regAt, hnl, hw1, h13, decide_true]
        cases lfAt s (p + 1) <;> simp
      · have hd : decide ((Utf8.decode s p).1 = 13) = false := by simp [h13]
        rw [hd]
        by_cases h10 : (Utf8.decode s p).1 = 10
        · have hl : lfAt s p = true := hlf.2 h10
          simp only [txtAt, regAt, hl, h10]
          cases b <;> simp [enc_lf]
        · have hl : lfAt s p = false := by
            cases hl : lfAt s p with
            | false => rfl
            | true => exact absurd (hlf.1 hl) h10
          have hn : ¬ ((Utf8.decode s p).1 = 10 ∧ b = true) := fun x => h10 x.1
          simp only [txtAt, regAt, if_neg h13, if_neg hn, hl]
          by_cases h0 : (Utf8.decode s p).1 = 0
          · simp [h0, enc_bad]
          · by_cases hb : (Utf8.decode s p).1 = 65533
            · simp [hb, enc_bad]
            · simp [h0, hb]
    · have hl : lfAt s p = false := lfAt_end s p hp
      simp [txtFrom, regFrom, hp, hl]

theorem txt_eq (s : ByteArray) : txtFrom s s.size false 0 = reg s := by
  have := txt_reg s s.size 0 false (by omega)
  simpa [reg] using this

theorem txtFrom_end (s : ByteArray) (f : Nat) (b : Bool) (p : Nat) (h : ¬ p < s.size) : txtFrom s f b p = [] := by
  cases f with
  | zero => rfl
  | succ f => simp [txtFrom, h]
theorem regFrom_end (s : ByteArray) (f p : Nat) (h : ¬ p < s.size) : regFrom s f p = [] := by
  cases f with
  | zero => rfl
  | succ f => simp [regFrom, h]

theorem encodeRune_len (r : Int) : (Lib.encodeRune r).length ≤ 4 := by
  have := Lib.encodeRuneZ_length r
  simp [Lib.encodeRune]; omega
theorem regAt_len (s : ByteArray) (p : Nat) : (regAt s p).length ≤ 4 := by
  unfold regAt
  have := encodeRune_len (Utf8.decode s p).1
  split
  · simp
  · split
    · split <;> simp
    · exact this

theorem u8_of (a : Int) (b : Nat) (h : a = (b : Int)) : a.toNat.toUInt8 = UInt8.ofNat b := by
  subst h
  rfl
/-- The model's own encoder is the shelf's. -/
theorem encode_list (r : Nat) : (Utf8.encode (r : Int)).data.toList = Lib.encodeRune (r : Int) := by
  unfold Lib.encodeRune
  by_cases c1 : r < 128
  · have v : Utf8.valid (r : Int) = true := by simp [Utf8.valid]; omega
    rw [Lib.encodeRuneZ_one (by omega) (by omega)]
    simp [Utf8.encode, v, c1]
  by_cases c2 : r < 2048
  · have v : Utf8.valid (r : Int) = true := by simp [Utf8.valid]; omega
    rw [Lib.encodeRuneZ_two (by omega) (by omega)]
    simp only [List.map_cons, List.map_nil]
    rw [u8_of _ (192 + r / 64) (by omega), u8_of _ (128 + r % 64) (by omega)]
    simp [Utf8.encode, v, c1, c2]
  by_cases hb : (55296 ≤ r ∧ r ≤ 57343) ∨ 1114111 < r
  · have v : Utf8.valid (r : Int) = false := by simp [Utf8.valid]; omega
    rw [Lib.encodeRuneZ_bad (by omega)]
    simp [Utf8.encode, v, Utf8.runeError]
  have v : Utf8.valid (r : Int) = true := by simp [Utf8.valid]; omega
  by_cases c3 : r < 65536
  · rw [Lib.encodeRuneZ_three (by omega)]
    simp only [List.map_cons, List.map_nil]
    rw [u8_of _ (224 + r / 4096) (by omega), u8_of _ (128 + r / 64 % 64) (by omega), u8_of _ (128 + r % 64) (by omega)]
    simp [Utf8.encode, v, c1, c2, c3]
  · rw [Lib.encodeRuneZ_four (by omega) (by omega)]
    simp only [List.map_cons, List.map_nil]
    rw [u8_of _ (240 + r / 262144) (by omega), u8_of _ (128 + r / 4096 % 64) (by omega), u8_of _ (128 + r / 64 % 64) (by omega), u8_of _ (128 + r % 64) (by omega)]
    simp [Utf8.encode, v, c1, c2, c3]

end Go.Proofs.YtljcljipppjnoaaGreatDoor
