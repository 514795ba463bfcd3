import Derived.Test.YtljcljipppjnoaaDoorLvAny
namespace Go.Proofs.YtljcljipppjnoaaDoor
open Go.RowKit Go.Shelf

theorem drop_data (s : ByteArray) (k : Nat) : (s.extract k s.size).data.toList = s.data.toList.drop k := by
  rw [Lib.extract_data, List.take_of_length_le]
  rw [List.length_drop, ba_len]
  exact Nat.le_refl _

/-- How long a backslash and its sign are. -/
def escN (l : List UInt8) : Nat := if l[1]?.map signS = some true then 2 else 0
/-- How long a code is. -/
def codN (l : List UInt8) : Nat := if nextAt l 96 1 < l.length then nextAt l 96 1 + 1 else 0

set_option maxRecDepth 100000 in
set_option maxHeartbeats 2000000 in
theorem esc_any (s : ByteArray) (w : World) (hs : s.size ≤ 1073741824) :
    Calls Tryd.prog 69 #[.string s] w fun e w' => e = .returned (.int .i64 (escN s.data.toList)) ∧ w' = w := by
  by_cases h1 : 1 < s.size
  · have hat : s.data.toList[1]? = some s[1] := at_some s 1 h1
    have c1 := fun W => lv_indexByte ⟨#[33, 34, 35, 36, 37, 38, 39, 40, 41, 42, 43, 44, 45, 46, 47, 58, 59, 60, 61, 62, 63, 64, 91, 92, 93, 94, 95, 96, 123, 124, 125, 126]⟩ (s[1].toNat : Int) W
    have hback : (((s[1]).toNat : Int)).toNat.toUInt8 = s[1] := by simp
    have hcon := Lib.contains_iff_indexByte [33, 34, 35, 36, 37, 38, 39, 40, 41, 42, 43, 44, 45, 46, 47, 58, 59, 60, 61, 62, 63, 64, 91, 92, 93, 94, 95, 96, 123, 124, 125, 126] s[1]
    rw [signs_any] at hcon
    rw [hback] at c1
    have e1 : (⟨#[33, 34, 35, 36, 37, 38, 39, 40, 41, 42, 43, 44, 45, 46, 47, 58, 59, 60, 61, 62, 63, 64, 91, 92, 93, 94, 95, 96, 123, 124, 125, 126]⟩ : ByteArray).data.toList = [33, 34, 35, 36, 37, 38, 39, 40, 41, 42, 43, 44, 45, 46, 47, 58, 59, 60, 61, 62, 63, 64, 91, 92, 93, 94, 95, 96, 123, 124, 125, 126] := rfl
    rw [e1] at c1
    have HE : Hid (escN s.data.toList = if signS s[1] = true then 2 else 0) := by
      show _ = _
      rw [escN, hat]
      simp
    generalize Lib.indexByte [33, 34, 35, 36, 37, 38, 39, 40, 41, 42, 43, 44, 45, 46, 47, 58, 59, 60, 61, 62, 63, 64, 91, 92, 93, 94, 95, 96, 123, 124, 125, 126] s[1] = z at c1 hcon
    clear hat hback e1
    cases hb : signS s[1] with
    | true =>
      rw [hb] at hcon HE
      have hz : (0 : Int) ≤ z := of_decide_eq_true hcon.symm
      have HE2 : Hid (escN s.data.toList = 2) := by show _ = _; rw [HE.out]; rfl
      clear hb hcon HE
      go_enter Tryd.func69, Tryd.ntmps69
      go_wp2_with (go_at_call 79; refine (c1 _).mono ?_; rintro e w' ⟨rfl, hw⟩; rw [hw]; clear hw)
      go_ret
      exact ⟨by rw [HE2.out]; rfl, rfl⟩
    | false =>
      rw [hb] at hcon HE
      have hz : ¬ (0 : Int) ≤ z := of_decide_eq_false hcon.symm
      have HE2 : Hid (escN s.data.toList = 0) := by show _ = _; rw [HE.out]; rfl
      clear hb hcon HE
      go_enter Tryd.func69, Tryd.ntmps69
      go_wp2_with (go_at_call 79; refine (c1 _).mono ?_; rintro e w' ⟨rfl, hw⟩; rw [hw]; clear hw)
      go_ret
      exact ⟨by rw [HE2.out]; rfl, rfl⟩
  · have HE2 : Hid (escN s.data.toList = 0) := by
      show _ = _
      rw [escN, at_none s 1 h1]
      rfl
    go_enter Tryd.func69, Tryd.ntmps69
    go_wp2
    go_ret
    exact ⟨by rw [HE2.out]; rfl, rfl⟩

set_option maxRecDepth 100000 in
set_option maxHeartbeats 2000000 in
theorem cod_any (s : ByteArray) (w : World) (h1 : 1 ≤ s.size) (hs : s.size ≤ 1073741824) :
    Calls Tryd.prog 70 #[.string s] w fun e w' => e = .returned (.int .i64 (codN s.data.toList)) ∧ w' = w := by
  have hl := ba_len s
  have c1 := fun W => lv_indexByte (s.extract 1 s.size) 96 W
  have e1 : (96 : Int).toNat.toUInt8 = 96 := rfl
  rw [e1, drop_data, ib_first] at c1
  have hn := next_first s.data.toList 96 1
  have hle := firstN_le (fun x => x == 96) (s.data.toList.drop 1)
  rw [List.length_drop, hl] at hle
  by_cases h : firstN (fun x => x == 96) (s.data.toList.drop 1) < s.size - 1
  · have hz : firstZ (fun x => x == 96) (s.data.toList.drop 1) = (firstN (fun x => x == 96) (s.data.toList.drop 1) : Int) := by rw [firstZ, if_pos (by rw [List.length_drop, hl]; exact h)]
    have HE : Hid (codN s.data.toList = firstN (fun x => x == 96) (s.data.toList.drop 1) + 2) := by
      show _ = _
      rw [codN, hn, if_pos (by omega)]
      omega
    rw [hz] at c1
    generalize firstN (fun x => x == 96) (s.data.toList.drop 1) = n at c1 HE h
    clear hz hn hle e1
    go_enter Tryd.func70, Tryd.ntmps70
    go_wp2_with (go_at_call 79; refine (c1 _).mono ?_; rintro e w' ⟨rfl, hw⟩; rw [hw]; clear hw)
    go_ret
    rw [HE.out]
    refine ⟨congrArg (fun z : Int => Ending.returned (Value.int IntKind.i64 z)) ?_, rfl⟩
    omega
  · have hz : firstZ (fun x => x == 96) (s.data.toList.drop 1) = -1 := by rw [firstZ, if_neg (by rw [List.length_drop, hl]; exact h)]
    have HE : Hid (codN s.data.toList = 0) := by
      show _ = _
      rw [codN, hn, if_neg (by omega)]
    rw [hz] at c1
    clear hz hn hle e1 h
    go_enter Tryd.func70, Tryd.ntmps70
    go_wp2_with (go_at_call 79; refine (c1 _).mono ?_; rintro e w' ⟨rfl, hw⟩; rw [hw]; clear hw)
    go_ret
    rw [HE.out]
    exact ⟨rfl, rfl⟩

set_option maxRecDepth 100000 in
set_option maxHeartbeats 2000000 in
theorem pln_any (s : ByteArray) (w : World) (h1 : 1 ≤ s.size) (hs : s.size ≤ 1073741824) :
    Calls Tryd.prog 67 #[.string s] w fun e w' => e = .returned (.int .i64 (plainLen s.data.toList)) ∧ Below w.heap.size w w' := by
  have hl := ba_len s
  have c1 := fun W => lv_indexAny (s.extract 1 s.size) ⟨#[92, 10, 96, 91, 42]⟩ W (by rw [ByteArray.size_extract]; omega) (by decide) (by decide) (by decide)
  have e1 : (⟨#[92, 10, 96, 91, 42]⟩ : ByteArray).data.toList = [92, 10, 96, 91, 42] := rfl
  rw [e1, drop_data, show (fun x => ([92, 10, 96, 91, 42] : List UInt8).contains x) = isMark from funext marks_any] at c1
  have hle := firstN_le isMark (s.data.toList.drop 1)
  rw [List.length_drop, hl] at hle
  have hp : plainLen s.data.toList = 1 + firstN isMark (s.data.toList.drop 1) := by rw [plainLen, firstN, List.drop_one]
  by_cases h : firstN isMark (s.data.toList.drop 1) < s.size - 1
  · have hz : firstZ isMark (s.data.toList.drop 1) = (firstN isMark (s.data.toList.drop 1) : Int) := by rw [firstZ, if_pos (by rw [List.length_drop, hl]; exact h)]
    rw [hz] at c1
    have HP : Hid (plainLen s.data.toList = 1 + firstN isMark (s.data.toList.drop 1)) := hp
    generalize firstN isMark (s.data.toList.drop 1) = n at c1 HP h
    clear hz hp hle e1
    go_enter Tryd.func67, Tryd.ntmps67
    go_wp2_with (go_at_call 77; refine (c1 _).mono ?_; rintro e w1 ⟨rfl, b1⟩)
    go_ret
    rw [HP.out]
    exact ⟨by congr 2, b1⟩
  · have hz : firstZ isMark (s.data.toList.drop 1) = -1 := by rw [firstZ, if_neg (by rw [List.length_drop, hl]; exact h)]
    rw [hz] at c1
    have HP : Hid (plainLen s.data.toList = s.size) := by show _ = _; omega
    clear hz hp hle e1 h
    go_enter Tryd.func67, Tryd.ntmps67
    go_wp2_with (go_at_call 77; refine (c1 _).mono ?_; rintro e w1 ⟨rfl, b1⟩)
    go_ret
    rw [HP.out]
    exact ⟨rfl, b1⟩

set_option maxRecDepth 100000 in
set_option maxHeartbeats 2000000 in
theorem gap_any (c : UInt8) (w : World) :
    Calls Tryd.prog 82 #[.int .u8 (c.toNat : Int)] w fun e w' => e = .returned (.bool (bl3 c)) ∧ w' = w := by
  have c1 := fun W => lv_indexByte ⟨#[32, 9, 10]⟩ (c.toNat : Int) W
  have hback : (((c).toNat : Int)).toNat.toUInt8 = c := by simp
  have hcon := Lib.contains_iff_indexByte [32, 9, 10] c
  rw [gaps_any] at hcon
  rw [hback] at c1
  have e1 : (⟨#[32, 9, 10]⟩ : ByteArray).data.toList = [32, 9, 10] := rfl
  rw [e1] at c1
  rw [hcon]
  generalize Lib.indexByte [32, 9, 10] c = z at c1
  clear hcon hback e1
  go_enter Tryd.func82, Tryd.ntmps82
  go_wp2_with (go_at_call 79; refine (c1 _).mono ?_; rintro e w' ⟨rfl, hw⟩; rw [hw]; clear hw)
  go_ret
  exact ⟨rfl, rfl⟩

/-- How many bytes are passed on the way to a partner. -/
def passN (l : List UInt8) : Nat := if l[0]? = some 92 then max 1 (escN l) else if l[0]? = some 96 then max 1 (codN l) else 1

set_option maxRecDepth 100000 in
set_option maxHeartbeats 2000000 in
theorem pass_any (s : ByteArray) (w : World) (h1 : 1 ≤ s.size) (hs : s.size ≤ 1073741824) :
    Calls Tryd.prog 81 #[.string s] w fun e w' => e = .returned (.int .i64 (passN s.data.toList)) ∧ w' = w := by
  have hat : s.data.toList[0]? = some s[0] := at_some s 0 h1
  have cE := fun W => esc_any s W hs
  have cC := fun W => cod_any s W h1 hs
  have t92 := u8_eq s[0] 92
  have t96 := u8_eq s[0] 96
  have HP : Hid (passN s.data.toList = if s[0] = 92 then max 1 (escN s.data.toList) else if s[0] = 96 then max 1 (codN s.data.toList) else 1) := by
    show _ = _
    rw [passN, hat]
    simp only [Option.some.injEq]
  generalize escN s.data.toList = a at cE HP
  generalize codN s.data.toList = b at cC HP
  clear hat
  by_cases h92 : s[0] = 92
  · have g92 : ((s[0].toNat : Int) == 92) = true := by rw [h92]; rfl
    have HP2 : Hid (passN s.data.toList = max 1 a) := by show _ = _; rw [HP.out, if_pos h92]
    clear t92 t96 h92 HP
    go_enter Tryd.func81, Tryd.ntmps81
    go_wp2_with (go_at_call 69; refine (cE _).mono ?_; rintro e w' ⟨rfl, hw⟩; rw [hw]; clear hw)
    go_ret
    rw [HP2.out]
    refine ⟨congrArg (fun z : Int => Ending.returned (Value.int IntKind.i64 z)) ?_, rfl⟩
    omega
  · have g92 : ((s[0].toNat : Int) == 92) = false := t92.trans (beq_eq_false_iff_ne.2 h92)
    by_cases h96 : s[0] = 96
    · have g96 : ((s[0].toNat : Int) == 96) = true := by rw [h96]; rfl
      have HP2 : Hid (passN s.data.toList = max 1 b) := by show _ = _; rw [HP.out, if_neg h92, if_pos h96]
      clear t92 t96 h92 h96 HP
      go_enter Tryd.func81, Tryd.ntmps81
      go_wp2_with (go_at_call 70; refine (cC _).mono ?_; rintro e w' ⟨rfl, hw⟩; rw [hw]; clear hw)
      go_ret
      rw [HP2.out]
      refine ⟨congrArg (fun z : Int => Ending.returned (Value.int IntKind.i64 z)) ?_, rfl⟩
      omega
    · have g96 : ((s[0].toNat : Int) == 96) = false := t96.trans (beq_eq_false_iff_ne.2 h96)
      have HP2 : Hid (passN s.data.toList = 1) := by show _ = _; rw [HP.out, if_neg h92, if_neg h96]
      clear t92 t96 h92 h96 HP
      go_enter Tryd.func81, Tryd.ntmps81
      go_wp2
      go_ret
      rw [HP2.out]
      exact ⟨rfl, rfl⟩

end Go.Proofs.YtljcljipppjnoaaDoor
