import Derived.Test.YtljcljipppjnoaaDoorLvIdx
import Derived.Test.YtljcljipppjnoaaDoorShelfL
import Derived.Test.YtljcljipppjnoaaDoorReg
import Derived.Deep.RegionWith
import Derived.WalkMore
import Derived.Deep.QuietTactic
import Derived.BigQuiet
import Derived.Lib.OthersKept
namespace Go.Proofs.YtljcljipppjnoaaDoor
open Go.RowKit Go.Shelf

theorem lv_indexByte (s : ByteArray) (c : Int) (w : World) :
    Calls Tryd.prog 79 #[.string s, .int .u8 c] w fun e w' => e = .returned (.int .i64 (Lib.indexByte s.data.toList c.toNat.toUInt8)) ∧ w' = w := Any.strings_IndexByte Tryd.lays137 s c w

theorem byte_none (l : List UInt8) (c : UInt8) (h : ∀ x ∈ l, x ≠ c) : Lib.indexByte l c = -1 := by
  induction l with
  | nil => rfl
  | cons b l ih =>
    have hb : (b == c) = false := by rw [beq_eq_false_iff_ne]; exact h b (by simp)
    rw [Lib.indexByte, hb, ih (fun x hx => h x (by simp [hx]))]
    rfl
/-- A rune of more than one byte: all of its bytes are high. -/
theorem wide_high (s : ByteArray) (p : Nat) (h : p < s.size) (h128 : 128 ≤ (s.get! p).toNat) (k : Nat) (hk : k < (Utf8.decode s p).2) : p + k < s.size ∧ 128 ≤ (s.get! (p + k)).toNat := by
  have h0 : p + 0 < s.size ∧ 128 ≤ (s.get! (p + 0)).toNat := ⟨h, h128⟩
  have hk4 : k = 0 ∨ k = 1 ∨ k = 2 ∨ k = 3 ∨ 4 ≤ k := by omega
  simp only [Utf8.decode] at hk
  repeat' split at hk
  all_goals
    simp only [Bool.and_eq_true, decide_eq_true_eq, beq_iff_eq, Nat.add_zero] at *
    rcases hk4 with rfl | rfl | rfl | rfl | hk4
    all_goals first | exact h0 | (refine ⟨?_, ?_⟩ <;> omega) | omega

set_option maxHeartbeats 2000000 in
theorem valid_any (r : Int) (w : World) (h0 : 128 ≤ r) (h1 : r ≤ 2147483647) :
    Calls Tryd.prog 92 #[.int .i32 r] w fun e w' => e = .returned (.bool (Utf8.valid r)) ∧ w' = w := by
  have hq : r < 55296 ∨ (55296 ≤ r ∧ r ≤ 57343) ∨ (57343 < r ∧ r ≤ 1114111) ∨ 1114111 < r := by omega
  rcases hq with h | ⟨h, h'⟩ | ⟨h, h'⟩ | h
  all_goals
    first
    | (have HV : Hid (Utf8.valid r = true) := by show _ = _; unfold Utf8.valid; simp; omega)
    | (have HV : Hid (Utf8.valid r = false) := by show _ = _; unfold Utf8.valid; simp; omega)
    go_enter Tryd.func92, Tryd.ntmps92
    go_wp2
    go_ret
    rw [HV.out]
    first
    | exact ⟨rfl, rfl⟩

set_option maxHeartbeats 4000000 in
set_option maxRecDepth 1000000 in
/-- A rune that is not ASCII is not among ASCII signs. -/
theorem rune_big (chars : ByteArray) (r : Int) (w : World) (h0 : 128 ≤ r) (h1 : r ≤ 2147483647) (hch : ∀ (j : Nat) (h : j < chars.size), (chars[j]'h).toNat < 128) :
    Calls Tryd.prog 83 #[.string chars, .int .i32 r] w fun e w' => e = .returned (.int .i64 (-1)) ∧ Below w.heap.size w w' := by
  by_cases he : r = 65533
  · subst he
    go_enter Tryd.func83, Tryd.ntmps83
    go_wp2
    go_loopg [5, 6] chars.size (fun g _ _ wx => ∃ i : Nat, i + g = chars.size ∧ wx = w.iter chars i)
    case atStart => exact ⟨0, by omega, rfl⟩
    case round =>
      obtain ⟨i, hig, rfl⟩ := hrel
      cases gk with
      | zero =>
        obtain rfl : i = chars.size := by omega
        have hnx := run_next_end (P := Tryd.prog) w chars chars.size
        go_wp2
        go_ret
        exact ⟨rfl, (Below.refl _ _).alloc (Nat.le_refl _) _⟩
      | succ g =>
        have hi : i < chars.size := by omega
        have hx128 := hch i hi
        have hnx := fun ty => run_next_ascii (P := Tryd.prog) w chars i ty hi hx128
        generalize (chars[i]'hi).toNat = x at hx128 hnx
        go_wp2
        go_roundg g
        case measure => omega
        case rel => exact ⟨i + 1, by omega, rfl⟩
  · have cv := fun W => valid_any r W h0 h1
    have he2 : (r == 65533) = false := by rw [beq_eq_false_iff_ne]; exact he
    by_cases hv : Utf8.valid r = true
    · rw [hv] at cv
      obtain ⟨rs, hconv, f1, f2, f3⟩ : ∃ rs : ByteArray, (∀ W, (convert 21 9 (.int .i32 r)).run Tryd.prog W = .ok (.string rs) W) ∧ 2 ≤ rs.size ∧ rs.size ≤ 4 ∧ ∀ h : rs.size - 1 < rs.size, 128 ≤ (rs[rs.size - 1]'h).toNat :=
        ⟨Utf8.encode r, fun W => run_convert_int_string W _ _ _ _ (by rw [Tryd.underlying21]; rfl) Tryd.underlying9, encode_facts r hv h0⟩
      have hlt : rs.size - 1 < rs.size := by omega
      have f4 := f3 hlt
      clear f3 hv he
      go_enter Tryd.func83, Tryd.ntmps83
      go_wp2_with (go_at_call 92; refine (cv _).mono ?_; rintro e w' ⟨rfl, hw⟩; rw [hw]; clear hw)
      go_step3
      go_wp2
      go_loop [9, 10] (fun i f => i = .int .i64 ((rs.size : Int) - 1) ∧ f = .int .i64 0) (fun _ _ => 0)
      case atStart => exact ⟨by go_num, rfl⟩
      case round =>
        obtain ⟨rfl, rfl⟩ := hrel
        by_cases hc : rs.size - 1 < chars.size
        · have hx := hch (rs.size - 1) hc
          have e1 : ((rs.size : Int) - 1).toNat = rs.size - 1 := by omega
          have z1 : (1 : Int) ≤ (rs.size : Int) := by omega
          have z2 : (rs.size : Int) - 1 < (chars.size : Int) := by omega
          have z3 : (rs.size : Int) - 1 < (rs.size : Int) := by omega
          have hcmp : ((((chars[rs.size - 1]'hc).toNat : Int)) != (((rs[rs.size - 1]'hlt).toNat : Int))) = true := by simp; omega
          go_wp2
          go_step3
          go_wp2
          go_region
          go_wp2
          have z4 : (rs.size : Int) ≤ (chars.size : Int) := by omega
          have z5 : IntKind.i64.wrap (rs.size : Int) = (rs.size : Int) := wrap_small _ (by omega) (by omega)
          have cI : ∀ W, Calls Tryd.prog 79 #[.string (chars.extract rs.size chars.size), .int .u8 ((rs[rs.size - 1]'hlt).toNat : Int)] W fun e w' => e = .returned (.int .i64 (-1)) ∧ w' = W := by
            intro W
            refine (lv_indexByte _ _ _).mono ?_
            rintro e w' ⟨rfl, hw⟩
            refine ⟨?_, hw⟩
            rw [byte_none]
            intro x hx2 hxe
            rw [Lib.extract_data] at hx2
            have hx3 := List.mem_of_mem_drop (List.mem_of_mem_take hx2)
            obtain ⟨j, hj, hjx⟩ := List.getElem_of_mem hx3
            have := hch j (by rw [← ba_len chars]; exact hj)
            have hjx2 : chars[j]'(by rw [← ba_len chars]; exact hj) = x := hjx
            rw [hjx2, hxe] at this
            simp at this
            omega
          go_quiet ((go_at_call 79; refine (cI _).mono ?_; rintro e w'' ⟨rfl, rfl⟩; exact ⟨rfl, _, rfl⟩))
          go_wp2
          rw [Exit.noGoto_ret]
          go_wp2
          rw [Exit.noGoto_ret]
          go_wp2
          go_ret
          exact ⟨rfl, rfl, rfl, rfl, Nat.le_refl _, fun _ _ => rfl⟩
        · go_wp2
          go_ret
          exact ⟨rfl, Below.refl _ _⟩
    · have hv2 : Utf8.valid r = false := by simpa using hv
      rw [hv2] at cv
      clear hv hv2 he
      go_enter Tryd.func83, Tryd.ntmps83
      go_wp2_with (go_at_call 92; refine (cv _).mono ?_; rintro e w' ⟨rfl, hw⟩; rw [hw]; clear hw)
      go_ret
      exact ⟨rfl, Below.refl _ _⟩

theorem lv_indexRune (chars : ByteArray) (r : Int) (w : World) (h0 : 0 ≤ r) (h1 : r < 128) :
    Calls Tryd.prog 83 #[.string chars, .int .i32 r] w fun e w' => e = .returned (.int .i64 (Lib.indexByte chars.data.toList r.toNat.toUInt8)) ∧ w' = w :=
  Any.strings_IndexRune_ascii { Tryd.lays153 with } chars r w h0 h1
theorem lv_should (n : Int) (w : World) :
    Calls Tryd.prog 84 #[.int .i64 n] w fun e w' => e = .returned (.bool (decide (8 < n))) ∧ w' = w :=
  Any.strings_shouldUseASCIISet { Tryd.lays153 with } n w

theorem noAny_wide (s chars : ByteArray) (i : Nat) (hi : i < s.size) (h128 : 128 ≤ (s.get! i).toNat) (hch : ∀ (j : Nat) (h : j < chars.size), (chars[j]'h).toNat < 128) (h : Lib.NoAny s.data.toList chars.data.toList i) : Lib.NoAny s.data.toList chars.data.toList (i + (Utf8.decode s i).2) := by
  intro j b hj hb
  by_cases hji : j < i
  · exact h j b hji hb
  · obtain ⟨h1, h2⟩ := wide_high s i hi h128 (j - i) (by omega)
    rw [show i + (j - i) = j by omega] at h1 h2
    have hbs : s[j]'h1 = b := by
      have : s.data.toList[j]? = some s[j] := at_some s j h1
      rw [this] at hb
      exact Option.some.inj hb
    rw [get_bang s j h1, hbs] at h2
    rw [← Bool.not_eq_true, List.contains_iff_mem]
    intro hm
    obtain ⟨k, hk, hkb⟩ := List.getElem_of_mem hm
    have := hch k (by rw [← ba_len chars]; exact hk)
    have hkb2 : chars[k]'(by rw [← ba_len chars]; exact hk) = b := hkb
    rw [hkb2] at this
    omega

set_option maxHeartbeats 4000000 in
set_option maxRecDepth 1000000 in
theorem any_short (s chars : ByteArray) (w : World) (h2 : 2 ≤ chars.size) (h8 : s.size ≤ 8) (hch : ∀ (j : Nat) (h : j < chars.size), (chars[j]'h).toNat < 128) :
    Calls Tryd.prog 77 #[.string s, .string chars] w fun e w' => e = .returned (.int .i64 (Lib.indexAny s.data.toList chars.data.toList)) ∧ Below w.heap.size w w' := by
  have hemp : chars.toList.isEmpty = false := by
    rw [Lib.toList_data]
    cases h : chars.data.toList with
    | nil => have := Lib.size_eq chars; rw [h, List.length_nil] at this; omega
    | cons _ _ => rfl
  have hn1 : ((chars.size : Int) == 1) = false := beq_eq_false_iff_ne.2 (by omega)
  have h8z : decide ((8 : Int) < (s.size : Int)) = false := decide_eq_false (by omega)
  have cS := fun W => lv_should (s.size : Int) W
  rw [h8z] at cS
  have HC : Hid (∀ (j : Nat) (h : j < chars.size), (chars[j]'h).toNat < 128) := hch
  have cB := fun (r : Int) W h0 h1 => rune_big chars r W h0 h1 hch
  have HB : Hid _ := cB
  clear hch cB h8z
  go_enter Tryd.func77, Tryd.ntmps77
  go_wp2_with (go_at_call 84; refine (cS _).mono ?_; rintro e w' ⟨rfl, hw⟩; rw [hw]; clear hw)
  go_loopg [9, 10] s.size (fun gk _ _ wr => ∃ i : Nat, i ≤ s.size ∧ s.size ≤ i + gk ∧ wr.heap[w.heap.size]? = some (.stringIter s i) ∧ Below w.heap.size w wr ∧ Hid (Lib.NoAny s.data.toList chars.data.toList i))
  case atStart => exact ⟨0, Nat.zero_le _, by omega, World.iter_heap w s 0, (Below.refl _ _).alloc (Nat.le_refl _) _, Lib.NoAny.zero _ _⟩
  case round =>
    obtain ⟨i, hi, hg, hit, hb, HN⟩ := hrel
    have hsz : w.heap.size < wr.heap.size := (Array.getElem?_eq_some_iff.1 hit).1
    by_cases hlt : i < s.size
    · have hnx : ∀ ty, (Instr.next (.pointer (some ⟨w.heap.size, 0, none⟩)) true ty).run Tryd.prog wr = _ := fun ty => Lib.run_next_any_at wr w.heap.size s i ty hit hlt
      have hwd := width_pos s i hlt
      have hd1 := decode_le s i
      obtain ⟨g, rfl⟩ : ∃ g, gk = g + 1 := ⟨gk - 1, by omega⟩
      have hit2 := Lib.iterAt_heap wr w.heap.size s i (i + (Utf8.decode s i).2) hit
      have hbw2 := Lib.below_iterAt hb (k := w.heap.size) (Nat.le_refl _) s (i + (Utf8.decode s i).2)
      have hsz2 : w.heap.size < (wr.iterAt w.heap.size s (i + (Utf8.decode s i).2)).heap.size := by rw [Lib.iterAt_size]; omega
      by_cases ha : (s.get! i).toNat < 128
      · have hda : Utf8.decode s i = ((s.get! i).toNat, 1) := by
          rw [get_bang s i hlt] at ha ⊢
          exact decode_ascii s i hlt ha
        rw [hda] at hnx hit2 hbw2 hsz2
        have hxl : s.data.toList[i]? = some (s.get! i) := by rw [get_bang s i hlt]; exact at_some s i hlt
        have Hx : Hid (s.data.toList[i]? = some (s.get! i)) := hxl
        have hcon := Lib.contains_iff_indexByte chars.data.toList (s.get! i)
        have hback : (((s.get! i).toNat : Int)).toNat.toUInt8 = s.get! i := by simp
        have cR := fun W => lv_indexRune chars ((s.get! i).toNat : Int) W (by omega) (by omega)
        rw [hback] at cR
        clear hda hxl hback hwd hd1
        simp only at hnx hit2 hbw2 hsz2
        generalize s.get! i = x at hnx Hx hcon ha cR
        cases hin : chars.data.toList.contains x
        · rw [hin] at hcon
          have hltz : ¬ ((0 : Int) ≤ Lib.indexByte chars.data.toList x) := of_decide_eq_false hcon.symm
          have HN2 : Hid (Lib.NoAny s.data.toList chars.data.toList (i + 1)) := HN.out.succ Hx.out hin
          clear hcon hin
          go_wp2_with (go_at_call 83; refine (cR _).mono ?_; rintro e w' ⟨rfl, hw⟩; rw [hw]; clear hw)
          go_roundg g
          case measure => omega
          case rel => exact ⟨i + 1, by omega, by omega, hit2, hbw2, HN2⟩
        · rw [hin] at hcon
          have hge : (0 : Int) ≤ Lib.indexByte chars.data.toList x := of_decide_eq_true hcon.symm
          have HF : Hid (Lib.indexAny s.data.toList chars.data.toList = i) := Lib.indexAny_hit HN.out Hx.out hin
          clear hcon hin
          go_wp2_with (go_at_call 83; refine (cR _).mono ?_; rintro e w' ⟨rfl, hw⟩; rw [hw]; clear hw)
          go_ret
          exact ⟨by rw [HF.out]; rfl, hbw2⟩
      · have hh := (decode_high s i hlt (by rw [← get_bang s i hlt]; omega)).1
        have HN2 : Hid (Lib.NoAny s.data.toList chars.data.toList (i + (Utf8.decode s i).2)) := noAny_wide s chars i hlt (by omega) HC.out HN.out
        have hle : i + (Utf8.decode s i).2 ≤ s.size := by
          have := (wide_high s i hlt (by omega) ((Utf8.decode s i).2 - 1) (by omega)).1
          omega
        obtain ⟨r, hr⟩ : ∃ r, (Utf8.decode s i).1 = r := ⟨_, rfl⟩
        obtain ⟨d, hd⟩ : ∃ d, (Utf8.decode s i).2 = d := ⟨_, rfl⟩
        rw [hr] at hnx hd1 hh
        rw [hd] at hnx hwd hit2 hbw2 hsz2 HN2 hle
        have cR := fun W => HB.out (r : Int) W (by omega) (by omega)
        clear hr hd ha HN
        go_wp2_with (go_at_call 83; refine (cR _).mono ?_; rintro e w1 ⟨rfl, b1⟩)
        go_roundg g
        case measure => omega
        case rel => exact ⟨i + d, by omega, by omega, (b1.block _ hsz2).trans hit2, hbw2.trans (b1.mono (by omega)), HN2⟩
    · have hnx : ∀ ty, (Instr.next (.pointer (some ⟨w.heap.size, 0, none⟩)) true ty).run Tryd.prog wr = _ := fun ty => Lib.run_next_end_at wr w.heap.size s i ty hit hlt
      have HF : Hid (Lib.indexAny s.data.toList chars.data.toList = -1) := Lib.indexAny_none (by rw [← Lib.size_eq, show s.size = i by omega]; exact HN.out)
      go_wp2
      go_ret
      exact ⟨by rw [HF.out]; rfl, hb⟩

set_option maxRecDepth 1000000 in
/-- The first of some ASCII signs. -/
theorem lv_indexAny (s chars : ByteArray) (w : World) (hs : s.size < 4294967281) (h2 : 2 ≤ chars.size) (h9 : chars.size ≤ 64) (hch : ∀ (j : Nat) (h : j < chars.size), (chars[j]'h).toNat < 128) :
    Calls Tryd.prog 77 #[.string s, .string chars] w fun e w' => e = .returned (.int .i64 (firstZ (fun x => chars.data.toList.contains x) s.data.toList)) ∧ Below w.heap.size w w' := by
  rw [← ia_first]
  by_cases h8 : s.size ≤ 8
  · exact any_short s chars w h2 h8 hch
  · have h116 : (Tryd.prog.info? 150).map (fun i => (i.zero, i.size)) = some (some (.agg (Array.replicate 256 (.bool false))), 256) := by kernel_rfl
    refine (Any.strings_IndexAny_long Tryd.lays153 (zero_of_info h116).1 (zero_of_info h116).2 s chars w (by omega) (by omega) hs (by omega) ?_).mono fun e w' ⟨h1, h2⟩ => ⟨h1, ?_⟩
    · intro j b hb
      have hj : j < chars.size := by
        rw [← ba_len chars]
        exact (List.getElem?_eq_some_iff.1 hb).1
      have : chars.data.toList[j]? = some chars[j] := at_some chars j hj
      rw [this] at hb
      rw [← Option.some.inj hb]
      exact hch j hj
    · rw [h2]
      exact ((Below.refl _ _).alloc (Nat.le_refl _) _).alloc (by simp) _

end Go.Proofs.YtljcljipppjnoaaDoor
