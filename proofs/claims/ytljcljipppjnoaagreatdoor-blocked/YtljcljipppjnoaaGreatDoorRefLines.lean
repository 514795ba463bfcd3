import Derived.Test.YtljcljipppjnoaaGreatDoorRefLevel
namespace Go.Proofs.YtljcljipppjnoaaGreatDoor
open Go.RowKit

/-- P6: the lines of a text. -/
def linesL : List UInt8 → List UInt8 → List (List UInt8)
  | cur, [] => if cur = [] then [] else [cur]
  | cur, c :: r => if c = 10 then cur :: linesL [] r else linesL (cur ++ [c]) r
/-- The cells of some texts. -/
def strCs (ls : List (List UInt8)) : List Value := ls.map fun l => Value.string ⟨l.toArray⟩

theorem Tryz.infoStr : (Tryz.prog.info? 9).map (fun i => (i.zero, i.size, i.bytes)) = some (some (.string ⟨#[]⟩), 1, 16) := by kernel_rfl

set_option maxHeartbeats 2000000 in
theorem rlines_any (s : ByteArray) (w : World) (hs : s.size ≤ 1099511627776) :
    Calls Tryz.prog 14 #[.string s] w fun e w' => ∃ v, e = .returned v ∧ w'.ownsRow w.heap.size 9 1 v (linesL [] s.data.toList).length (strCs (linesL [] s.data.toList)) ∧ Below w.heap.size w w' := by
  obtain ⟨i0, hi, hz0, hz1, hz2⟩ := info_parts Tryz.infoStr
  go_enter Tryz.func14, Tryz.ntmps14
  go_wp2
  go_loopw [3, 4, 5] (fun v c i wr => ∃ (k : Nat) (done : List (List UInt8)) (cur : ByteArray), k ≤ s.size ∧ i = .int .i64 k ∧ c = .string cur ∧ wr.ownsRow w.heap.size 9 1 v done.length (strCs done) ∧ Below w.heap.size w wr ∧ Hid (done ++ linesL cur.data.toList (s.data.toList.drop k) = linesL [] s.data.toList) ∧ done.length + cur.size ≤ k) (fun _ _ i _ => s.size - (intOf i).toNat)
  case atStart => exact ⟨0, [], ⟨#[]⟩, Nat.zero_le _, rfl, rfl, World.ownsRow_nil _ _ _ _, Below.refl _ _, (by show _ = _; simp), (by decide)⟩
  case round =>
    obtain ⟨k, done, cur, hk, rfl, rfl, hown, hbel, hl, hsz⟩ := hrel
    have hbs := hbel.size
    by_cases hlt : k < s.size
    · by_cases h10 : s[k] = 10
      · have k1 : ((s[k].toNat : Int) == 10) = true := by rw [h10]; rfl
        have HL : Hid ((done ++ [cur.data.toList]) ++ linesL [] (s.data.toList.drop (k + 1)) = linesL [] s.data.toList) := by
          show _ = _
          rw [← hl.out, drop_cons s k hlt]
          simp [linesL, h10]
        clear h10
        go_wp2_with (at_builtin; refine wpList_append_own _ rfl _ _ 25 rfl w.heap.size 9 i0 (.string ⟨#[]⟩) 1 16 Tryz.underlying25 hi hz0 hz1 hz2 rfl (by decide) _ _ _ rfl (hown.alloc _) ⟨wr.heap.size, 0, none⟩ 1 1 [.string cur] rfl rfl ?c1 ?c2 ?c3 ?c4 ?c5 ?_)
        case c1 =>
          intro j u hj
          match j, hj with
          | 0, hj => simp at hj; subst hj; simp [Addr.add]
        case c2 => intro u hu; simp at hu; subst hu; rfl
        case c3 => unfold maxLen; omega
        case c4 => omega
        case c5 => simp; omega
        intro v' w1 hown' hgrow _
        go_wp2
        go_roundw
        case rel =>
          refine ⟨k + 1, done ++ [cur.data.toList], ⟨#[]⟩, by omega, by go_num, rfl, ?_, (hbel.alloc hbs _).grown hgrow (by simp; omega) (fun b hb => (hown.lt b hb).1), HL.out, ?_⟩
          · simpa [strCs] using hown'
          · have e0 : ((⟨#[]⟩ : ByteArray)).size = 0 := rfl
            rw [e0, List.length_append, List.length_singleton]
            omega
        case measure => simp [intOf]; omega
      · have k1 : ((s[k].toNat : Int) == 10) = false := (u8_eq s[k] 10).trans (beq_eq_false_iff_ne.2 h10)
        have hx1 : (s.extract k (k + 1)).data.toList = [s[k]] := by
          rw [Lib.extract_data, drop_cons s k hlt]
          simp
        have hx2 : (s.extract k (k + 1)).size = 1 := by simp; omega
        have HL : Hid (done ++ linesL (cur ++ s.extract k (k + 1)).data.toList (s.data.toList.drop (k + 1)) = linesL [] s.data.toList ∧ (cur ++ s.extract k (k + 1)).size = cur.size + 1) := by
          refine ⟨?_, by rw [ByteArray.size_append, hx2]⟩
          rw [← hl.out, drop_cons s k hlt, ByteArray.data_append, Array.toList_append, hx1]
          simp [linesL, h10]
        clear h10 hx1
        go_wp2
        go_roundw
        case rel => exact ⟨k + 1, done, _, by omega, by go_num, rfl, hown, hbel, HL.out.1, by rw [HL.out.2]; omega⟩
        case measure => simp [intOf]; omega
    · have hd : s.data.toList.drop k = [] := List.drop_eq_nil_iff.2 (by rw [Array.length_toList]; show s.size ≤ k; omega)
      have HL : Hid (done ++ (if cur.data.toList = [] then [] else [cur.data.toList]) = linesL [] s.data.toList) := by
        show _ = _
        rw [← hl.out, hd]
        rfl
      have hem : cur.toList.isEmpty = decide (cur.data.toList = []) := by
        rw [list_of]
        cases cur.data.toList <;> rfl
      by_cases h0 : cur.data.toList = []
      · rw [decide_eq_true h0] at hem
        have HL2 : Hid (done = linesL [] s.data.toList) := by
          have := HL.out
          rw [if_pos h0, List.append_nil] at this
          exact this
        clear hl hd h0
        go_wp2
        go_ret
        exact ⟨_, rfl, by rw [← HL2.out]; exact hown, hbel⟩
      · rw [decide_eq_false h0] at hem
        have HL2 : Hid (done ++ [cur.data.toList] = linesL [] s.data.toList) := by
          have := HL.out
          rw [if_neg h0] at this
          exact this
        clear hl hd h0
        go_wp2_with (at_builtin; refine wpList_append_own _ rfl _ _ 25 rfl w.heap.size 9 i0 (.string ⟨#[]⟩) 1 16 Tryz.underlying25 hi hz0 hz1 hz2 rfl (by decide) _ _ _ rfl (hown.alloc _) ⟨wr.heap.size, 0, none⟩ 1 1 [.string cur] rfl rfl ?c1 ?c2 ?c3 ?c4 ?c5 ?_)
        case c1 =>
          intro j u hj
          match j, hj with
          | 0, hj => simp at hj; subst hj; simp [Addr.add]
        case c2 => intro u hu; simp at hu; subst hu; rfl
        case c3 => unfold maxLen; omega
        case c4 => omega
        case c5 => simp; omega
        intro v' w1 hown' hgrow _
        go_wp2
        go_ret
        refine ⟨_, rfl, ?_, (hbel.alloc hbs _).grown hgrow (by simp; omega) (fun b hb => (hown.lt b hb).1)⟩
        rw [← HL2.out]
        simpa [strCs] using hown'

end Go.Proofs.YtljcljipppjnoaaGreatDoor
