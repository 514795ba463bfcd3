import Derived.Test.YtljcljipppjnoaaGreatDoorJP03
import Derived.Deep.DeepCutAuto
namespace Go.Proofs.YtljcljipppjnoaaGreatDoor
open Go.RowKit

set_option maxRecDepth 100000 in
set_option maxHeartbeats 4000000 in
theorem rinl_any (f : List UInt8 → Bool → List Ev) (N : Nat) (hC : InlC N f) (hfl : ∀ l ins, (f l ins).length ≤ 2 * l.length) (hft : ∀ l ins, ∀ e ∈ f l ins, e.text.length ≤ l.length) : InlC (N + 1) (fun l ins => inlFrom f l ins 0 []) := by
  intro s ins w hN hs
  have hl := ba_len s
  obtain ⟨j0, hj, hy0, hy1, hy2⟩ := info_parts Tryz.infoEv
  obtain ⟨A, hA⟩ : ∃ A, inlFrom f s.data.toList ins 0 [] = A := ⟨_, rfl⟩
  show Calls _ _ _ _ (fun e w' => ∃ v, e = .returned v ∧ w'.ownsRow w.heap.size 83 4 v (inlFrom f s.data.toList ins 0 []).length (evCs (inlFrom f s.data.toList ins 0 [])) ∧ Below w.heap.size w w')
  rw [hA]
  have HA : Hid (inlFrom f s.data.toList ins 0 [] = A) := hA
  have HC : Hid (InlC N f) := hC
  have HFL : Hid (∀ l ins, (f l ins).length ≤ 2 * l.length) := hfl
  have HFT : Hid (∀ l ins, ∀ e ∈ f l ins, e.text.length ≤ l.length) := hft
  clear hC hfl hft hA
  go_enter Tryz.func57, Tryz.ntmps57
  go_wp2
  go_loopw [5, 6] (fun v5 v6 wr => ∃ (i : Nat) (acc : List Ev), i ≤ s.size ∧ v6 = .int .i64 i ∧ wr.ownsRow w.heap.size 83 4 v5 acc.length (evCs acc) ∧ Below w.heap.size w wr ∧ Hid (inlFrom f s.data.toList ins i acc = A) ∧ acc.length ≤ 2 * i ∧ Hid (∀ e ∈ acc, e.text.length ≤ i)) (fun _ v6 _ => s.size - (intOf v6).toNat)
  case atStart => exact ⟨0, [], Nat.zero_le _, rfl, by simpa [evCs] using World.ownsRow_nil _ _ _ _, Below.refl _ _, HA, Nat.le_refl _, fun e he => by cases he⟩
  case round =>
    clear HA
    obtain ⟨i, acc, hi, rfl, hown, hbel, HJ, hal, HT⟩ := hrel
    have hbs := hbel.size
    by_cases hlt : i < s.size
    · obtain ⟨X, hX⟩ : ∃ X, oneS f s.data.toList i ins = X := ⟨_, rfl⟩
      have c1 := rone_any f N HC.out HFL.out s i ins wr (by omega) hs hlt X hX
      obtain ⟨f1, f2⟩ := one_facts f HFL.out s.data.toList i (by omega) ins
      have f3 := one_text f HFT.out s.data.toList i ins
      have hunf := inlFrom.eq_def f s.data.toList ins i acc
      rw [dif_pos (by omega)] at hunf
      rw [hX] at f1 f2 f3 hunf
      rw [hl] at f2
      by_cases h0 : X.2 = 0
      · rw [if_pos h0] at hunf
        have HJ2 : Hid (inlFrom f s.data.toList ins (i + 1) (addS acc (cut s.data.toList i (i + 1))) = A) := by show _ = _; rw [← hunf, HJ.out]
        have hc1 : (cut s.data.toList i (i + 1)).length = 1 := by rw [cut_len _ _ _ (by omega)]; omega
        have hadd := add_len acc (cut s.data.toList i (i + 1))
        have HT2 : Hid (∀ e ∈ addS acc (cut s.data.toList i (i + 1)), e.text.length ≤ i + 1) := fun e he => by have := add_text acc _ i HT.out e he; omega
        have c2 := fun w1 (hb : w.heap.size ≤ w1.heap.size) (h : w1.ownsRow w.heap.size 83 4 u5 acc.length (evCs acc)) => radd_any w.heap.size u5 acc (cut s.data.toList i (i + 1)) w1 hb h (by omega) (by omega) (fun e he => by have := HT.out e he; omega)
        have hbc := ba_cut s i (i + 1)
        rw [← hbc] at c2
        rw [h0] at c1
        generalize addS acc (cut s.data.toList i (i + 1)) = acc2 at HJ2 hadd HT2 c2
        clear hunf hX f1 f2 f3 HJ HT hc1 hbc
        go_wp2_with (first | (go_at_call 79; refine c1.mono ?_; rintro e w1 ⟨vm, rfl, ownm, b1⟩; have s1 := b1.size; have own1 := own_below hown b1 (Nat.le_refl _)) | (go_at_call 80; refine (c2 w1 (by omega) own1).mono ?_; rintro e w2 ⟨v2, rfl, own2, b2⟩))
        go_roundw
        case rel => exact ⟨i + 1, acc2, by omega, by go_num, own2, (hbel.trans (b1.mono hbs)).trans b2, HJ2, by omega, HT2⟩
        case measure => simp [intOf]; omega
      · rw [if_neg h0] at hunf
        have HJ2 : Hid (inlFrom f s.data.toList ins (i + X.2) (glue acc X.1) = A) := by show _ = _; rw [← hunf, HJ.out]
        have HT2 : Hid (∀ e ∈ glue acc X.1, e.text.length ≤ i + X.2) := glue_text acc X.1 i X.2 HT.out f3
        have hgl := glue_len acc X.1
        obtain ⟨m, n⟩ := X
        simp only at h0 HJ2 HT2 hgl f1 f2 f3 c1
        have hn0 : ((n : Int) == 0) = false := by rw [beq_eq_false_iff_ne]; omega
        have hnp : 1 ≤ n := by omega
        by_cases hone : ∃ e, m = [e] ∧ e.kind = 8
        · obtain ⟨e, rfl, hk⟩ := hone
          have hge : glue acc [e] = addS acc e.text := by simp [glue, hk]
          rw [hge] at HJ2 HT2 hgl
          have hte := f3 e (by simp)
          have c2 := fun w1 (hb : w.heap.size ≤ w1.heap.size) (h : w1.ownsRow w.heap.size 83 4 u5 acc.length (evCs acc)) => radd_any w.heap.size u5 acc e.text w1 hb h (by omega) (by omega) (fun e he => by have := HT.out e he; omega)
          generalize addS acc e.text = acc2 at HJ2 HT2 hgl c2
          clear hunf hX f3 HJ HT hge h0
          have c3 : Calls Tryz.prog 79 #[.string s, .int .i64 i, .bool ins] wr fun e1 w1 => ∃ gm cap, e1 = .returned (.tuple #[.slice (some ⟨gm, 0, none⟩) 1 cap, .int .i64 n]) ∧ w1.cell? ⟨gm, 0, none⟩ = some (.int .i64 8) ∧ w1.cell? ⟨gm, 3, none⟩ = some (.string ⟨e.text.toArray⟩) ∧ Below wr.heap.size wr w1 := by
            refine c1.mono ?_
            rintro e1 w1 ⟨vm, rfl, ownm, b1⟩
            rcases Joins.ownsRow_forms ownm with ⟨_, h⟩ | ⟨gm, cap, rfl⟩
            · cases h
            · have k0 := ownm.cells (g := gm) rfl 0 (.int .i64 e.kind) rfl
              have k3 := ownm.cells (g := gm) rfl 3 (.string ⟨e.text.toArray⟩) rfl
              rw [Addr.add_lit] at k0 k3
              rw [hk] at k0
              exact ⟨gm, cap, rfl, by simpa using k0, by simpa using k3, b1⟩
          clear c1 hk
          go_wp2_with (first | (go_at_call 79; refine c3.mono ?_; rintro e1 w1 ⟨gm, cap, rfl, k0, k3, b1⟩; have s1 := b1.size; have own1 := own_below hown b1 (Nat.le_refl _)) | (go_at_call 80; refine (c2 w1 (by omega) own1).mono ?_; rintro e1 w2 ⟨v2, rfl, own2, b2⟩))
          go_roundw
          case rel => exact ⟨i + n, acc2, by omega, by go_num, own2, (hbel.trans (b1.mono hbs)).trans b2, HJ2, by omega, HT2⟩
          case measure => simp [intOf]; omega
        · have hge : glue acc m = acc ++ m := by
            unfold glue
            split
            · next x => rw [if_neg (fun h => hone ⟨x, rfl, h⟩)]
            · rfl
          rw [hge] at HJ2 HT2
          by_cases hm1 : ∃ e, m = [e]
          · obtain ⟨e, rfl⟩ := hm1
            have hk : (e.kind == 8) = false := by rw [beq_eq_false_iff_ne]; exact fun h => hone ⟨e, rfl, h⟩
            have c3 : Calls Tryz.prog 79 #[.string s, .int .i64 i, .bool ins] wr fun e1 w1 => ∃ gm cap, e1 = .returned (.tuple #[.slice (some ⟨gm, 0, none⟩) 1 cap, .int .i64 n]) ∧ w1.cell? ⟨gm, 0, none⟩ = some (.int .i64 e.kind) ∧ w1.ownsRow wr.heap.size 83 4 (.slice (some ⟨gm, 0, none⟩) 1 cap) 1 (evCs [e]) ∧ Below wr.heap.size wr w1 := by
              refine c1.mono ?_
              rintro e1 w1 ⟨vm, rfl, ownm, b1⟩
              rcases Joins.ownsRow_forms ownm with ⟨_, h⟩ | ⟨gm, cap, rfl⟩
              · cases h
              · have k0 := ownm.cells (g := gm) rfl 0 (.int .i64 e.kind) rfl
                rw [Addr.add_lit] at k0
                exact ⟨gm, cap, rfl, by simpa using k0, ownm, b1⟩
            clear c1 hunf hX f3 HJ HT hge hone h0
            go_wp2_with (first | (go_at_call 79; refine c3.mono ?_; rintro e1 w1 ⟨gm, cap, rfl, k0, ownm, b1⟩; have s1 := b1.size; have own1 := own_below hown b1 (Nat.le_refl _)) | (at_builtin; refine wpList_append_row _ rfl _ _ 27 rfl w.heap.size wr.heap.size 83 j0 (.agg #[.int .i64 0, .bool false, .int .i64 0, .string ⟨#[]⟩]) 4 40 Tryz.underlying27 hj hy0 hy1 hy2 rfl (by decide) _ _ _ rfl own1 _ _ _ rfl ownm (evCs_one' _) (by unfold maxLen; omega) (by omega) (by omega) ?_; intro v2 w2 own2 grow2))
            have b2 : Below w.heap.size w w2 := (hbel.trans (b1.mono hbs)).grown grow2 (by omega) (fun b hb => (own1.lt b hb).1)
            have own3 : w2.ownsRow w.heap.size 83 4 v2 (acc ++ [e]).length (evCs (acc ++ [e])) := by
              rw [List.length_append, evCs_append]
              exact own2
            go_roundw
            case rel => exact ⟨i + n, acc ++ [e], by omega, by go_num, own3, b2, HJ2, by rw [List.length_append]; omega, HT2⟩
            case measure => simp [intOf]; omega
          · have hml : ((m.length : Int) == 1) = false := by
              rw [beq_eq_false_iff_ne]
              intro h
              have h2 : m.length = 1 := by omega
              exact hm1 (List.length_eq_one_iff.1 h2)
            have c3 : Calls Tryz.prog 79 #[.string s, .int .i64 i, .bool ins] wr fun e1 w1 => ∃ a cap, e1 = .returned (.tuple #[.slice a m.length cap, .int .i64 n]) ∧ w1.ownsRow wr.heap.size 83 4 (.slice a m.length cap) m.length (evCs m) ∧ Below wr.heap.size wr w1 := by
              refine c1.mono ?_
              rintro e1 w1 ⟨vm, rfl, ownm, b1⟩
              rcases Joins.ownsRow_forms ownm with ⟨rfl, h⟩ | ⟨gm, cap, rfl⟩
              · exact ⟨none, 0, by rw [h], by rw [h] at ownm ⊢; exact ownm, b1⟩
              · exact ⟨some ⟨gm, 0, none⟩, cap, rfl, ownm, b1⟩
            clear c1 hunf hX f3 HJ HT hge hone h0 hm1
            go_wp2_with (first | (go_at_call 79; refine c3.mono ?_; rintro e1 w1 ⟨a, cap, rfl, ownm, b1⟩; have s1 := b1.size; have own1 := own_below hown b1 (Nat.le_refl _)) | (at_builtin; refine wpList_append_row _ rfl _ _ 27 rfl w.heap.size wr.heap.size 83 j0 (.agg #[.int .i64 0, .bool false, .int .i64 0, .string ⟨#[]⟩]) 4 40 Tryz.underlying27 hj hy0 hy1 hy2 rfl (by decide) _ _ _ rfl own1 _ _ _ rfl ownm (evCs_one' _) (by unfold maxLen; omega) (by omega) (by omega) ?_; intro v2 w2 own2 grow2))
            have b2 : Below w.heap.size w w2 := (hbel.trans (b1.mono hbs)).grown grow2 (by omega) (fun b hb => (own1.lt b hb).1)
            have own3 : w2.ownsRow w.heap.size 83 4 v2 (acc ++ m).length (evCs (acc ++ m)) := by
              rw [List.length_append, evCs_append]
              exact own2
            go_roundw
            case rel => exact ⟨i + n, acc ++ m, by omega, by go_num, own3, b2, HJ2, by rw [List.length_append]; omega, HT2⟩
            case measure => simp [intOf]; omega
    · have HF : Hid (acc = A) := by show _ = _; rw [← HJ.out, inlFrom, dif_neg (by omega)]
      go_wp2
      go_ret
      rw [← HF.out]
      exact ⟨_, rfl, hown, hbel⟩

theorem rinl_at (k : Nat) : InlC k (inlineF k) := by
  induction k with
  | zero => exact fun s ins w h => absurd h (Nat.not_lt_zero _)
  | succ k ih => exact rinl_any (inlineF k) k ih (inlF_facts k).1 (inlF_facts k).2
/-- The document's answer: what stands in a leaf. -/
theorem rinl_doc (s : ByteArray) (ins : Bool) (w : World) (hs : s.size ≤ 1073741824) :
    Calls Tryz.prog 57 #[.string s, .bool ins] w fun e w' => ∃ v, e = .returned v ∧ w'.ownsRow w.heap.size 83 4 v (inlineS s.data.toList ins).length (evCs (inlineS s.data.toList ins)) ∧ Below w.heap.size w w' := by
  have h := rinl_at (s.size + 1) s ins w (Nat.lt_succ_self _) hs
  rw [← ba_len s] at h
  exact h

end Go.Proofs.YtljcljipppjnoaaGreatDoor
