import Derived.Test.YtljcljipppjnoaaGreatDoorRefItems
import Derived.Deep.AppendLies
import Derived.Deep.CutBlock
import Derived.Deep.DeepCutAuto
import Derived.Deep.Light
namespace Go.Proofs.YtljcljipppjnoaaGreatDoor
open Go.RowKit

theorem list_fin (inner : List (List UInt8) → List Ev) (ls : List (List UInt8)) (n m : Nat) (done IA : List Ev) (hJ : done ++ (itemsAt inner ls n).1 = [⟨3, false, 0, []⟩] ++ (itemsAt inner ls 0).1 ∧ (itemsAt inner ls n).2 = (itemsAt inner ls 0).2)
    (hit : itemsAt inner ls n = (itemEv inner ls n, m)) (hev : itemEv inner ls n = [⟨4, false, 0, []⟩] ++ IA ++ [⟨4, true, 0, []⟩]) :
    listN inner ls = m ∧ (listS inner ls).length = done.length + 1 + IA.length + 1 + 1 ∧ evCs (listS inner ls) = evCs done ++ (evCells ⟨4, false, 0, []⟩ ++ (evCs IA ++ (evCells ⟨4, true, 0, []⟩ ++ evCells ⟨3, true, 0, []⟩))) := by
  obtain ⟨h1, h2⟩ := hJ
  rw [hit] at h1 h2
  simp only at h1 h2
  refine ⟨h2.symm, ?_, ?_⟩
  · rw [listS, ← h1, hev]
    simp
    omega
  · rw [listS, ← h1, hev]
    simp [evCs]

theorem own_ne {w w' : World} {base base' size size' n n' : Nat} {e e' : TypeId} {v v' : Value} {xs xs' : List Value} (h1 : w.ownsRow base e size v n xs) (h2 : w'.ownsRow base' e' size' v' n' xs') (hb : w.heap.size ≤ base') : v'.ownBlock = none ∨ v'.ownBlock ≠ v.ownBlock := by
  cases hv : v'.ownBlock with
  | none => exact Or.inl rfl
  | some k =>
    refine Or.inr fun he => ?_
    have a := (h1.lt k he.symm).2
    have b := (h2.lt k hv).1
    omega

set_option maxRecDepth 100000 in
set_option maxRecDepth 100000 in
set_option maxHeartbeats 4000000 in
theorem rlisted_any (inner : List (List UInt8) → List Ev) (depth : Int) (hd : 0 ≤ depth ∧ depth < 3) (hB : BlocksC (depth + 1) inner) (hI : ∀ ls, (inner ls).length ≤ 16 * ls.length)
    (g o cap : Nat) (ls : List (List UInt8)) (w : World) (hS : Strs g o cap ls w) (hM : Small 1073741824 ls) (hn0 : 0 < ls.length) :
    Calls Tryz.prog 43 #[.slice (some ⟨g, o, none⟩) ls.length cap, .int .i64 depth] w fun e w' =>
      ∃ v, e = .returned (.tuple #[v, .int .i64 (listN inner ls)]) ∧ w'.ownsRow w.heap.size 83 4 v (listS inner ls).length (evCs (listS inner ls)) ∧ Below w.heap.size w w' := by
  have hlen := hM.1
  have HM : Hid (Small 1073741824 ls) := hM
  have HS : Hid (Strs g o cap ls w) := hS
  have hglt := hS.lt
  have HI : Hid (∀ ls, (inner ls).length ≤ 16 * ls.length) := hI
  have HB : Hid (BlocksC (depth + 1) inner) := hB
  clear hM hS hI hB
  obtain ⟨hd1, hd2⟩ := hd
  obtain ⟨i0, hi, hz0, hz1, hz2⟩ := info_parts Tryz.infoStr
  obtain ⟨j0, hj, hy0, hy1, hy2⟩ := info_parts Tryz.infoEv
  have oL := own_lit w ⟨3, false, 0, []⟩ 83
  go_enter Tryz.func43, Tryz.ntmps43
  go_wp2
  go_loopg [6, 7] ls.length (fun gk v i wr => ∃ (n : Nat) (done : List Ev), n < ls.length ∧ ls.length - n ≤ gk ∧ i = .int .i64 n ∧ wr.ownsRow w.heap.size 83 4 v done.length (evCs done) ∧ Below w.heap.size w wr ∧ Hid (done ++ (itemsAt inner ls n).1 = [⟨3, false, 0, []⟩] ++ (itemsAt inner ls 0).1 ∧ (itemsAt inner ls n).2 = (itemsAt inner ls 0).2) ∧ done.length ≤ 1 + 18 * n)
  case atStart => exact ⟨0, [⟨3, false, 0, []⟩], hn0, by omega, rfl, oL, (Below.refl _ w).alloc (Nat.le_refl _) _, ⟨rfl, rfl⟩, by simp⟩
  case round =>
    clear oL
    rename World => w0
    obtain ⟨n, done, hn, hgk, rfl, hown, hbel, hJ, hdl⟩ := hrel
    have hbs := hbel.size
    obtain ⟨l, hl⟩ : ∃ l, ls[n] = l := ⟨_, rfl⟩
    obtain ⟨b, hb⟩ : ∃ b : ByteArray, b = ⟨l.toArray⟩ := ⟨_, rfl⟩
    have hcell := (HS.out.below hbel hglt).cell n l (by rw [List.getElem?_eq_getElem hn, hl])
    rw [← hb] at hcell
    have hbsz : b.size ≤ 1073741824 := by rw [hb, size_of]; exact HM.out.2 l (by rw [← hl]; exact List.getElem_mem hn)
    have hX : b.extract 2 b.size = ⟨(l.drop 2).toArray⟩ := by rw [hb, size_of]; exact ba_ext l 2 l.length rfl
    have hl2 : ¬ 2 < b.size → l.drop 2 = [] := by
      intro h
      rw [hb, size_of] at h
      exact List.drop_eq_nil_iff.2 (by omega)
    have HL : Hid (itemIn ls n = l.drop 2 :: (moreAt ls (n + 1)).1) := by
      show _ = _
      rw [itemIn, List.getElem?_eq_getElem hn, hl]
      rfl
    have HX : Hid (b.extract 2 b.size = ⟨(l.drop 2).toArray⟩) := hX
    have HL2 : Hid (¬ 2 < b.size → l.drop 2 = []) := hl2
    clear hb hl hX hl2
    go_wp2_with (at_builtin; refine wpList_append_own _ rfl _ _ 25 rfl w0.heap.size 9 i0 (.string ⟨#[]⟩) 1 16 Tryz.underlying25 hi hz0 hz1 hz2 rfl (by decide) _ 0 [] rfl (World.ownsRow_nil _ _ _ _) ⟨w0.heap.size, 0, none⟩ 1 1 [.string ⟨#[]⟩] rfl rfl ?c1 ?c2 ?c3 ?c4 ?c5 ?_)
    case c1 =>
      intro j u hj
      match j, hj with
      | 0, hj => simp at hj; subst hj; simp [Addr.add]
    case c2 => intro u hu; simp at hu; subst hu; rfl
    case c3 => unfold maxLen; omega
    case c4 => omega
    case c5 => simp
    intro vi w1 hin hgrow _
    have b1 : Below w0.heap.size w0 w1 := ((Below.refl _ w0).alloc (Nat.le_refl _) _).grown hgrow (by simp) (fun b hb => by cases hb)
    obtain ⟨gi, ci, rfl, hgi, hgl⟩ := hin.form (by omega)
    have hc0 : w1.cell? ⟨gi, 0, none⟩ = some (.string ⟨#[]⟩) := hin.cellAt 0 (by omega)
    have hf0 := hin.frozenAt 0
    rw [← b1.cell (p := ⟨g, o + n, none⟩) (by show g < _; omega)] at hcell
    clear hgrow
    go_upto_if 23 with fail
    go_cut [8] (fun vi wx => wx.ownsRow w0.heap.size 9 1 vi 1 (strCs [l.drop 2]) ∧ Below w0.heap.size w0 wx)
    case first =>
      by_cases h2 : 2 < b.size
      · have hs := hin.stored 0 (.string (b.extract 2 b.size))
        obtain ⟨hs1, hs2⟩ := hs
        have hs1' : (w1.setCell ⟨gi, 0, none⟩ (.string (b.extract 2 b.size))).ownsRow w0.heap.size 9 1 (.slice (some ⟨gi, 0, none⟩) 1 ci) 1 (strCs [l.drop 2]) := by
          rw [HX.out] at hs1 ⊢
          exact hs1
        have b2 := b1.grown hs2 (by have := b1.size; omega) (fun b hb => by cases hb; exact hgi)
        clear hs1 hs2 hin
        go_wp2
        go_meet
        case rel => exact ⟨hs1', b2⟩
      · have hin' : w1.ownsRow w0.heap.size 9 1 (.slice (some ⟨gi, 0, none⟩) 1 ci) 1 (strCs [l.drop 2]) := by
          rw [HL2.out h2]
          exact hin
        clear hin
        go_wp2
        go_meet
        case rel => exact ⟨hin', b1⟩
    case rest =>
      clear hin hc0 hf0 hcell hgi hgl b1
      obtain ⟨hin1, hb1⟩ := hcut
      rename World => w1'
      go_upto_block 2 with fail
      go_cut [8, 7] (fun vi i wx => ∃ (m : Nat) (acc : List (List UInt8)), n + 1 ≤ m ∧ m ≤ ls.length ∧ i = .int .i64 m ∧ wx.ownsRow w0.heap.size 9 1 vi acc.length (strCs acc) ∧ Below w0.heap.size w0 wx ∧ acc.length = m - n ∧ Hid (itemIn ls n = acc ∧ (moreAt ls (n + 1)).2 = m))
      case first =>
        go_wp2_with fail
        go_loopg [8, 7] ls.length (fun gk vi i w2 => ∃ (m : Nat) (acc : List (List UInt8)), n + 1 ≤ m ∧ m ≤ ls.length ∧ ls.length - m ≤ gk ∧ i = .int .i64 m ∧ w2.ownsRow w0.heap.size 9 1 vi acc.length (strCs acc) ∧ Below w0.heap.size w0 w2 ∧ acc.length = m - n ∧ Hid (acc ++ (moreAt ls m).1 = itemIn ls n ∧ (moreAt ls m).2 = (moreAt ls (n + 1)).2))
        case atStart => exact ⟨n + 1, [l.drop 2], Nat.le_refl _, by omega, by omega, by go_num, hin1, hb1, by simp, ⟨by rw [HL.out]; rfl, rfl⟩⟩
        case round =>
          clear hin1 hb1
          rename World => w2
          obtain ⟨m, acc, hm1, hm2, hmk, rfl, hin2, hb2, hal, hq⟩ := hrel
          have B2 : Below w.heap.size w w2 := hbel.trans (hb2.mono hbs)
          have z2 := hb2.size
          obtain ⟨k, hk⟩ : ∃ x, behindS ls m = x := ⟨_, rfl⟩
          have hkl : k ≤ ls.length := by rw [← hk]; exact behind_le ls m hm2
          have hkm : m ≤ k := by rw [← hk]; exact behind_ge ls m
          have HK : Hid (behindS ls m = k) := hk
          have hcK2 := rbehind_any g o cap ls m w2 (HS.out.below B2 hglt) ⟨by omega, fun l hl => by have := HM.out.2 l hl; omega⟩ hm2
          rw [hk] at hcK2
          have hstop : moreAt ls m = ([], m) → Hid (itemIn ls n = acc ∧ (moreAt ls (n + 1)).2 = m) := by
            intro he
            have h1 := hq.out.1
            have h2 := hq.out.2
            rw [he] at h1 h2
            exact ⟨by rw [← h1]; simp, h2.symm⟩
          clear hk
          by_cases hlt : m < ls.length
          · by_cases hke : k < ls.length
            · obtain ⟨lk, hlk⟩ : ∃ l, ls[k] = l := ⟨_, rfl⟩
              have hcellk2 := (HS.out.below B2 hglt).cell k lk (by rw [List.getElem?_eq_getElem hke, hlk])
              have hcT := fun W => begins_any ⟨lk.toArray⟩ ⟨#[32, 32]⟩ W
              have htv : beginsS ⟨lk.toArray⟩ ⟨#[32, 32]⟩ = two lk := rfl
              rw [htv] at hcT
              cases htt : two lk with
              | true =>
                clear hstop
                have HG : Hid (moreAt ls m = (List.replicate (k - m) [] ++ lk.drop 2 :: (moreAt ls (k + 1)).1, (moreAt ls (k + 1)).2)) := by
                  have := more_go ls m k HK.out hke (by rw [hlk]; exact htt)
                  rw [hlk] at this
                  exact this
                obtain ⟨b, hb⟩ : ∃ b : ByteArray, b = ⟨lk.toArray⟩ := ⟨_, rfl⟩
                have hbsz : b.size ≤ 1073741824 := by rw [hb, size_of]; exact HM.out.2 lk (by rw [← hlk]; exact List.getElem_mem hke)
                have hb2' : 2 ≤ b.size := by
                  rw [hb]
                  by_cases h : 2 ≤ (⟨lk.toArray⟩ : ByteArray).size
                  · exact h
                  · have := begins_short ⟨lk.toArray⟩ ⟨#[32, 32]⟩ h
                    rw [htv, htt] at this
                    exact absurd this (by decide)
                have HX : Hid (b.extract 2 b.size = ⟨(lk.drop 2).toArray⟩) := by show _ = _; rw [hb, size_of]; exact ba_ext lk 2 lk.length rfl
                rw [htt] at hcT
                rw [← hb] at hcT hcellk2
                have HQ : Hid (acc ++ (moreAt ls m).1 = itemIn ls n ∧ (moreAt ls m).2 = (moreAt ls (n + 1)).2) := hq.out
                have hkb : ((k : Int) == (ls.length : Int)) = false := by simp; omega
                clear htt htv hlk hb hq
                go_upto_block 4 with (first | (go_at_call 66; refine hcK2.mono ?_; rintro e w' ⟨rfl, hw⟩; rw [hw]; clear hw) | (go_at_call 64; refine (hcT _).mono ?_; rintro e w' ⟨rfl, hw⟩; rw [hw]; clear hw))
                go_wp2_with fail
                go_loopg [8, 7] k (fun gk vi i w3 => ∃ j : Nat, m ≤ j ∧ j ≤ k ∧ k - j ≤ gk ∧ i = .int .i64 j ∧ w3.ownsRow w0.heap.size 9 1 vi (acc.length + (j - m)) (strCs (acc ++ List.replicate (j - m) [])) ∧ Below w0.heap.size w0 w3)
                case atStart => exact ⟨m, Nat.le_refl _, hkm, by omega, rfl, by simpa using hin2, hb2⟩
                case round =>
                  clear hin2
                  rename World => w3
                  obtain ⟨j, hj1, hj2, hjk, rfl, hin3, hb3⟩ := hrel
                  have z3 := hb3.size
                  by_cases hjl : j < k
                  · go_wp2_with (at_builtin; refine wpList_append_own _ rfl _ _ 25 rfl w0.heap.size 9 i0 (.string ⟨#[]⟩) 1 16 Tryz.underlying25 hi hz0 hz1 hz2 rfl (by decide) _ _ _ rfl (hin3.alloc _) ⟨w3.heap.size, 0, none⟩ 1 1 [.string ⟨#[]⟩] rfl rfl ?c1 ?c2 ?c3 ?c4 ?c5 ?_)
                    case c1 =>
                      intro j u hj
                      match j, hj with
                      | 0, hj => simp at hj; subst hj; simp [Addr.add]
                    case c2 => intro u hu; simp at hu; subst hu; rfl
                    case c3 => unfold maxLen; omega
                    case c4 => omega
                    case c5 => simp; omega
                    intro v4 w4 hin4 hgrow4 _
                    go_wp2
                    go_roundg (k - (j + 1))
                    case measure => omega
                    case rel =>
                      refine ⟨j + 1, by omega, by omega, Nat.le_refl _, by go_num, ?_, (hb3.alloc z3 _).grown hgrow4 (by simp; omega) (fun b hb => (hin3.lt b hb).1)⟩
                      have e1 : j + 1 - m = (j - m) + 1 := by omega
                      rw [e1, List.replicate_succ', ← List.append_assoc]
                      rw [show acc.length + (j - m + 1) = acc.length + (j - m) + 1 by omega]
                      rw [← hal] at hin4
                      simpa [strCs] using hin4
                  · have B3 : Below w.heap.size w w3 := hbel.trans (hb3.mono hbs)
                    have hcellk3 : w3.cell? ⟨g, o + k, none⟩ = some (.string b) := by
                      rw [B3.cell (p := ⟨g, o + k, none⟩) hglt, ← B2.cell (p := ⟨g, o + k, none⟩) hglt]
                      exact hcellk2
                    clear hcellk2
                    have hjeq : k = j := by omega
                    subst hjeq
                    go_wp2_with (at_builtin; refine wpList_append_own _ rfl _ _ 25 rfl w0.heap.size 9 i0 (.string ⟨#[]⟩) 1 16 Tryz.underlying25 hi hz0 hz1 hz2 rfl (by decide) _ _ _ rfl (hin3.alloc _) ⟨w3.heap.size, 0, none⟩ 1 1 [.string (b.extract 2 b.size)] rfl rfl ?c1 ?c2 ?c3 ?c4 ?c5 ?_)
                    case c1 =>
                      intro j u hj
                      match j, hj with
                      | 0, hj => simp at hj; subst hj; simp [Addr.add]
                    case c2 => intro u hu; simp at hu; subst hu; rfl
                    case c3 => unfold maxLen; omega
                    case c4 => omega
                    case c5 => simp; omega
                    intro v4 w4 hin4 hgrow4 _
                    go_wp2
                    go_roundg (ls.length - (k + 1))
                    case measure => omega
                    case rel =>
                      refine ⟨k + 1, acc ++ List.replicate (k - m) [] ++ [lk.drop 2], by omega, by omega, Nat.le_refl _, by go_num, ?_, (hb3.alloc z3 _).grown hgrow4 (by simp; omega) (fun b hb => (hin3.lt b hb).1), ?_, ?_⟩
                      · rw [HX.out] at hin4
                        have e1 : (acc ++ List.replicate (k - m) [] ++ [lk.drop 2]).length = acc.length + (k - m) + 1 := by simp; omega
                        rw [e1]
                        rw [← hal] at hin4
                        simpa [strCs] using hin4
                      · simp only [List.length_append, List.length_replicate, List.length_singleton]
                        omega
                      · have h1 := HQ.out.1
                        have h2 := HQ.out.2
                        rw [HG.out] at h1 h2
                        refine ⟨?_, h2⟩
                        rw [← h1]
                        simp
              | false =>
                have hfin := hstop (more_no ls m k HK.out hke (by rw [hlk]; exact htt))
                rw [htt] at hcT
                clear hstop hq htt htv hlk
                go_wp2_with (first | (go_at_call 66; refine hcK2.mono ?_; rintro e w' ⟨rfl, hw⟩; rw [hw]; clear hw) | (go_at_call 64; refine (hcT _).mono ?_; rintro e w' ⟨rfl, hw⟩; rw [hw]; clear hw))
                go_meet
                case rel => exact ⟨m, acc, hm1, hm2, rfl, hin2, hb2, hal, hfin⟩
            · have hfin := hstop (more_end ls m k HK.out hke)
              clear hstop hq
              go_wp2_with (first | (go_at_call 66; refine hcK2.mono ?_; rintro e w' ⟨rfl, hw⟩; rw [hw]; clear hw))
              go_meet
              case rel => exact ⟨m, acc, hm1, hm2, rfl, hin2, hb2, hal, hfin⟩
          · have hfin := hstop (more_end ls m k HK.out (by omega))
            clear hstop hq hcK2
            go_wp2
            go_meet
            case rel => exact ⟨m, acc, hm1, hm2, rfl, hin2, hb2, hal, hfin⟩
      case rest =>
        obtain ⟨m, acc, hm1, hm2, rfl, hin2, hb2, hal, hfin⟩ := hcut
        clear hin1 hb1
        have B2 : Below w.heap.size w wc := hbel.trans (hb2.mono hbs)
        obtain ⟨k, hk⟩ : ∃ x, behindS ls m = x := ⟨_, rfl⟩
        have hkl : k ≤ ls.length := by rw [← hk]; exact behind_le ls m hm2
        have hkm : m ≤ k := by rw [← hk]; exact behind_ge ls m
        have HK : Hid (behindS ls m = k) := hk
        clear hk
        have hm0 : acc.length ≤ 1073741824 := by omega
        have hEnd : Hid (∀ W, W.ownsRow w0.heap.size 9 1 u8 acc.length (strCs acc) → Calls Tryz.prog 15 #[u8, .int .i64 (depth + 1)] W fun e w' => ∃ v', e = .returned v' ∧ w'.ownsRow W.heap.size 83 4 v' (inner acc).length (evCs (inner acc)) ∧ Below W.heap.size W w') := by
          intro W ho
          exact HB.out u8 acc W (lines_own ho) (by rw [← hfin.out.1]; exact (item_small ls n hn _ HM.out).1)
        have hIb : (inner acc).length ≤ 16 * acc.length := HI.out acc
        obtain ⟨IA, hIA⟩ : ∃ x, inner acc = x := ⟨_, rfl⟩
        rw [hIA] at hEnd hIb
        have own2 := own_below hown hb2 (Nat.le_refl _)
        have z2 := hb2.size
        have HIA : Hid (inner acc = IA) := hIA
        clear hIA
        go_wp2_with (first | (go_at_call 15; refine (hEnd.out _ hin2).mono ?_; rintro e w3 ⟨vb, rfl, ownb, belb⟩) | (at_builtin; refine wpList_append_own _ rfl _ _ 27 rfl w.heap.size 83 j0 (.agg #[.int .i64 0, .bool false, .int .i64 0, .string ⟨#[]⟩]) 4 40 Tryz.underlying27 hj hy0 hy1 hy2 rfl (by decide) _ _ _ rfl ((own_below own2 belb (Nat.le_refl _)).alloc _) ⟨w3.heap.size, 0, none⟩ 1 1 (evCells ⟨4, false, 0, []⟩) rfl rfl ?e1 (ev_one _) ?e3 ?e4 ?e5 ?_))
        case e1 => exact ev_cell _ _ _ (by simp)
        case e3 => unfold maxLen; omega
        case e4 => omega
        case e5 => have := belb.size; simp; omega
        intro v4 w4 own4 grow4 _
        have z3 := belb.size
        have own3 := own_below own2 belb (Nat.le_refl _)
        have B3 : Below w.heap.size w w3 := B2.trans (belb.mono (by omega))
        have ownb4 := (ownb.alloc _).kept grow4 (own_ne own2 ownb (Nat.le_refl _))
        have B4 : Below w.heap.size w w4 := (B3.alloc (by omega) _).grown grow4 (by simp; omega) (fun b hb => (own3.lt b hb).1)
        have z4 := B4.size
        clear own3 ownb belb grow4 z3 B3 own2 hin2 hEnd
        go_wp2_with (at_builtin; refine wpList_append_row _ rfl _ _ 27 rfl w.heap.size wc.heap.size 83 j0 (.agg #[.int .i64 0, .bool false, .int .i64 0, .string ⟨#[]⟩]) 4 40 Tryz.underlying27 hj hy0 hy1 hy2 rfl (by decide) _ _ _ rfl own4 _ _ _ rfl ownb4 (evCs_one' _) ?f3 ?f4 ?f5 ?_)
        case f3 => unfold maxLen; omega
        case f4 => omega
        case f5 => omega
        intro v5 w5 own5 grow5
        have B5 : Below w.heap.size w w5 := B4.grown grow5 (by omega) (fun b hb => (own4.lt b hb).1)
        have z5 := B5.size
        clear own4 ownb4 grow5
        go_wp2_with (at_builtin; refine wpList_append_own _ rfl _ _ 27 rfl w.heap.size 83 j0 (.agg #[.int .i64 0, .bool false, .int .i64 0, .string ⟨#[]⟩]) 4 40 Tryz.underlying27 hj hy0 hy1 hy2 rfl (by decide) _ _ _ rfl (own5.alloc _) ⟨w5.heap.size, 0, none⟩ 1 1 (evCells ⟨4, true, 0, []⟩) rfl rfl ?g1 (ev_one _) ?g3 ?g4 ?g5 ?_)
        case g1 => exact ev_cell _ _ _ (by simp)
        case g3 => unfold maxLen; omega
        case g4 => omega
        case g5 => simp; omega
        intro v6 w6 own6 grow6 _
        have B6 : Below w.heap.size w w6 := (B5.alloc z5 _).grown grow6 (by simp; omega) (fun b hb => (own5.lt b hb).1)
        have z6 := B6.size
        have hcK := rbehind_any g o cap ls m w6 (HS.out.below B6 hglt) ⟨by omega, fun l hl => by have := HM.out.2 l hl; omega⟩ hm2
        rw [HK.out] at hcK
        have hkI : Hid (behindS ls (moreAt ls (n + 1)).2 = k) := by show _ = _; rw [hfin.out.2, HK.out]
        clear own5 grow6 z5 B5 z4 B4
        by_cases hke : k < ls.length
        · obtain ⟨lk, hlk⟩ : ∃ l, ls[k] = l := ⟨_, rfl⟩
          have hcellk := (HS.out.below B6 hglt).cell k lk (by rw [List.getElem?_eq_getElem hke, hlk])
          have hcI := fun W => ritem_any ⟨lk.toArray⟩ W
          have hiv : itemS ⟨lk.toArray⟩ = itemL lk := rfl
          rw [hiv] at hcI
          cases hii : itemL lk with
          | true =>
            have HG : Hid (itemsAt inner ls n = (itemEv inner ls n ++ (itemsAt inner ls k).1, (itemsAt inner ls k).2)) := items_go inner ls n k hkI.out hke (by rw [hlk]; exact hii)
            rw [hii] at hcI
            clear hii hiv hlk
            go_wp2_with (first | (go_at_call 66; refine hcK.mono ?_; rintro e w' ⟨rfl, hw⟩; rw [hw]; clear hw) | (go_at_call 65; refine (hcI _).mono ?_; rintro e w' ⟨rfl, hw⟩; rw [hw]; clear hw))
            go_roundg (ls.length - k)
            case rel =>
              refine ⟨k, done ++ itemEv inner ls n, hke, Nat.le_refl _, rfl, ?_, B6, ?_, ?_⟩
              · have e1 : (done ++ itemEv inner ls n).length = done.length + 1 + IA.length + 1 := by
                  rw [itemEv, hfin.out.1, HIA.out]
                  simp
                  omega
                have e2 : evCs (done ++ itemEv inner ls n) = evCs done ++ (evCells ⟨4, false, 0, []⟩ ++ (evCs IA ++ evCells ⟨4, true, 0, []⟩)) := by
                  rw [itemEv, hfin.out.1, HIA.out]
                  simp [evCs]
                rw [e1, e2]
                first | exact own6 | (simpa only [List.append_assoc] using own6)
              · refine ⟨?_, ?_⟩
                · rw [← hJ.out.1, HG.out, List.append_assoc]
                · rw [← hJ.out.2, HG.out]
              · rw [itemEv, hfin.out.1, HIA.out]
                simp <;> omega
            case measure => omega
          | false =>
            have HF : Hid (listN inner ls = m ∧ (listS inner ls).length = done.length + 1 + IA.length + 1 + 1 ∧ evCs (listS inner ls) = evCs done ++ (evCells ⟨4, false, 0, []⟩ ++ (evCs IA ++ (evCells ⟨4, true, 0, []⟩ ++ evCells ⟨3, true, 0, []⟩)))) :=
              list_fin inner ls n m done IA hJ.out (by rw [items_no inner ls n k hkI.out hke (by rw [hlk]; exact hii), hfin.out.2]) (by rw [itemEv, hfin.out.1, HIA.out])
            rw [hii] at hcI
            clear hii hiv hlk
            go_wp2_with (first | (go_at_call 66; refine hcK.mono ?_; rintro e w' ⟨rfl, hw⟩; rw [hw]; clear hw) | (go_at_call 65; refine (hcI _).mono ?_; rintro e w' ⟨rfl, hw⟩; rw [hw]; clear hw) | (at_builtin; refine wpList_append_own _ rfl _ _ 27 rfl w.heap.size 83 j0 (.agg #[.int .i64 0, .bool false, .int .i64 0, .string ⟨#[]⟩]) 4 40 Tryz.underlying27 hj hy0 hy1 hy2 rfl (by decide) _ _ _ rfl (own6.alloc _) ⟨w6.heap.size, 0, none⟩ 1 1 (evCells ⟨3, true, 0, []⟩) rfl rfl ?z1 (ev_one _) ?z3 ?z4 ?z5 ?_))
            case z1 => exact ev_cell _ _ _ (by simp)
            case z3 => unfold maxLen; omega
            case z4 => omega
            case z5 => simp; omega
            intro v9 w9 own9 grow9 _
            go_wp2
            go_ret2
            refine ⟨v9, by rw [HF.out.1]; rfl, ?_, (B6.alloc z6 _).grown grow9 (by simp; omega) (fun b hb => (own6.lt b hb).1)⟩
            rw [HF.out.2.1, HF.out.2.2]
            first | exact own9 | (simpa only [List.append_assoc] using own9)
        · have HF : Hid (listN inner ls = m ∧ (listS inner ls).length = done.length + 1 + IA.length + 1 + 1 ∧ evCs (listS inner ls) = evCs done ++ (evCells ⟨4, false, 0, []⟩ ++ (evCs IA ++ (evCells ⟨4, true, 0, []⟩ ++ evCells ⟨3, true, 0, []⟩)))) :=
            list_fin inner ls n m done IA hJ.out (by rw [items_end inner ls n k hkI.out hke, hfin.out.2]) (by rw [itemEv, hfin.out.1, HIA.out])
          go_wp2_with (first | (go_at_call 66; refine hcK.mono ?_; rintro e w' ⟨rfl, hw⟩; rw [hw]; clear hw) | (at_builtin; refine wpList_append_own _ rfl _ _ 27 rfl w.heap.size 83 j0 (.agg #[.int .i64 0, .bool false, .int .i64 0, .string ⟨#[]⟩]) 4 40 Tryz.underlying27 hj hy0 hy1 hy2 rfl (by decide) _ _ _ rfl (own6.alloc _) ⟨w6.heap.size, 0, none⟩ 1 1 (evCells ⟨3, true, 0, []⟩) rfl rfl ?z1 (ev_one _) ?z3 ?z4 ?z5 ?_))
          case z1 => exact ev_cell _ _ _ (by simp)
          case z3 => unfold maxLen; omega
          case z4 => omega
          case z5 => simp; omega
          intro v9 w9 own9 grow9 _
          go_wp2
          go_ret2
          refine ⟨v9, by rw [HF.out.1]; rfl, ?_, (B6.alloc z6 _).grown grow9 (by simp; omega) (fun b hb => (own6.lt b hb).1)⟩
          rw [HF.out.2.1, HF.out.2.2]
          first | exact own9 | (simpa only [List.append_assoc] using own9)

end Go.Proofs.YtljcljipppjnoaaGreatDoor
