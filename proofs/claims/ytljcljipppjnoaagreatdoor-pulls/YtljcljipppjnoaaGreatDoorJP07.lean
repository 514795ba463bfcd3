import Derived.Test.YtljcljipppjnoaaGreatDoorJP02
import Derived.Deep.AppendLies
import Derived.Deep.CutBlock
import Derived.Deep.DeepCutAuto
import Derived.Deep.Light
namespace Go.Proofs.YtljcljipppjnoaaGreatDoor
open Go.RowKit

theorem list_fin (inner : List (List UInt8) → List Ev) (ls : List (List UInt8)) (n m : Nat) (done IA : List Ev) (hJ : done ++ (itemsAt inner ls n).1 = [⟨3, false, 0, []⟩] ++ (itemsAt inner ls 0).1 ∧ (itemsAt inner ls n).2 = (itemsAt inner ls 0).2)
    (hit : itemsAt inner ls n = (itemEv inner ls n, m)) (hev : itemEv inner ls n = [⟨4, false, 0, []⟩] ++ IA ++ [⟨4, true, 0, []⟩]) :
    listN inner ls = m ∧ (listS inner ls).length = done.length + 1 + IA.length + 1 + 1 ∧ evCs (listS inner ls) = evCs done ++ (evCells ⟨4, false, 0, []⟩ ++ (evCs IA ++ (evCells ⟨4, true, 0, []⟩ ++ evCells ⟨3, true, 0, []⟩))) := by
  obtain ⟨h1, h2⟩ := hJ
  rw [hit] at h1 h2
  simp only at h1 h2
  refine ⟨h2.symm, ?_, ?_⟩
  · rw [listS, ← h1, hev]
    simp
    omega
  · rw [listS, ← h1, hev]
    simp [evCs]

theorem own_ne {w w' : World} {base base' size size' n n' : Nat} {e e' : TypeId} {v v' : Value} {xs xs' : List Value} (h1 : w.ownsRow base e size v n xs) (h2 : w'.ownsRow base' e' size' v' n' xs') (hb : w.heap.size ≤ base') : v'.ownBlock = none ∨ v'.ownBlock ≠ v.ownBlock := by
  cases hv : v'.ownBlock with
  | none => exact Or.inl rfl
  | some k =>
    refine Or.inr fun he => ?_
    have a := (h1.lt k he.symm).2
    have b := (h2.lt k hv).1
    omega

set_option maxRecDepth 100000 in
set_option maxRecDepth 100000 in
set_option maxHeartbeats 4000000 in
theorem rlisted_any (inner : List (List UInt8) → List Ev) (depth : Int) (hd : 0 ≤ depth ∧ depth < 3) (hB : BlocksC (depth + 1) inner) (hI : ∀ ls, (inner ls).length ≤ 16 * ls.length)
    (g o cap : Nat) (ls : List (List UInt8)) (w : World) (hS : Strs g o cap ls w) (hM : Small 1073741824 ls) (hn0 : 0 < ls.length) :
    Calls Tryz.prog 43 #[.slice (some ⟨g, o, none⟩) ls.length cap, .int .i64 depth] w fun e w' =>
      ∃ v, e = .returned (.tuple #[v, .int .i64 (listN inner ls)]) ∧ w'.ownsRow w.heap.size 83 4 v (listS inner ls).length (evCs (listS inner ls)) ∧ Below w.heap.size w w' := by
  have hlen := hM.1
  have HM : Hid (Small 1073741824 ls) := hM
  have HS : Hid (Strs g o cap ls w) := hS
  have hglt := hS.lt
  have HI : Hid (∀ ls, (inner ls).length ≤ 16 * ls.length) := hI
  have HB : Hid (BlocksC (depth + 1) inner) := hB
  clear hM hS hI hB
  obtain ⟨hd1, hd2⟩ := hd
  obtain ⟨i0, hi, hz0, hz1, hz2⟩ := info_parts Tryz.infoStr
  obtain ⟨j0, hj, hy0, hy1, hy2⟩ := info_parts Tryz.infoEv
  have oL := own_lit w ⟨3, false, 0, []⟩ 83
  go_enter Tryz.func43, Tryz.ntmps43
  go_wp2
  go_loopg [6, 7] ls.length (fun gk v i wr => ∃ (n : Nat) (done : List Ev), n < ls.length ∧ ls.length - n ≤ gk ∧ i = .int .i64 n ∧ wr.ownsRow w.heap.size 83 4 v done.length (evCs done) ∧ Below w.heap.size w wr ∧ Hid (done ++ (itemsAt inner ls n).1 = [⟨3, false, 0, []⟩] ++ (itemsAt inner ls 0).1 ∧ (itemsAt inner ls n).2 = (itemsAt inner ls 0).2) ∧ done.length ≤ 1 + 18 * n)
  case atStart => exact ⟨0, [⟨3, false, 0, []⟩], hn0, by omega, rfl, oL, (Below.refl _ w).alloc (Nat.le_refl _) _, ⟨rfl, rfl⟩, by simp⟩
  case round =>
    clear oL
    rename World => w0
    obtain ⟨n, done, hn, hgk, rfl, hown, hbel, hJ, hdl⟩ := hrel
    have hbs := hbel.size
    obtain ⟨l, hl⟩ : ∃ l, ls[n] = l := ⟨_, rfl⟩
    obtain ⟨b, hb⟩ : ∃ b : ByteArray, b = ⟨l.toArray⟩ := ⟨_, rfl⟩
    have hcell := (HS.out.below hbel hglt).cell n l (by rw [List.getElem?_eq_getElem hn, hl])
    rw [← hb] at hcell
    have hbsz : b.size ≤ 1073741824 := by rw [hb, size_of]; exact HM.out.2 l (by rw [← hl]; exact List.getElem_mem hn)
    have hX : b.extract 2 b.size = ⟨(l.drop 2).toArray⟩ := by rw [hb, size_of]; exact ba_ext l 2 l.length rfl
    have hl2 : ¬ 2 < b.size → l.drop 2 = [] := by
      intro h
      rw [hb, size_of] at h
      exact List.drop_eq_nil_iff.2 (by omega)
    have HL : Hid (itemIn ls n = l.drop 2 :: (moreAt ls (n + 1)).1) := by
      show _ = _
      rw [itemIn, List.getElem?_eq_getElem hn, hl]
      rfl
    have HX : Hid (b.extract 2 b.size = ⟨(l.drop 2).toArray⟩) := hX
    have HL2 : Hid (¬ 2 < b.size → l.drop 2 = []) := hl2
    clear hb hl hX hl2
    go_wp2_with (at_builtin; refine wpList_append_own _ rfl _ _ 25 rfl w0.heap.size 9 i0 (.string ⟨#[]⟩) 1 16 Tryz.underlying25 hi hz0 hz1 hz2 rfl (by decide) _ 0 [] rfl (World.ownsRow_nil _ _ _ _) ⟨w0.heap.size, 0, none⟩ 1 1 [.string ⟨#[]⟩] rfl rfl ?c1 ?c2 ?c3 ?c4 ?c5 ?_)
    case c1 =>
      intro j u hj
      match j, hj with
      | 0, hj => simp at hj; subst hj; simp [Addr.add]
    case c2 => intro u hu; simp at hu; subst hu; rfl
    case c3 => unfold maxLen; omega
    case c4 => omega
    case c5 => simp
    intro vi w1 hin hgrow _
    have b1 : Below w0.heap.size w0 w1 := ((Below.refl _ w0).alloc (Nat.le_refl _) _).grown hgrow (by simp) (fun b hb => by cases hb)
    obtain ⟨gi, ci, rfl, hgi, hgl⟩ := hin.form (by omega)
    have hc0 : w1.cell? ⟨gi, 0, none⟩ = some (.string ⟨#[]⟩) := hin.cellAt 0 (by omega)
    have hf0 := hin.frozenAt 0
    rw [← b1.cell (p := ⟨g, o + n, none⟩) (by show g < _; omega)] at hcell
    clear hgrow
    go_upto_if 23 with fail
    go_cut [8] (fun vi wx => wx.ownsRow w0.heap.size 9 1 vi 1 (strCs [l.drop 2]) ∧ Below w0.heap.size w0 wx)
    case first =>
      by_cases h2 : 2 < b.size
      · have hs := hin.stored 0 (.string (b.extract 2 b.size))
        obtain ⟨hs1, hs2⟩ := hs
        have hs1' : (w1.setCell ⟨gi, 0, none⟩ (.string (b.extract 2 b.size))).ownsRow w0.heap.size 9 1 (.slice (some ⟨gi, 0, none⟩) 1 ci) 1 (strCs [l.drop 2]) := by
          rw [HX.out] at hs1 ⊢
          exact hs1
        have b2 := b1.grown hs2 (by have := b1.size; omega) (fun b hb => by cases hb; exact hgi)
        clear hs1 hs2 hin
        go_wp2
        go_meet
        case rel => exact ⟨hs1', b2⟩
      · have hin' : w1.ownsRow w0.heap.size 9 1 (.slice (some ⟨gi, 0, none⟩) 1 ci) 1 (strCs [l.drop 2]) := by
          rw [HL2.out h2]
          exact hin
        clear hin
        go_wp2
        go_meet
        case rel => exact ⟨hin', b1⟩
    case rest =>
      clear hin hc0 hf0 hcell hgi hgl b1
      obtain ⟨hin1, hb1⟩ := hcut
      rename World => w1'
      go_upto_block 2 with fail
      go_cut [8, 7] (fun vi i wx => ∃ (m : Nat) (acc : List (List UInt8)), n + 1 ≤ m ∧ m ≤ ls.length ∧ i = .int .i64 m ∧ wx.ownsRow w0.heap.size 9 1 vi acc.length (strCs acc) ∧ Below w0.heap.size w0 wx ∧ acc.length = m - n ∧ Hid (itemIn ls n = acc ∧ (moreAt ls (n + 1)).2 = m))
      case first =>
        go_wp2_with fail
        go_loopg [8, 7] ls.length (fun gk vi i w2 => ∃ (m : Nat) (acc : List (List UInt8)), n + 1 ≤ m ∧ m ≤ ls.length ∧ ls.length - m ≤ gk ∧ i = .int .i64 m ∧ w2.ownsRow w0.heap.size 9 1 vi acc.length (strCs acc) ∧ Below w0.heap.size w0 w2 ∧ acc.length = m - n ∧ Hid (acc ++ (moreAt ls m).1 = itemIn ls n ∧ (moreAt ls m).2 = (moreAt ls (n + 1)).2))
        case atStart => exact ⟨n + 1, [l.drop 2], Nat.le_refl _, by omega, by omega, by go_num, hin1, hb1, by simp, ⟨by rw [HL.out]; rfl, rfl⟩⟩
        case round =>
          clear hin1 hb1
          rename World => w2
          obtain ⟨m, acc, hm1, hm2, hmk, rfl, hin2, hb2, hal, hq⟩ := hrel
          have B2 : Below w.heap.size w w2 := hbel.trans (hb2.mono hbs)
          have z2 := hb2.size
          obtain ⟨k, hk⟩ : ∃ x, behindS ls m = x := ⟨_, rfl⟩
          have hkl : k ≤ ls.length := by rw [← hk]; exact behind_le ls m hm2
          have hkm : m ≤ k := by rw [← hk]; exact behind_ge ls m
          have HK : Hid (behindS ls m = k) := hk
          have hcK2 := rbehind_any g o cap ls m w2 (HS.out.below B2 hglt) ⟨by omega, fun l hl => by have := HM.out.2 l hl; omega⟩ hm2
          rw [hk] at hcK2
          have hstop : moreAt ls m = ([], m) → Hid (itemIn ls n = acc ∧ (moreAt ls (n + 1)).2 = m) := by
            intro he
            have h1 := hq.out.1
            have h2 := hq.out.2
            rw [he] at h1 h2
            exact ⟨by rw [← h1]; simp, h2.symm⟩
          clear hk
          by_cases hlt : m < ls.length
          · by_cases hke : k < ls.length
            · obtain ⟨lk, hlk⟩ : ∃ l, ls[k] = l := ⟨_, rfl⟩
              have hcellk2 := (HS.out.below B2 hglt).cell k lk (by rw [List.getElem?_eq_getElem hke, hlk])
              have hcT := fun W => begins_any ⟨lk.toArray⟩ ⟨#[32, 32]⟩ W
              have htv : beginsS ⟨lk.toArray⟩ ⟨#[32, 32]⟩ = two lk := rfl
              rw [htv] at hcT
              cases htt : two lk with
              | true =>
                clear hstop
                have HG : Hid (moreAt ls m = (List.replicate (k - m) [] ++ lk.drop 2 :: (moreAt ls (k + 1)).1, (moreAt ls (k + 1)).2)) := by
                  have := more_go ls m k HK.out hke (by rw [hlk]; exact htt)
                  rw [hlk] at this
                  exact this
                obtain ⟨b, hb⟩ : ∃ b : ByteArray, b = ⟨lk.toArray⟩ := ⟨_, rfl⟩
                have hbsz : b.size ≤ 1073741824 := by rw [hb, size_of]; exact HM.out.2 lk (by rw [← hlk]; exact List.getElem_mem hke)
                have hb2' : 2 ≤ b.size := by
                  rw [hb]
                  by_cases h : 2 ≤ (⟨lk.toArray⟩ : ByteArray).size
                  · exact h
                  · have := begins_short ⟨lk.toArray⟩ ⟨#[32, 32]⟩ h
                    rw [htv, htt] at this
                    exact absurd this (by decide)
                have HX : Hid (b.extract 2 b.size = ⟨(lk.drop 2).toArray⟩) := by show _ = _; rw [hb, size_of]; exact ba_ext lk 2 lk.length rfl
                rw [htt] at hcT
                rw [← hb] at hcT hcellk2
                have HQ : Hid (acc ++ (moreAt ls m).1 = itemIn ls n ∧ (moreAt ls m).2 = (moreAt ls (n + 1)).2) := hq.out
                have hkb : ((k : Int) == (ls.length : Int)) = false := by simp; omega
                clear htt htv hlk hb hq
                go_upto_block 4 with (first | (go_at_call 66; refine hcK2.mono ?_; rintro e w' ⟨rfl, hw⟩; rw [hw]; clear hw) | (go_at_call 64; refine (hcT _).mono ?_; rintro e w' ⟨rfl, hw⟩; rw [hw]; clear hw))
                go_wp2_with fail
                go_loopg [8, 7] k (fun gk vi i w3 => ∃ j : Nat, m ≤ j ∧ j ≤ k ∧ k - j ≤ gk ∧ i = .int .i64 j ∧ w3.ownsRow w0.heap.size 9 1 vi (acc.length + (j - m)) (strCs (acc ++ List.replicate (j - m) [])) ∧ Below w0.heap.size w0 w3)
                case atStart => exact ⟨m, Nat.le_refl _, hkm, by omega, rfl, by simpa using hin2, hb2⟩
                case round =>
                  clear hin2
                  rename World => w3
                  obtain ⟨j, hj1, hj2, hjk, rfl, hin3, hb3⟩ := hrel
                  have z3 := hb3.size
                  by_cases hjl : j < k
                  · go_wp2_with (at_builtin; refine wpList_append_own _ rfl _ _ 25 rfl w0.heap.size 9 i0 (.string ⟨#[]⟩) 1 16 Tryz.underlying25 hi hz0 hz1 hz2 rfl (by decide) _ _ _ rfl (hin3.alloc _) ⟨w3.heap.size, 0, none⟩ 1 1 [.string ⟨#[]⟩] rfl rfl ?c1 ?c2 ?c3 ?c4 ?c5 ?_)
                    case c1 =>
                      intro j u hj
                      match j, hj with
                      | 0, hj => simp at hj; subst hj; simp [Addr.add]
                    case c2 => intro u hu; simp at hu; subst hu; rfl
                    case c3 => unfold maxLen; omega
                    case c4 => omega
                    case c5 => simp; omega
                    intro v4 w4 hin4 hgrow4 _
                    go_wp2
                    go_roundg (k - (j + 1))
                    case measure => omega
                    case rel =>
                      refine ⟨j + 1, by omega, by omega, Nat.le_refl _, by go_num, ?_, (hb3.alloc z3 _).grown hgrow4 (by simp; omega) (fun b hb => (hin3.lt b hb).1)⟩
                      have e1 : j + 1 - m = (j - m) + 1 := by omega
                      rw [e1, List.replicate_succ', ← List.append_assoc]
                      rw [show acc.length + (j - m + 1) = acc.length + (j - m) + 1 by omega]
                      rw [← hal] at hin4
                      simpa [strCs] using hin4
                  · have B3 : Below w.heap.size w w3 := hbel.trans (hb3.mono hbs)
                    have hcellk3 : w3.cell? ⟨g, o + k, none⟩ = some (.string b) := by
                      rw [B3.cell (p := ⟨g, o + k, none⟩) hglt, ← B2.cell (p := ⟨g, o + k, none⟩) hglt]
                      exact hcellk2
                    clear hcellk2
                    have hjeq : k = j := by omega
                    subst hjeq
                    go_wp2_with (at_builtin; refine wpList_append_own _ rfl _ _ 25 rfl w0.heap.size 9 i0 (.string ⟨#[]⟩) 1 16 Tryz.underlying25 hi hz0 hz1 hz2 rfl (by decide) _ _ _ rfl (hin3.alloc _) ⟨w3.heap.size, 0, none⟩ 1 1 [.string (b.extract 2 b.size)] rfl rfl ?c1 ?c2 ?c3 ?c4 ?c5 ?_)
                    case c1 =>
                      intro j u hj
                      match j, hj with
                      | 0, hj => simp at hj; subst hj; simp [Addr.add]
                    case c2 => intro u hu; simp at hu; subst hu; rfl
                    case c3 => unfold maxLen; omega
                    case c4 => omega
                    case c5 => simp; omega
                    intro v4 w4 hin4 hgrow4 _
                    go_wp2
                    go_roundg (ls.length - (k + 1))
                    case measure => omega
                    case rel =>
                      refine ⟨k + 1, acc ++ List.replicate (k - m) [] ++ [lk.drop 2], by omega, by omega, Nat.le_refl _, by go_num, ?_, (hb3.alloc z3 _).grown hgrow4 (by simp; omega) (fun b hb => (hin3.lt b hb).1), ?_, ?_⟩
                      · rw [HX.out] at hin4
                        have e1 : (acc ++ List.replicate (k - m) [] ++ [lk.drop 2]).length = acc.length + (k - m) + 1 := by simp; omega
                        rw [e1]
                        rw [← hal] at hin4
                        simpa [strCs] using hin4
                      · simp only [List.length_append, List.length_replicate, List.length_singleton]
                        omega
                      · have h1 := HQ.out.1
                        have h2 := HQ.out.2
                        rw [HG.out] at h1 h2
                        refine ⟨?_, h2⟩
                        rw [← h1]
                        simp
              | false =>
                have hfin := hstop (more_no ls m k HK.out hke (by rw [hlk]; exact htt))
                rw [htt] at hcT
                clear hstop hq htt htv hlk
                go_wp2_with (first | (go_at_call 66; refine hcK2.mono ?_; rintro e w' ⟨rfl, hw⟩; rw [hw]; clear hw) | (go_at_call 64; refine (hcT _).mono ?_; rintro e w' ⟨rfl, hw⟩; rw [hw]; clear hw))
                go_meet
                case rel => exact ⟨m, acc, hm1, hm2, rfl, hin2, hb2, hal, hfin⟩
            · have hfin := hstop (more_end ls m k HK.out hke)
              clear hstop hq
              go_wp2_with (first | (go_at_call 66; refine hcK2.mono ?_; rintro e w' ⟨rfl, hw⟩; rw [hw]; clear hw))
              go_meet
              case rel => exact ⟨m, acc, hm1, hm2, rfl, hin2, hb2, hal, hfin⟩
          · have hfin := hstop (more_end ls m k HK.out (by omega))
            clear hstop hq hcK2
            go_wp2
            go_meet
            case rel => exact ⟨m, acc, hm1, hm2, rfl, hin2, hb2, hal, hfin⟩
      case rest =>
        obtain ⟨m, acc, hm1, hm2, rfl, hin2, hb2, hal, hfin⟩ := hcut
        clear hin1 hb1
        have B2 : Below w.heap.size w wc := hbel.trans (hb2.mono hbs)
        obtain ⟨k, hk⟩ : ∃ x, behindS ls m = x := ⟨_, rfl⟩
        have hkl : k ≤ ls.length := by rw [← hk]; exact behind_le ls m hm2
        have hkm : m ≤ k := by rw [← hk]; exact behind_ge ls m
        have HK : Hid (behindS ls m = k) := hk
        clear hk
        have hm0 : acc.length ≤ 1073741824 := by omega
        have hEnd : Hid (∀ W, W.ownsRow w0.heap.size 9 1 u8 acc.length (strCs acc) → Calls Tryz.prog 15 #[u8, .int .i64 (depth + 1)] W fun e w' => ∃ v', e = .returned v' ∧ w'.ownsRow W.heap.size 83 4 v' (inner acc).length (evCs (inner acc)) ∧ Below W.heap.size W w') := by
          intro W ho
          exact HB.out u8 acc W (lines_own ho) (by rw [← hfin.out.1]; exact (item_small ls n hn _ HM.out).1)
        have hIb : (inner acc).length ≤ 16 * acc.length := HI.out acc
        obtain ⟨IA, hIA⟩ : ∃ x, inner acc = x := ⟨_, rfl⟩
        rw [hIA] at hEnd hIb
        have own2 := own_below hown hb2 (Nat.le_refl _)
        have z2 := hb2.size
        have HIA : Hid (inner acc = IA) := hIA
        clear hIA
        go_wp2_with (first | (go_at_call 15; refine (hEnd.out _ hin2).mono ?_; rintro e w3 ⟨vb, rfl, ownb, belb⟩) | (at_builtin; refine wpList_append_own _ rfl _ _ 27 rfl w.heap.size 83 j0 (.agg #[.int .i64 0, .bool false, .int .i64 0, .string ⟨#[]⟩]) 4 40 Tryz.underlying27 hj hy0 hy1 hy2 rfl (by decide) _ _ _ rfl ((own_below own2 belb (Nat.le_refl _)).alloc _) ⟨w3.heap.size, 0, none⟩ 1 1 (evCells ⟨4, false, 0, []⟩) rfl rfl ?e1 (ev_one _) ?e3 ?e4 ?e5 ?_))
        case e1 => exact ev_cell _ _ _ (by simp)
        case e3 => unfold maxLen; omega
        case e4 => omega
        case e5 => have := belb.size; simp; omega
        intro v4 w4 own4 grow4 _
        have z3 := belb.size
        have own3 := own_below own2 belb (Nat.le_refl _)
        have B3 : Below w.heap.size w w3 := B2.trans (belb.mono (by omega))
        have ownb4 := (ownb.alloc _).kept grow4 (own_ne own2 ownb (Nat.le_refl _))
        have B4 : Below w.heap.size w w4 := (B3.alloc (by omega) _).grown grow4 (by simp; omega) (fun b hb => (own3.lt b hb).1)
        have z4 := B4.size
        clear own3 ownb belb grow4 z3 B3 own2 hin2 hEnd
        go_wp2_with (at_builtin; refine wpList_append_row _ rfl _ _ 27 rfl w.heap.size wc.heap.size 83 j0 (.agg #[.int .i64 0, .bool false, .int .i64 0, .string ⟨#[]⟩]) 4 40 Tryz.underlying27 hj hy0 hy1 hy2 rfl (by decide) _ _ _ rfl own4 _ _ _ rfl ownb4 (evCs_one' _) ?f3 ?f4 ?f5 ?_)
        case f3 => unfold maxLen; omega
        case f4 => omega
        case f5 => omega
        intro v5 w5 own5 grow5
        have B5 : Below w.heap.size w w5 := B4.grown grow5 (by omega) (fun b hb => (own4.lt b hb).1)
        have z5 := B5.size
        clear own4 ownb4 grow5
        go_wp2_with (at_builtin; refine wpList_append_own _ rfl _ _ 27 rfl w.heap.size 83 j0 (.agg #[.int .i64 0, .bool false, .int .i64 0, .string ⟨#[]⟩]) 4 40 Tryz.underlying27 hj hy0 hy1 hy2 rfl (by decide) _ _ _ rfl (own5.alloc _) ⟨w5.heap.size, 0, none⟩ 1 1 (evCells ⟨4, true, 0, []⟩) rfl rfl ?g1 (ev_one _) ?g3 ?g4 ?g5 ?_)
        case g1 => exact ev_cell _ _ _ (by simp)
        case g3 => unfold maxLen; omega
        case g4 => omega
        case g5 => simp; omega
        intro v6 w6 own6 grow6 _
        have B6 : Below w.heap.size w w6 := (B5.alloc z5 _).grown grow6 (by simp; omega) (fun b hb => (own5.lt b hb).1)
        have z6 := B6.size
        have hcK := rbehind_any g o cap ls m w6 (HS.out.below B6 hglt) ⟨by omega, fun l hl => by have := HM.out.2 l hl; omega⟩ hm2
        rw [HK.out] at hcK
        have hkI : Hid (behindS ls (moreAt ls (n + 1)).2 = k) := by show _ = _; rw [hfin.out.2, HK.out]
        clear own5 grow6 z5 B5 z4 B4
        by_cases hke : k < ls.length
        · obtain ⟨lk, hlk⟩ : ∃ l, ls[k] = l := ⟨_, rfl⟩
          have hcellk := (HS.out.below B6 hglt).cell k lk (by rw [List.getElem?_eq_getElem hke, hlk])
          have hcI := fun W => ritem_any ⟨lk.toArray⟩ W
          have hiv : itemS ⟨lk.toArray⟩ = itemL lk := rfl
          rw [hiv] at hcI
          cases hii : itemL lk with
          | true =>
            have HG : Hid (itemsAt inner ls n = (itemEv inner ls n ++ (itemsAt inner ls k).1, (itemsAt inner ls k).2)) := items_go inner ls n k hkI.out hke (by rw [hlk]; exact hii)
            rw [hii] at hcI
            clear hii hiv hlk
            go_wp2_with (first | (go_at_call 66; refine hcK.mono ?_; rintro e w' ⟨rfl, hw⟩; rw [hw]; clear hw) | (go_at_call 65; refine (hcI _).mono ?_; rintro e w' ⟨rfl, hw⟩; rw [hw]; clear hw))
            go_roundg (ls.length - k)
            case rel =>
              refine ⟨k, done ++ itemEv inner ls n, hke, Nat.le_refl _, rfl, ?_, B6, ?_, ?_⟩
              · have e1 : (done ++ itemEv inner ls n).length = done.length + 1 + IA.length + 1 := by
                  rw [itemEv, hfin.out.1, HIA.out]
                  simp
                  omega
                have e2 : evCs (done ++ itemEv inner ls n) = evCs done ++ (evCells ⟨4, false, 0, []⟩ ++ (evCs IA ++ evCells ⟨4, true, 0, []⟩)) := by
                  rw [itemEv, hfin.out.1, HIA.out]
                  simp [evCs]
                rw [e1, e2]
                first | exact own6 | (simpa only [List.append_assoc] using own6)
              · refine ⟨?_, ?_⟩
                · rw [← hJ.out.1, HG.out, List.append_assoc]
                · rw [← hJ.out.2, HG.out]
              · rw [itemEv, hfin.out.1, HIA.out]
                simp <;> omega
            case measure => omega
          | false =>
            have HF : Hid (listN inner ls = m ∧ (listS inner ls).length = done.length + 1 + IA.length + 1 + 1 ∧ evCs (listS inner ls) = evCs done ++ (evCells ⟨4, false, 0, []⟩ ++ (evCs IA ++ (evCells ⟨4, true, 0, []⟩ ++ evCells ⟨3, true, 0, []⟩)))) :=
              list_fin inner ls n m done IA hJ.out (by rw [items_no inner ls n k hkI.out hke (by rw [hlk]; exact hii), hfin.out.2]) (by rw [itemEv, hfin.out.1, HIA.out])
            rw [hii] at hcI
            clear hii hiv hlk
            go_wp2_with (first | (go_at_call 66; refine hcK.mono ?_; rintro e w' ⟨rfl, hw⟩; rw [hw]; clear hw) | (go_at_call 65; refine (hcI _).mono ?_; rintro e w' ⟨rfl, hw⟩; rw [hw]; clear hw) | (at_builtin; refine wpList_append_own _ rfl _ _ 27 rfl w.heap.size 83 j0 (.agg #[.int .i64 0, .bool false, .int .i64 0, .string ⟨#[]⟩]) 4 40 Tryz.underlying27 hj hy0 hy1 hy2 rfl (by decide) _ _ _ rfl (own6.alloc _) ⟨w6.heap.size, 0, none⟩ 1 1 (evCells ⟨3, true, 0, []⟩) rfl rfl ?z1 (ev_one _) ?z3 ?z4 ?z5 ?_))
            case z1 => exact ev_cell _ _ _ (by simp)
            case z3 => unfold maxLen; omega
            case z4 => omega
            case z5 => simp; omega
            intro v9 w9 own9 grow9 _
            go_wp2
            go_ret2
            refine ⟨v9, by rw [HF.out.1]; rfl, ?_, (B6.alloc z6 _).grown grow9 (by simp; omega) (fun b hb => (own6.lt b hb).1)⟩
            rw [HF.out.2.1, HF.out.2.2]
            first | exact own9 | (simpa only [List.append_assoc] using own9)
        · have HF : Hid (listN inner ls = m ∧ (listS inner ls).length = done.length + 1 + IA.length + 1 + 1 ∧ evCs (listS inner ls) = evCs done ++ (evCells ⟨4, false, 0, []⟩ ++ (evCs IA ++ (evCells ⟨4, true, 0, []⟩ ++ evCells ⟨3, true, 0, []⟩)))) :=
            list_fin inner ls n m done IA hJ.out (by rw [items_end inner ls n k hkI.out hke, hfin.out.2]) (by rw [itemEv, hfin.out.1, HIA.out])
          go_wp2_with (first | (go_at_call 66; refine hcK.mono ?_; rintro e w' ⟨rfl, hw⟩; rw [hw]; clear hw) | (at_builtin; refine wpList_append_own _ rfl _ _ 27 rfl w.heap.size 83 j0 (.agg #[.int .i64 0, .bool false, .int .i64 0, .string ⟨#[]⟩]) 4 40 Tryz.underlying27 hj hy0 hy1 hy2 rfl (by decide) _ _ _ rfl (own6.alloc _) ⟨w6.heap.size, 0, none⟩ 1 1 (evCells ⟨3, true, 0, []⟩) rfl rfl ?z1 (ev_one _) ?z3 ?z4 ?z5 ?_))
          case z1 => exact ev_cell _ _ _ (by simp)
          case z3 => unfold maxLen; omega
          case z4 => omega
          case z5 => simp; omega
          intro v9 w9 own9 grow9 _
          go_wp2
          go_ret2
          refine ⟨v9, by rw [HF.out.1]; rfl, ?_, (B6.alloc z6 _).grown grow9 (by simp; omega) (fun b hb => (own6.lt b hb).1)⟩
          rw [HF.out.2.1, HF.out.2.2]
          first | exact own9 | (simpa only [List.append_assoc] using own9)

end Go.Proofs.YtljcljipppjnoaaGreatDoor

namespace Go.Proofs.YtljcljipppjnoaaGreatDoor
open Go.RowKit

def levelL (l : List UInt8) : Nat := levelS ⟨l.toArray⟩
/-- What begins with the first line: its events, and how many lines it takes. -/
def stepS (inner : List (List UInt8) → List Ev) (depth : Int) (l : List UInt8) (ls : List (List UInt8)) : List Ev × Nat :=
  if startsS ⟨l.toArray⟩ depth = 2 then (leafS 5 0 (fencedT ls), fencedN ls)
  else if startsS ⟨l.toArray⟩ depth = 3 then (leafS 1 (levelL l) (trimL (l.drop (levelL l))), 1)
  else if startsS ⟨l.toArray⟩ depth = 4 then (quoteS inner ls, quoteN ls)
  else if startsS ⟨l.toArray⟩ depth = 5 then (listS inner ls, listN inner ls)
  else (leafS 0 0 (joinT (ls.take (paraFrom ls depth 1))), paraFrom ls depth 1)

/-- The blocks of some lines, at a depth. -/
def blocksF (inner : List (List UInt8) → List Ev) (depth : Int) : List (List UInt8) → List Ev
  | [] => []
  | l :: r => if blankL l = true then blocksF inner depth r else (stepS inner depth l (l :: r)).1 ++ blocksF inner depth (r.drop ((stepS inner depth l (l :: r)).2 - 1))
termination_by ls => ls.length
decreasing_by
  · simp
  · simp only [List.length_drop, List.length_cons]; omega

def blocksAt : Nat → List (List UInt8) → List Ev
  | 0 => blocksF (fun _ => []) 3
  | d + 1 => blocksF (blocksAt d) (2 - (d : Int))

theorem leaf_le (k l : Int) (t : List UInt8) : (leafS k l t).length ≤ 3 := by
  unfold leafS
  split <;> simp

theorem begins_q (l : List UInt8) (h : beginsS ⟨l.toArray⟩ ⟨#[62]⟩ = true) : isQ l = true := by
  cases l with
  | nil => exact absurd h (by decide)
  | cons c r =>
    simp only [beginsS, List.isPrefixOf, Bool.and_true] at h
    simp only [isQ]
    simp at h
    simp [h]

theorem starts4 (s : ByteArray) (d : Int) (h : startsS s d = 4) : beginsS s ⟨#[62]⟩ = true ∧ d < 3 := by
  unfold startsS at h
  split at h
  · omega
  split at h
  · omega
  split at h
  · assumption
  split at h <;> omega
theorem starts5 (s : ByteArray) (d : Int) (h : startsS s d = 5) : itemS s = true ∧ d < 3 := by
  unfold startsS at h
  split at h
  · omega
  split at h
  · omega
  split at h
  · omega
  split at h
  · assumption
  · omega
theorem starts3 (s : ByteArray) (d : Int) (h : startsS s d = 3) : 0 < levelS s := by
  unfold startsS at h
  split at h
  · omega
  split at h
  · assumption
  split at h
  · omega
  split at h <;> omega

theorem scan_le (p : List UInt8 → Bool) (ls : List (List UInt8)) (n : Nat) (h : n ≤ ls.length) : scan p ls n ≤ ls.length ∧ n ≤ scan p ls n := by
  unfold scan
  have := (List.takeWhile_sublist (l := ls.drop n) p).length_le
  rw [List.length_drop] at this
  omega

theorem step_facts (inner : List (List UInt8) → List Ev) (c : Nat) (depth : Int) (hI : ∀ ls, (inner ls).length ≤ c * ls.length) (l : List UInt8) (r : List (List UInt8)) :
    1 ≤ (stepS inner depth l (l :: r)).2 ∧ (stepS inner depth l (l :: r)).2 ≤ (l :: r).length ∧ (stepS inner depth l (l :: r)).1.length ≤ (c + 4) * (stepS inner depth l (l :: r)).2 := by
  have h3 : ∀ (n : Nat) (k v : Int) (t : List UInt8), 1 ≤ n → (leafS k v t).length ≤ (c + 4) * n := by
    intro n k v t hn
    have h1 := leaf_le k v t
    have h2 : (c + 4) * 1 ≤ (c + 4) * n := Nat.mul_le_mul_left _ hn
    omega
  have hlen : 1 ≤ (l :: r).length := by simp
  unfold stepS
  split
  · have hs := scan_le (fun l => !shuts l) (l :: r) 1 hlen
    have he : shutAt (l :: r) 1 = scan (fun l => !shuts l) (l :: r) 1 := rfl
    have hN : 1 ≤ fencedN (l :: r) ∧ fencedN (l :: r) ≤ (l :: r).length := by
      unfold fencedN
      split <;> omega
    exact ⟨hN.1, hN.2, h3 _ _ _ _ hN.1⟩
  split
  · exact ⟨Nat.le_refl _, hlen, h3 _ _ _ _ (Nat.le_refl _)⟩
  split
  · next h4 =>
    have hq := begins_q l (starts4 _ _ h4).1
    have hs := scan_le isQ (l :: r) 1 hlen
    have he : quoteN (l :: r) = scan isQ (l :: r) 1 := scan_lt isQ (l :: r) 0 (by simp) hq
    refine ⟨by simp only; omega, by simp only; omega, ?_⟩
    simp only
    rw [quote_len]
    have h1 := hI (quoteIn (l :: r))
    have h2 : (quoteIn (l :: r)).length = quoteN (l :: r) := by rw [quoteIn, List.length_map, List.length_take]; omega
    rw [h2] at h1
    rw [Nat.add_mul]
    omega
  split
  · obtain ⟨a1, a2, a3⟩ := items_facts inner c hI (l :: r) 0 (by simp)
    refine ⟨a1, a2, ?_⟩
    simp only [listS, listN, List.length_append, List.length_singleton]
    rw [Nat.sub_zero] at a3
    rw [Nat.add_mul] at a3 ⊢
    omega
  · have hs := scan_le (stays depth) (l :: r) 1 hlen
    have he : paraFrom (l :: r) depth 1 = scan (stays depth) (l :: r) 1 := rfl
    exact ⟨by simp only; omega, by simp only; omega, h3 _ _ _ _ (by omega)⟩

theorem blocks_le (inner : List (List UInt8) → List Ev) (c : Nat) (depth : Int) (hI : ∀ ls, (inner ls).length ≤ c * ls.length) (ls : List (List UInt8)) : (blocksF inner depth ls).length ≤ (c + 4) * ls.length := by
  induction hm : ls.length using Nat.strongRecOn generalizing ls with
  | _ m ih =>
    cases ls with
    | nil => simp [blocksF]
    | cons l r =>
      rw [blocksF]
      rw [List.length_cons] at hm
      split
      · have := ih r.length (by omega) r rfl
        have h2 : (c + 4) * r.length ≤ (c + 4) * m := Nat.mul_le_mul_left _ (by omega)
        omega
      · obtain ⟨a1, a2, a3⟩ := step_facts inner c depth hI l r
        generalize stepS inner depth l (l :: r) = X at a1 a2 a3
        rw [List.length_cons] at a2
        have := ih (r.drop (X.2 - 1)).length (by rw [List.length_drop]; omega) _ rfl
        rw [List.length_drop] at this
        have h2 : (c + 4) * X.2 + (c + 4) * (r.length - (X.2 - 1)) ≤ (c + 4) * m := by
          rw [← Nat.mul_add]
          exact Nat.mul_le_mul_left _ (by omega)
        rw [List.length_append]
        omega

theorem blocksAt_le (d : Nat) (ls : List (List UInt8)) : (blocksAt d ls).length ≤ (4 * (d + 1)) * ls.length := by
  induction d generalizing ls with
  | zero => simpa [blocksAt] using blocks_le (fun _ => []) 0 3 (by simp) ls
  | succ d ih =>
    have := blocks_le (blocksAt d) (4 * (d + 1)) (2 - (d : Int)) ih ls
    rw [blocksAt]
    rw [show 4 * (d + 1 + 1) = 4 * (d + 1) + 4 by omega]
    exact this

end Go.Proofs.YtljcljipppjnoaaGreatDoor

namespace Go.Proofs.YtljcljipppjnoaaGreatDoor
open Go.RowKit

theorem Strs.none {g o cap : Nat} {ls : List (List UInt8)} {w : World} (h : Strs g o cap ls w) (o' : Nat) (r : List (List UInt8)) (hr : r.length = 0) : Strs g o' 0 r w := by
  have : r = [] := List.eq_nil_of_length_eq_zero hr
  subst this
  exact ⟨Nat.le_refl _, by omega, h.lt, fun j l hj => by simp at hj⟩
theorem level_le (l : List UInt8) : levelL l ≤ l.length := by
  have h : hashes l ≤ l.length := (List.takeWhile_sublist (l := l) _).length_le
  unfold levelL levelS
  simp only
  split
  · exact Nat.zero_le _
  · exact h

set_option maxRecDepth 100000 in
set_option maxHeartbeats 4000000 in
theorem rblocks_any (inner : List (List UInt8) → List Ev) (depth : Int) (hd : 0 ≤ depth ∧ depth ≤ 3) (hB : depth < 3 → BlocksC (depth + 1) inner) (hI : ∀ ls, (inner ls).length ≤ 12 * ls.length) : BlocksC depth (blocksF inner depth) := by
  intro v ls0 w hV hM0
  obtain ⟨j0, hj, hy0, hy1, hy2⟩ := info_parts Tryz.infoEv
  rcases hV with ⟨rfl, rfl⟩ | ⟨g, o, cap, rfl, hS⟩
  · have HZ : Hid (blocksF inner depth [] = []) := by show _ = _; simp [blocksF]
    go_enter Tryz.func15, Tryz.ntmps15
    go_wp2
    go_loopg [0, 5] 1 (fun gk v0 v5 wr => v0 = .slice none 0 0 ∧ v5 = .slice none 0 0 ∧ wr = w)
    case atStart => exact ⟨rfl, rfl, rfl⟩
    case round =>
      obtain ⟨rfl, rfl, rfl⟩ := hrel
      go_wp2
      go_ret
      rw [HZ.out]
      exact ⟨_, rfl, World.ownsRow_nil _ _ _ _, Below.refl _ _⟩
  · have hglt := hS.lt
    have hB' : Hid (depth < 3 → BlocksC (depth + 1) inner) := hB
    have hI' : Hid (∀ ls, (inner ls).length ≤ 12 * ls.length) := hI
    have hlen0 := hM0.1
    clear hB hI
    obtain ⟨hd1, hd2⟩ := hd
    go_enter Tryz.func15, Tryz.ntmps15
    go_wp2
    go_loopg [0, 5] ls0.length (fun gk v0 v5 wr => ∃ (o1 cap1 : Nat) (ls : List (List UInt8)) (done : List Ev), v0 = .slice (some ⟨g, o1, none⟩) ls.length cap1 ∧ ls.length ≤ gk ∧ Hid (Strs g o1 cap1 ls w) ∧ Hid (Small 1073741824 ls) ∧ wr.ownsRow w.heap.size 83 4 v5 done.length (evCs done) ∧ Below w.heap.size w wr ∧ Hid (done ++ blocksF inner depth ls = blocksF inner depth ls0) ∧ done.length + 16 * ls.length ≤ 16 * ls0.length ∧ ls.length ≤ cap1 ∧ cap1 ≤ 9223372036854775807)
    case atStart => exact ⟨o, cap, ls0, [], rfl, Nat.le_refl _, hS, hM0, World.ownsRow_nil _ _ _ _, Below.refl _ _, (by show _ = _; rfl), by simp, hS.fits, hS.max⟩
    case round =>
      clear hS hM0
      obtain ⟨o1, cap1, ls, done, rfl, hgk, HS, HM, hown, hbel, hJ, hdl, hc1, hc2⟩ := hrel
      have hbs := hbel.size
      cases ls with
      | nil =>
        have HF : Hid (blocksF inner depth ls0 = done) := by
          show _ = _
          rw [← hJ.out]
          simp [blocksF]
        clear hJ
        simp only [List.length_nil] at hdl hgk hc1
        go_wp2
        go_ret
        rw [HF.out]
        exact ⟨_, rfl, hown, hbel⟩
      | cons l r =>
        have hcell := (HS.out.below hbel hglt).cell 0 l rfl
        rw [Nat.add_zero] at hcell
        have hsz : l.length ≤ 1073741824 := HM.out.2 l (by simp)
        have hcB := fun W => rBlank_any ⟨l.toArray⟩ W (by rw [size_of]; omega)
        have hbl : blankS ⟨l.toArray⟩ = blankL l := rfl
        rw [hbl] at hcB
        simp only [List.length_cons] at hdl hgk hc1
        have hL : (l :: r).length = r.length + 1 := rfl
        rw [hL]
        cases hbb : blankL l with
        | true =>
          rw [hbb] at hcB
          have HN : Hid (done ++ blocksF inner depth r = blocksF inner depth ls0) := by
            show _ = _
            rw [← hJ.out, blocksF, if_pos hbb]
          clear hbb hbl hJ hL
          go_wp2_with (go_at_call 36; refine (hcB _).mono ?_; rintro e w' ⟨rfl, hw⟩; rw [hw]; clear hw)
          all_goals
            go_roundg r.length
            case measure => omega
            case rel => first | exact ⟨o1 + 1, cap1 - 1, r, done, rfl, Nat.le_refl _, HS.out.drop 1 (by simp), HM.out.drop 1, hown, hbel, HN, by omega, by omega, by omega⟩ | exact ⟨o1, 0, r, done, rfl, Nat.le_refl _, HS.out.none o1 r (by omega), HM.out.drop 1, hown, hbel, HN, by omega, by omega, by omega⟩
        | false =>
          rw [hbb] at hcB
          obtain ⟨X, hX⟩ : ∃ X, stepS inner depth l (l :: r) = X := ⟨_, rfl⟩
          have hfa := step_facts inner 12 depth hI'.out l r
          rw [hX, hL] at hfa
          obtain ⟨hx1, hx2, hx3⟩ := hfa
          have HN : Hid (done ++ (X.1 ++ blocksF inner depth (r.drop (X.2 - 1))) = blocksF inner depth ls0) := by
            show _ = _
            rw [← hJ.out, ← hX]
            conv => rhs; rw [blocksF, if_neg (by simp [hbb])]
          have hcS := fun W => rstarts_any ⟨l.toArray⟩ depth W (by rw [size_of]; omega)
          have hsn := starts_nat ⟨l.toArray⟩ depth
          obtain ⟨sv, hsv⟩ : ∃ sv, startsS ⟨l.toArray⟩ depth = sv := ⟨_, rfl⟩
          have h4 := starts4 ⟨l.toArray⟩ depth
          have h5 := starts5 ⟨l.toArray⟩ depth
          have h3 := starts3 ⟨l.toArray⟩ depth
          have HX : Hid (X = stepS inner depth l (l :: r) ∧ startsS ⟨l.toArray⟩ depth = sv) := ⟨hX.symm, hsv⟩
          rw [hsv] at hcS hsn h4 h5 h3
          clear hX hJ hbb hbl
          go_upto_block 2 with (first | (go_at_call 36; refine (hcB _).mono ?_; rintro e w' ⟨rfl, hw⟩; rw [hw]; clear hw) | (go_at_call 37; refine (hcS _).mono ?_; rintro e w' ⟨rfl, hw⟩; rw [hw]; clear hw))
          go_cut [8, 9] (fun v8 v9 wx => wx.ownsRow wr.heap.size 83 4 v8 X.1.length (evCs X.1) ∧ v9 = .int .i64 X.2 ∧ Below wr.heap.size wr wx)
          case first =>
            have hq : sv = 2 ∨ sv = 3 ∨ sv = 4 ∨ sv = 5 ∨ (sv ≠ 2 ∧ sv ≠ 3 ∧ sv ≠ 4 ∧ sv ≠ 5) := by omega
            rcases hq with rfl | rfl | rfl | rfl | ⟨q2, q3, q4, q5⟩
            · have hE : Hid (X = (leafS 5 0 (fencedT (l :: r)), fencedN (l :: r))) := by show _ = _; rw [HX.out.1, stepS, if_pos HX.out.2]
              have hc := rfenced_any g o1 cap1 (l :: r) wr (HS.out.below hbel hglt) HM.out (by simp)
              rw [hL] at hc
              replace hc : Calls Tryz.prog 38 #[.slice (some ⟨g, o1, none⟩) (r.length + 1) cap1] wr (fun e w' => ∃ v, e = .returned (.tuple #[v, .int .i64 X.2]) ∧ w'.ownsRow wr.heap.size 83 4 v X.1.length (evCs X.1) ∧ Below wr.heap.size wr w') := by rw [hE.out]; exact hc
              clear hE HX h3 h4 h5
              go_wp2_with (go_at_call 38; refine hc.mono ?_; rintro e w1 ⟨v, rfl, own1, bel1⟩)
              go_meet
              exact ⟨own1, rfl, bel1⟩
            · have hp := h3 rfl
              have hE : Hid (X = (leafS 1 (levelL l) (trimL (l.drop (levelL l))), 1)) := by show _ = _; rw [HX.out.1, stepS, if_neg (by rw [HX.out.2]; decide), if_pos HX.out.2]
              have hcL := fun W => rlevel_any ⟨l.toArray⟩ W (by rw [size_of]; omega)
              have hlv : levelS ⟨l.toArray⟩ = levelL l := rfl
              have hle := level_le l
              rw [hlv] at hcL hp
              generalize levelL l = k at hcL hp hE hle
              have hx := ba_ext l k l.length rfl
              have hs2 := size_of l
              have hcT := fun W => rtrim_any ⟨(l.drop k).toArray⟩ W (by rw [size_of, List.length_drop]; omega)
              have hts : trimS ⟨(l.drop k).toArray⟩ = ⟨(trimL (l.drop k)).toArray⟩ := rfl
              rw [hts, ← hx] at hcT
              have hcF : ∀ W, Calls Tryz.prog 41 #[.int .i64 1, .int .i64 k, .string ⟨(trimL (l.drop k)).toArray⟩] W (fun e w' => ∃ v, e = .returned v ∧ w'.ownsRow W.heap.size 83 4 v X.1.length (evCs X.1) ∧ Below W.heap.size W w') := by
                intro W
                rw [hE.out]
                exact rleaf_any 1 k ⟨(trimL (l.drop k)).toArray⟩ W
              have hX1 : Hid (X.2 = 1) := by show _ = _; rw [hE.out]
              generalize trimL (l.drop k) = tl at hcF hcT hts hE
              clear hE HX h3 h4 h5 hts hlv hx
              go_wp2_with (first | (go_at_call 39; refine (hcL _).mono ?_; rintro e w' ⟨rfl, hw⟩; rw [hw]; clear hw) | (go_at_call 40; refine (hcT _).mono ?_; rintro e w' ⟨rfl, hw⟩; rw [hw]; clear hw) | (go_at_call 41; refine (hcF _).mono ?_; rintro e w1 ⟨v, rfl, own1, bel1⟩))
              go_meet
              exact ⟨own1, by rw [hX1.out]; rfl, bel1⟩
            · have hE : Hid (X = (quoteS inner (l :: r), quoteN (l :: r))) := by show _ = _; rw [HX.out.1, stepS, if_neg (by rw [HX.out.2]; decide), if_neg (by rw [HX.out.2]; decide), if_pos HX.out.2]
              have hlt := (h4 rfl).2
              have hc := rquoted_any inner depth ⟨hd1, hlt⟩ (hB'.out hlt) (fun ls => by have := hI'.out ls; omega) g o1 cap1 (l :: r) wr (HS.out.below hbel hglt) HM.out
              rw [hL] at hc
              replace hc : Calls Tryz.prog 42 #[.slice (some ⟨g, o1, none⟩) (r.length + 1) cap1, .int .i64 depth] wr (fun e w' => ∃ v, e = .returned (.tuple #[v, .int .i64 X.2]) ∧ w'.ownsRow wr.heap.size 83 4 v X.1.length (evCs X.1) ∧ Below wr.heap.size wr w') := by rw [hE.out]; exact hc
              clear hE HX h3 h4 h5
              go_wp2_with (go_at_call 42; refine hc.mono ?_; rintro e w1 ⟨v, rfl, own1, bel1⟩)
              go_meet
              exact ⟨own1, rfl, bel1⟩
            · have hE : Hid (X = (listS inner (l :: r), listN inner (l :: r))) := by show _ = _; rw [HX.out.1, stepS, if_neg (by rw [HX.out.2]; decide), if_neg (by rw [HX.out.2]; decide), if_neg (by rw [HX.out.2]; decide), if_pos HX.out.2]
              have hlt := (h5 rfl).2
              have hc := rlisted_any inner depth ⟨hd1, hlt⟩ (hB'.out hlt) (fun ls => by have := hI'.out ls; omega) g o1 cap1 (l :: r) wr (HS.out.below hbel hglt) HM.out (by simp)
              rw [hL] at hc
              replace hc : Calls Tryz.prog 43 #[.slice (some ⟨g, o1, none⟩) (r.length + 1) cap1, .int .i64 depth] wr (fun e w' => ∃ v, e = .returned (.tuple #[v, .int .i64 X.2]) ∧ w'.ownsRow wr.heap.size 83 4 v X.1.length (evCs X.1) ∧ Below wr.heap.size wr w') := by rw [hE.out]; exact hc
              clear hE HX h3 h4 h5
              go_wp2_with (go_at_call 43; refine hc.mono ?_; rintro e w1 ⟨v, rfl, own1, bel1⟩)
              go_meet
              exact ⟨own1, rfl, bel1⟩
            · have hE : Hid (X = (leafS 0 0 (joinT ((l :: r).take (paraFrom (l :: r) depth 1))), paraFrom (l :: r) depth 1)) := by show _ = _; rw [HX.out.1, stepS, if_neg (by rw [HX.out.2]; exact q2), if_neg (by rw [HX.out.2]; exact q3), if_neg (by rw [HX.out.2]; exact q4), if_neg (by rw [HX.out.2]; exact q5)]
              have hc := rpara_any g o1 cap1 (l :: r) depth wr (HS.out.below hbel hglt) HM.out (by simp)
              rw [hL] at hc
              replace hc : Calls Tryz.prog 44 #[.slice (some ⟨g, o1, none⟩) (r.length + 1) cap1, .int .i64 depth] wr (fun e w' => ∃ v, e = .returned (.tuple #[v, .int .i64 X.2]) ∧ w'.ownsRow wr.heap.size 83 4 v X.1.length (evCs X.1) ∧ Below wr.heap.size wr w') := by rw [hE.out]; exact hc
              have e2 : (sv == 2) = false := by simpa using q2
              have e3 : (sv == 3) = false := by simpa using q3
              have e4 : (sv == 4) = false := by simpa using q4
              have e5 : (sv == 5) = false := by simpa using q5
              clear hE HX h3 h4 h5 q2 q3 q4 q5
              go_wp2_with (go_at_call 44; refine hc.mono ?_; rintro e w1 ⟨v, rfl, own1, bel1⟩)
              go_meet
              exact ⟨own1, rfl, bel1⟩
          case rest =>
            obtain ⟨own1, rfl, bel1⟩ := hcut
            have z1 := bel1.size
            have own0 := own_below hown bel1 (Nat.le_refl _)
            have B1 : Below w.heap.size w wc := hbel.trans (bel1.mono hbs)
            obtain ⟨n, hn⟩ : ∃ n, X.2 = n := ⟨_, rfl⟩
            obtain ⟨ev, hev⟩ : ∃ ev, X.1 = ev := ⟨_, rfl⟩
            rw [hn] at hx1 hx2 hx3 HN
            rw [hev] at hx3 HN own1
            rw [hn]
            clear HX h3 h4 h5 hcS hcB hn hev hsv hsn
            go_wp2_with (at_builtin; refine wpList_append_row _ rfl _ _ 27 rfl w.heap.size wr.heap.size 83 j0 (.agg #[.int .i64 0, .bool false, .int .i64 0, .string ⟨#[]⟩]) 4 40 Tryz.underlying27 hj hy0 hy1 hy2 rfl (by decide) _ _ _ rfl own0 _ _ _ rfl own1 (evCs_one' _) ?f3 ?f4 ?f5 ?_)
            case f3 => unfold maxLen; omega
            case f4 => omega
            case f5 => omega
            intro v5 w5 own5 grow5
            have B5 : Below w.heap.size w w5 := B1.grown grow5 (by omega) (fun b hb => (own0.lt b hb).1)
            have HD : Hid ((l :: r).drop n = r.drop (n - 1) ∧ (r.drop (n - 1)).length = r.length + 1 - n) := by
              refine ⟨?_, by rw [List.length_drop]; omega⟩
              obtain ⟨m, rfl⟩ : ∃ m, n = m + 1 := ⟨n - 1, by omega⟩
              simp
            have HS2 : Hid (Strs g (o1 + n) (cap1 - n) (r.drop (n - 1)) w) := by
              have := HS.out.drop n (by rw [hL]; exact hx2)
              rw [HD.out.1] at this
              exact this
            have HM2 : Hid (Small 1073741824 (r.drop (n - 1))) := by
              have := HM.out.drop n
              rw [HD.out.1] at this
              exact this
            have HN2 : Hid ((done ++ ev) ++ blocksF inner depth (r.drop (n - 1)) = blocksF inner depth ls0) := by
              show _ = _
              rw [List.append_assoc]
              exact HN.out
            have hlen2 := HD.out.2
            have own6 : w5.ownsRow w.heap.size 83 4 v5 (done ++ ev).length (evCs (done ++ ev)) := by
              rw [List.length_append, evCs_append]
              exact own5
            generalize r.drop (n - 1) = r2 at HD HS2 HM2 HN2 hlen2
            have hv1 : Hid (Value.slice (some ⟨g, o1 + n, none⟩) (r.length + 1 - n) (cap1 - n) = Value.slice (some ⟨g, o1 + n, none⟩) r2.length (cap1 - n)) := by show _ = _; rw [hlen2]
            have hv2 : Hid (Value.slice (some ⟨g, o1, none⟩) (r.length + 1 - n) 0 = Value.slice (some ⟨g, o1, none⟩) r2.length 0) := by show _ = _; rw [hlen2]
            clear own0 own1 bel1 grow5 own5 HN HS HM HD
            go_wp2
            all_goals
              go_roundg r2.length
              case measure => omega
              case rel => first | exact ⟨o1 + n, cap1 - n, r2, done ++ ev, hv1.out, Nat.le_refl _, HS2, HM2, own6, B5, HN2, by rw [List.length_append]; omega, by omega, by omega⟩ | exact ⟨o1, 0, r2, done ++ ev, hv2.out, Nat.le_refl _, HS2.out.none o1 r2 (by omega), HM2, own6, B5, HN2, by rw [List.length_append]; omega, by omega, by omega⟩

end Go.Proofs.YtljcljipppjnoaaGreatDoor

namespace Go.Proofs.YtljcljipppjnoaaGreatDoor
open Go.RowKit

theorem rblocks_at (d : Nat) (hd : d ≤ 3) : BlocksC (3 - (d : Int)) (blocksAt d) := by
  induction d with
  | zero => exact rblocks_any (fun _ => []) 3 ⟨by decide, by decide⟩ (fun h => absurd h (by decide)) (fun ls => by simp)
  | succ d ih =>
    have h := rblocks_any (blocksAt d) (2 - (d : Int)) ⟨by omega, by omega⟩ (fun _ => by
      rw [show (2 - (d : Int) + 1) = 3 - (d : Int) by omega]
      exact ih (by omega)) (fun ls => Nat.le_trans (blocksAt_le d ls) (Nat.mul_le_mul_right _ (by omega)))
    rw [show (3 - ((d + 1 : Nat) : Int)) = 2 - (d : Int) by omega]
    exact h

/-- The document's answer: the blocks of some lines. -/
theorem rblocks_doc : BlocksC 0 (blocksAt 3) := by simpa using rblocks_at 3 (Nat.le_refl _)

end Go.Proofs.YtljcljipppjnoaaGreatDoor
