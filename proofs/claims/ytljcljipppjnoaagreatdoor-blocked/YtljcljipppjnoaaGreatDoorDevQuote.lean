import Derived.Test.YtljcljipppjnoaaGreatDoorDevWBl
import Derived.Deep.RegionHeld3
namespace Go.Proofs.YtljcljipppjnoaaGreatDoor
open Go.RowKit Go.Shelf

theorem str_cell (w : World) (t : ByteArray) {n : Nat} (hn : n = w.heap.size) : ∀ j u, [Value.string t][j]? = some u → (w.alloc (.cells #[.string t] 9)).cell? ((⟨n, 0, none⟩ : Addr).add j) = some u := by
  subst hn
  intro j u hj
  match j, hj with
  | 0, hj => simp at hj; subst hj; simp [Addr.add]
theorem str_one (t : ByteArray) : ∀ u ∈ [Value.string t], u.oneCell' = true := by
  intro u hu
  simp at hu
  subst hu
  rfl

theorem quote_one (l : List UInt8) (r : List (List UInt8)) (h : beginsS ⟨l.toArray⟩ ⟨#[62]⟩ = true) : 1 ≤ quoteN (l :: r) := by
  have he : quoteN (l :: r) = scan isQ (l :: r) 1 := scan_lt isQ (l :: r) 0 (by simp) (begins_q l h)
  have hs := scan_le isQ (l :: r) 1 (by simp)
  omega

set_option maxRecDepth 100000 in
set_option maxHeartbeats 4000000 in
theorem dquote_any (q : Tel) (hq : q.Ok) (f : List (List UInt8) → List Ev) (d : Int) (hd : 0 ≤ d ∧ d < 3) (hE : EachC q (d + 1) f) (hfl : ∀ ls, (f ls).length ≤ 16 * ls.length) (acc : List Stp) (g o cap a : Nat) (ls : List (List UInt8)) (W : World) (hT : q.Told acc W) (hlen : (acc.length : Int) + 16 * (ls.length : Int) + 4 * (4 - d) ≤ 1099511627776) (hS : Strs g o cap ls W) (hM : tot ls ≤ 1073741824) (h1 : 1 ≤ quoteN ls) (ha : a + ls.length ≤ 4294967296) :
    Calls Tryz.prog 131 #[.agg #[.func (.func q.kd) #[] #[.pointer (some ⟨q.bd, 0, none⟩)], .func (.func q.kl) #[] #[.pointer (some ⟨q.bl, 0, none⟩)]], .agg #[.slice (some ⟨g, o, none⟩) ls.length cap, .int .i64 a, .int .i64 d]] W fun e w' =>
      e = .returned (.int .i64 ((quoteN ls : Nat) : Int)) ∧ (∃ S, SpOk a (a + quoteN ls) S (quoteS f ls) ∧ q.Told (acc ++ S) w') ∧ Kt q none W.heap.size W w' := by
  obtain ⟨i0, hi, hz0, hz1, hz2⟩ := info_parts Tryz.infoStr
  have hglt := hS.lt
  have hll := tot_len ls
  have hfit := hS.fits
  have hmax := hS.max
  have hd1 := hd.1
  have hd2 := hd.2
  obtain ⟨W2, hW2, z2, hK, hK3⟩ := fp_frame q hq acc W hT (.slice (some ⟨g, o, none⟩) ls.length cap) (.int .i64 a) (.int .i64 d)
  obtain ⟨⟨⟨k1, k2⟩, ⟨k3, k4, k5⟩⟩, hb02, _⟩ := hK W2 (Below.refl _ W2)
  have HM : Hid (tot ls ≤ 1073741824) := hM
  have HK : Hid _ := hK
  have HK3 : Hid _ := hK3
  have HS0 : Hid (Strs g o cap ls W2) := hS.below hb02 hglt
  have hpl : quoteN ls ≤ ls.length := (scan_le isQ ls 0 (Nat.zero_le _)).1
  have hql : (quoteIn ls).length = quoteN ls := by rw [quoteIn, List.length_map, List.length_take]; omega
  have z3 : W2.heap.size ≤ W.heap.size + 2 ∧ W.heap.size + 2 ≤ W2.heap.size := by omega
  have HW : Hid (∀ (v : Value) (w4 : World), Below W2.heap.size W2 w4 → w4.ownsRow W2.heap.size 9 1 v (quoteIn ls).length (strCs (quoteIn ls)) → Calls Tryz.prog 157 #[.agg #[.func (.func q.kd) #[] #[.pointer (some ⟨q.bd, 0, none⟩)], .func (.func q.kl) #[] #[.pointer (some ⟨q.bl, 0, none⟩)]], .int .i64 2, .agg #[v, .int .i64 a, .int .i64 (d + 1)]] w4 fun e w' => e = .returned (.tuple #[]) ∧ (∃ S, SpOk a (a + quoteN ls) S (quoteS f ls) ∧ q.Told (acc ++ S) w') ∧ Kt q none w4.heap.size w4 w') := by
    intro v w4 hb ho
    refine (withBlocks_any q hq f (d + 1) hE 2 acc a v (quoteIn ls) w4 (hfl _) (hK w4 hb).2.2.1 (lines_own ho) (fun g' hg' => (hK w4 hb).2.2.2 g' (by have := (ho.lt g' hg').1; omega)) (Nat.le_trans (tot_quote ls) hM) (by omega) (by omega) (by omega)).mono ?_
    rintro e w' ⟨rfl, ⟨S, s1, s2⟩, s3⟩
    rw [hql] at s1
    exact ⟨rfl, ⟨_, s1.within ⟨2, false, 0, []⟩ ⟨2, true, 0, []⟩ (by decide) (by decide), s2⟩, s3⟩
  have hcP := fun gl ln2 cl W' => within_any (some ⟨g, o, none⟩) (some ⟨gl, 0, none⟩) ls.length cap ln2 cl a d hd W'
  clear hT hS hq hK hK3 hE hfl hd
  have hg2 : g < W2.heap.size := by omega
  obtain ⟨qn, hqn⟩ : ∃ qn, quoteN ls = qn := ⟨_, rfl⟩
  rw [hqn] at h1 HW ⊢
  generalize hqs : quoteS f ls = qs at HW ⊢
  have HQS : Hid (qn = (quoteIn ls).length) := by show _ = _; rw [hql, hqn]
  have HQI : Hid (quoteIn ls = (ls.take qn).map unq) := by show _ = _; rw [quoteIn, hqn]
  clear z2 hqs hql
  go_enter Tryz.func131, Tryz.ntmps131
  go_wp2
  go_loopw [5, 11] (fun v5 i wr => ∃ k : Nat, k ≤ ls.length ∧ i = .int .i64 k ∧ wr.ownsRow W2.heap.size 9 1 v5 k (strCs ((ls.take k).map unq)) ∧ Below W2.heap.size W2 wr ∧ Hid (scan isQ ls k = qn)) (fun _ i _ => ls.length - (intOf i).toNat)
  case atStart => exact ⟨0, Nat.zero_le _, rfl, (by simpa [strCs] using World.ownsRow_nil _ _ _ _), Below.refl _ _, hqn⟩
  case round =>
    clear hqn
    obtain ⟨k, hk, rfl, hown, hbel, HP⟩ := hrel
    have hbs := hbel.size
    have hgwr : g < wr.heap.size := by omega
    obtain ⟨⟨⟨r1, r2⟩, ⟨r3, r4, r5⟩⟩, _⟩ := HK.out wr hbel
    have hfin : qn = k → ∃ gl cl, u5 = .slice (some ⟨gl, 0, none⟩) k cl ∧ Hid (((qn : Nat) : Int) = (k : Int)) ∧ Hid (∀ w4, Below W2.heap.size W2 w4 → Below wr.heap.size wr w4 → Calls Tryz.prog 157 #[.agg #[.func (.func q.kd) #[] #[.pointer (some ⟨q.bd, 0, none⟩)], .func (.func q.kl) #[] #[.pointer (some ⟨q.bl, 0, none⟩)]], .int .i64 2, .agg #[.slice (some ⟨gl, 0, none⟩) k cl, .int .i64 a, .int .i64 (d + 1)]] w4 fun e w' => e = .returned (.tuple #[]) ∧ (∃ S, SpOk a (a + qn) S qs ∧ q.Told (acc ++ S) w') ∧ Kt q none w4.heap.size w4 w') := by
      intro hk
      rcases Joins.ownsRow_forms hown with ⟨rfl, h0⟩ | ⟨gl, cl, rfl⟩
      · omega
      · refine ⟨gl, cl, rfl, by show _ = _; omega, fun w4 hb hb2 => HW.out _ w4 hb ?_⟩
        rw [← HQS.out, HQI.out, hk]
        exact own_below hown hb2 (Nat.le_refl _)
    by_cases hlt : k < ls.length
    · obtain ⟨l, hlk⟩ : ∃ l, ls[k] = l := ⟨_, rfl⟩
      have hcell := (HS0.out.below hbel hg2).cell k l (by rw [List.getElem?_eq_getElem hlt, hlk])
      have hcQ := fun W => dquoted_any ⟨l.toArray⟩ W
      cases hqq : beginsS ⟨l.toArray⟩ ⟨#[62]⟩ with
      | true =>
        have hcU := fun W => dunq_any ⟨l.toArray⟩ W hqq
        have hun : unq (⟨l.toArray⟩ : ByteArray).data.toList = unq l := rfl
        rw [hun] at hcU
        have HTK : Hid (strCs ((ls.take (k + 1)).map unq) = strCs ((ls.take k).map unq) ++ [.string ⟨(unq l).toArray⟩]) := by
          show _ = _
          rw [snoc_take ls k hlt, hlk]
          simp [strCs]
        have HP2 : Hid (scan isQ ls (k + 1) = qn) := by
          show _ = _
          rw [← scan_lt isQ ls k hlt (by rw [hlk]; exact begins_q l hqq), HP.out]
        generalize unq l = ul at hcU HTK hun
        rw [hqq] at hcQ
        clear hqq hun hfin
        go_wp2_with (first | (go_at_call 149; refine (hcQ _).mono ?_; rintro e w' ⟨rfl, hw⟩; rw [hw]; clear hw) | (go_at_call 156; refine (hcU _).mono ?_; rintro e w' ⟨rfl, hw⟩; rw [hw]; clear hw) | (at_builtin; refine wpList_append_own _ rfl _ _ 25 rfl W2.heap.size 9 i0 (.string ⟨#[]⟩) 1 16 Tryz.underlying25 hi hz0 hz1 hz2 rfl (by decide) _ _ _ rfl (hown.alloc _) ⟨wr.heap.size, 0, none⟩ 1 1 [.string ⟨ul.toArray⟩] rfl rfl (str_cell _ _ rfl) (str_one _) (by unfold maxLen; omega) (by omega) (by simp; omega) ?_; intro v' w3 own3 grow3 _))
        have hb3 : Below W2.heap.size W2 w3 := (hbel.alloc (by omega) _).grown grow3 (by simp; omega) (fun b hb => (hown.lt b hb).1)
        have hown3 : w3.ownsRow W2.heap.size 9 1 v' (k + 1) (strCs ((ls.take (k + 1)).map unq)) := by
          rw [HTK.out]
          exact own3
        clear own3 grow3 hown
        go_roundw
        case rel => exact ⟨k + 1, by omega, by go_num, hown3, hb3, HP2⟩
        case measure => simp [intOf]; omega
      | false =>
        have hkk : qn = k := by
          rw [← HP.out]
          refine scan_at isQ ls k hlt ?_
          rw [hlk]
          cases l with
          | nil => rfl
          | cons c t =>
            have h2 : ((62 : UInt8) == c) = false := by simpa [beginsS, List.isPrefixOf] using hqq
            show (c == 62) = false
            rw [beq_eq_false_iff_ne] at h2 ⊢
            exact fun h => h2 h.symm
        obtain ⟨gl, cl, rfl, HQN, HJ⟩ := hfin hkk
        rw [hqq] at hcQ
        clear hfin hkk hown hqq h1 HP
        go_wp2_with (go_at_call 149; refine (hcQ _).mono ?_; rintro e w' ⟨rfl, hw⟩; rw [hw]; clear hw)
        have hBj : Below wr.heap.size wr wr.drew := (Below.refl _ wr).drew
        have hBT : Below W2.heap.size W2 wr.drew := hbel.trans (hBj.mono hbs)
        go_region_held3 (fun w' => (w'.cell? ⟨W.heap.size, 0, none⟩ = some (.func (.func q.kd) #[] #[.pointer (some ⟨q.bd, 0, none⟩)]) ∧ w'.cell? ⟨W.heap.size, 1, none⟩ = some (.func (.func q.kl) #[] #[.pointer (some ⟨q.bl, 0, none⟩)])) ∧ (w'.cell? ⟨W.heap.size + 1, 0, none⟩ = some (.slice (some ⟨g, o, none⟩) ls.length cap) ∧ w'.cell? ⟨W.heap.size + 1, 1, none⟩ = some (.int .i64 a) ∧ w'.cell? ⟨W.heap.size + 1, 2, none⟩ = some (.int .i64 d))) (first | exact (HK3.out _ _ B4 (K7.mono B4.size)).1 | exact (HK.out _ B4).1 | exact (HK.out _ hBT).1) (first | (go_at_call 158; refine (hcP gl k cl _).mono ?_; rintro e w4 ⟨rfl, b4⟩; have B4 : Below W2.heap.size W2 w4 := hBT.trans (b4.mono hBT.size)) | (go_at_call 157; refine (HJ.out _ B4 (hBj.trans (b4.mono hBj.size))).mono ?_; rintro e w7 ⟨rfl, ⟨S, hS7, T7⟩, K7⟩))
        go_wp2
        go_ret
        exact ⟨by rw [HQN.out]; rfl, ⟨_, hS7, T7⟩, (HK3.out _ _ B4 (K7.mono B4.size)).2⟩
    · have hkk : qn = k := by
        rw [← HP.out]
        exact scan_end isQ ls k (by omega)
      obtain ⟨gl, cl, rfl, HQN, HJ⟩ := hfin hkk
      have hnl : ¬ (k : Int) < (ls.length : Int) := by omega
      clear hfin hkk hown h1 HP hk hlt
      go_wp2
      have hBj : Below wr.heap.size wr wr.drew := (Below.refl _ wr).drew
      have hBT : Below W2.heap.size W2 wr.drew := hbel.trans (hBj.mono hbs)
      go_region_held3 (fun w' => (w'.cell? ⟨W.heap.size, 0, none⟩ = some (.func (.func q.kd) #[] #[.pointer (some ⟨q.bd, 0, none⟩)]) ∧ w'.cell? ⟨W.heap.size, 1, none⟩ = some (.func (.func q.kl) #[] #[.pointer (some ⟨q.bl, 0, none⟩)])) ∧ (w'.cell? ⟨W.heap.size + 1, 0, none⟩ = some (.slice (some ⟨g, o, none⟩) ls.length cap) ∧ w'.cell? ⟨W.heap.size + 1, 1, none⟩ = some (.int .i64 a) ∧ w'.cell? ⟨W.heap.size + 1, 2, none⟩ = some (.int .i64 d))) (first | exact (HK3.out _ _ B4 (K7.mono B4.size)).1 | exact (HK.out _ B4).1 | exact (HK.out _ hBT).1) (first | (go_at_call 158; refine (hcP gl k cl _).mono ?_; rintro e w4 ⟨rfl, b4⟩; have B4 : Below W2.heap.size W2 w4 := hBT.trans (b4.mono hBT.size)) | (go_at_call 157; refine (HJ.out _ B4 (hBj.trans (b4.mono hBj.size))).mono ?_; rintro e w7 ⟨rfl, ⟨S, hS7, T7⟩, K7⟩))
      go_wp2
      go_ret
      exact ⟨by rw [HQN.out]; rfl, ⟨_, hS7, T7⟩, (HK3.out _ _ B4 (K7.mono B4.size)).2⟩

end Go.Proofs.YtljcljipppjnoaaGreatDoor
