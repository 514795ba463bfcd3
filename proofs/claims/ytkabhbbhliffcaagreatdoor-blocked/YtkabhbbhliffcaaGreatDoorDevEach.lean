import Derived.Test.YtkabhbbhliffcaaGreatDoorDevFirst
namespace Go.Proofs.YtkabhbbhliffcaaGreatDoor
open Go.RowKit Go.Shelf

/-- What the first block tells, how many lines it takes, and what is left to tell. -/
def FirstOk (f : List (List UInt8) → List Ev) (d : Int) (ls : List (List UInt8)) (ev : List Ev) (n : Nat) : Prop :=
  1 ≤ n ∧ n ≤ ls.length ∧ ev ++ blocksF f d (ls.drop n) = blocksF f d ls ∧ ev.length ≤ 16 * n

theorem first_step (f : List (List UInt8) → List Ev) (d : Int) (hfl : ∀ ls, (f ls).length ≤ 12 * ls.length) (l : List UInt8) (r : List (List UInt8)) (hb : blankL l = false) : FirstOk f d (l :: r) (stepS f d l (l :: r)).1 (stepS f d l (l :: r)).2 := by
  obtain ⟨a1, a2, a3⟩ := step_facts f 12 d hfl l r
  refine ⟨a1, a2, ?_, a3⟩
  conv => rhs; rw [blocksF, if_neg (by simp [hb])]
  generalize stepS f d l (l :: r) = X at a1 a2 a3
  obtain ⟨m, hm⟩ : ∃ m, X.2 = m + 1 := ⟨X.2 - 1, by omega⟩
  rw [hm, List.drop_succ_cons, Nat.add_sub_cancel]
theorem first_blank (f : List (List UInt8) → List Ev) (d : Int) (l : List UInt8) (r : List (List UInt8)) (hb : blankL l = true) : FirstOk f d (l :: r) [] 1 := by
  refine ⟨Nat.le_refl _, by simp, ?_, by simp⟩
  rw [List.nil_append, List.drop_succ_cons, List.drop_zero, blocksF, if_pos hb]
theorem first_behind (f : List (List UInt8) → List Ev) (d : Int) (ls : List (List UInt8)) (ev : List Ev) (n : Nat) (h : FirstOk f d ls ev n) : FirstOk f d ls ev (behindS ls n) := by
  obtain ⟨h1, h2, h3, h4⟩ := h
  have g1 := behind_ge ls n
  have g2 := behind_le ls n h2
  exact ⟨by omega, g2, by rw [blocks_behind]; exact h3, by omega⟩

set_option maxRecDepth 100000 in
set_option maxHeartbeats 4000000 in
theorem dfirst_any (f : List (List UInt8) → List Ev) (d : Int) (hd : 0 ≤ d ∧ d ≤ 3) (hE : d < 3 → EachC (d + 1) f) (hfl : ∀ ls, (f ls).length ≤ 12 * ls.length) (b0 : Nat) (acc : List Ev) (g o cap : Nat) (l : List UInt8) (r : List (List UInt8)) (W : World) (hT : Told b0 acc W) (hlen : (acc.length : Int) + 16 * ((l :: r).length : Int) + 4 * (4 - d) ≤ 1099511627776) (hS : Strs g o cap (l :: r) W) (hO : ¬ Own b0 W g) (hM : tot (l :: r) ≤ 1073741824) :
    Calls Tryz.prog 34 #[.slice (some ⟨g, o, none⟩) (r.length + 1) cap, .int .i64 d, .func (.func 28) #[] #[.pointer (some ⟨b0, 0, none⟩)]] W fun e w' =>
      ∃ ev n v, e = .returned v ∧ FirstOk f d (l :: r) ev n ∧ RestV g ((l :: r).drop n) w' v ∧ Told b0 (acc ++ ev) w' ∧ Kp b0 none W.heap.size W w' := by
  have hb0 := hT.lt
  have hglt := hS.lt
  have hfit := hS.fits
  rw [List.length_cons] at hfit
  have hmax := hS.max
  have hcell := hS.cell 0 l rfl
  rw [Nat.add_zero] at hcell
  have hL : (l :: r).length = r.length + 1 := rfl
  rw [hL] at hlen
  have hsz : l.length ≤ 1073741824 := by rw [tot_cons] at hM; omega
  obtain ⟨hd1, hd2⟩ := hd
  have hcB := fun W => dblank_any ⟨l.toArray⟩ W (by rw [size_of]; omega)
  have hbl : blankS ⟨l.toArray⟩ = blankL l := rfl
  rw [hbl] at hcB
  cases hbb : blankL l with
  | true =>
    have HF : Hid (FirstOk f d (l :: r) [] 1) := first_blank f d l r hbb
    have HS1 : Hid (∀ w', Kp b0 none W.heap.size W w' → RestV g ((l :: r).drop 1) w' (.slice (some ⟨g, o + 1, none⟩) r.length (cap - 1))) := fun w' hk => rest_at (hS.kept hk hglt (by simp) hO) 1 (by simp)
    have HS2 : Hid (cap ≤ 1 → ∀ w', Kp b0 none W.heap.size W w' → RestV g ((l :: r).drop 1) w' (.slice (some ⟨g, o, none⟩) r.length 0)) := fun hc w' hk => rest_no (hS.kept hk hglt (by simp) hO) 1 (by simp) hc
    have HT : Hid (Told b0 acc W) := hT
    rw [hbb] at hcB
    clear hbb hbl hE hfl hS hO hT
    go_enter Tryz.func34, Tryz.ntmps34
    go_wp2_with (go_at_call 38; refine (hcB _).mono ?_; rintro e w1 ⟨rfl, b1⟩)
    all_goals
      have hK : Kp b0 none W.heap.size W w1 := Kp.below b1 hb0
      go_ret
      have hTT : Told b0 (acc ++ []) w1 := by rw [List.append_nil]; exact HT.out.below b1
      first | exact ⟨[], 1, _, rfl, HF.out, HS1.out w1 hK, hTT, hK⟩ | exact ⟨[], 1, _, rfl, HF.out, HS2.out (by omega) w1 hK, hTT, hK⟩
  | false =>
    rw [hbb] at hcB
    have hF := first_step f d hfl l r hbb
    have hcS := fun W => dbegins_any ⟨l.toArray⟩ d W (by rw [size_of]; omega)
    obtain ⟨sv, hsv⟩ : ∃ sv, startsS ⟨l.toArray⟩ d = sv := ⟨_, rfl⟩
    have h4 := starts4 ⟨l.toArray⟩ d
    have h5 := starts5 ⟨l.toArray⟩ d
    have hkz := kind_zero ⟨l.toArray⟩ d
    rw [hsv] at hcS h4 h5 hkz
    have hstep : stepS f d l (l :: r) = if sv = 2 then (leafS 5 0 (fencedT (l :: r)), fencedN (l :: r)) else if sv = 3 then (leafS 1 (levelL l) (trimL (l.drop (levelL l))), 1) else if sv = 4 then (quoteS f (l :: r), quoteN (l :: r)) else if sv = 5 then (listS f (l :: r), listN f (l :: r)) else (leafS 0 0 (joinT ((l :: r).take (paraFrom (l :: r) d 1))), paraFrom (l :: r) d 1) := by
      rw [stepS, hsv]
    rw [hstep] at hF
    have hw1 : ∀ w1, Below W.heap.size W w1 → Told b0 acc w1 ∧ Strs g o cap (l :: r) w1 ∧ ¬ Own b0 w1 g := fun w1 b1 => ⟨hT.below b1, hS.below b1 hglt, fun ho => hO ((Own.same (b1.block b0 hb0) g).1 ho)⟩
    have hK1 : ∀ w1 w2, Below W.heap.size W w1 → Kp b0 none w1.heap.size w1 w2 → Kp b0 none W.heap.size W w2 := fun w1 w2 b k => (Kp.below b hb0).trans (k.mono b.size)
    have hq : sv = 2 ∨ sv = 3 ∨ sv = 4 ∨ sv = 5 ∨ (sv ≠ 2 ∧ sv ≠ 3 ∧ sv ≠ 4 ∧ sv ≠ 5) := by omega
    clear hbl
    rcases hq with rfl | rfl | rfl | rfl | ⟨q2, q3, q4, q5⟩
    · rw [if_pos rfl] at hF
      have hcC : ∀ w1, Below W.heap.size W w1 → Calls Tryz.prog 40 #[.slice (some ⟨g, o, none⟩) (r.length + 1) cap, .func (.func 28) #[] #[.pointer (some ⟨b0, 0, none⟩)]] w1 fun e w' => ∃ ev n v, e = .returned v ∧ FirstOk f d (l :: r) ev n ∧ RestV g ((l :: r).drop n) w' v ∧ Told b0 (acc ++ ev) w' ∧ Kp b0 none W.heap.size W w' := fun w1 b1 => by
        obtain ⟨t1, s1, o1⟩ := hw1 w1 b1
        refine (dcode_any b0 acc g o cap l r w1 t1 (by omega) s1 o1 hM).mono ?_
        rintro e w' ⟨⟨v, rfl, hr⟩, T, K⟩
        exact ⟨_, _, v, rfl, hF, hr, T, hK1 _ _ b1 K⟩
      have HC : Hid _ := hcC
      clear hcC hF hstep hw1 hK1 hE hfl hT hS hO h4 h5 hkz hsv hbb
      go_enter Tryz.func34, Tryz.ntmps34
      go_wp2_with (first | (go_at_call 38; refine (hcB _).mono ?_; rintro e w1 ⟨rfl, b1⟩; have c1 := (b1.cell (p := ⟨g, o, none⟩) hglt).trans hcell) | (go_at_call 39; refine (hcS _).mono ?_; rintro e w' ⟨rfl, hw⟩; rw [hw]; clear hw) | (go_at_call 40; refine (HC.out w1 b1).mono ?_; rintro e w2 ⟨ev, n, v, rfl, hf, hr, T2, K2⟩))
      go_ret
      exact ⟨ev, n, v, rfl, hf, hr, T2, K2⟩
    · rw [if_neg (by decide), if_pos rfl] at hF
      have hcC : ∀ w1, Below W.heap.size W w1 → Calls Tryz.prog 41 #[.slice (some ⟨g, o, none⟩) (r.length + 1) cap, .func (.func 28) #[] #[.pointer (some ⟨b0, 0, none⟩)]] w1 fun e w' => ∃ ev n v, e = .returned v ∧ FirstOk f d (l :: r) ev n ∧ RestV g ((l :: r).drop n) w' v ∧ Told b0 (acc ++ ev) w' ∧ Kp b0 none W.heap.size W w' := fun w1 b1 => by
        obtain ⟨t1, s1, o1⟩ := hw1 w1 b1
        refine (dheading_any b0 acc g o cap l r w1 t1 (by omega) s1 o1 hsz).mono ?_
        rintro e w' ⟨⟨v, rfl, hr⟩, T, K⟩
        exact ⟨_, _, v, rfl, hF, hr, T, hK1 _ _ b1 K⟩
      have HC : Hid _ := hcC
      clear hcC hF hstep hw1 hK1 hE hfl hT hS hO h4 h5 hkz hsv hbb
      go_enter Tryz.func34, Tryz.ntmps34
      go_wp2_with (first | (go_at_call 38; refine (hcB _).mono ?_; rintro e w1 ⟨rfl, b1⟩; have c1 := (b1.cell (p := ⟨g, o, none⟩) hglt).trans hcell) | (go_at_call 39; refine (hcS _).mono ?_; rintro e w' ⟨rfl, hw⟩; rw [hw]; clear hw) | (go_at_call 41; refine (HC.out w1 b1).mono ?_; rintro e w2 ⟨ev, n, v, rfl, hf, hr, T2, K2⟩))
      go_ret
      exact ⟨ev, n, v, rfl, hf, hr, T2, K2⟩
    · rw [if_neg (by decide), if_neg (by decide), if_pos rfl] at hF
      have hlt := (h4 rfl).2
      have hcC : ∀ w1, Below W.heap.size W w1 → Calls Tryz.prog 42 #[.slice (some ⟨g, o, none⟩) (r.length + 1) cap, .int .i64 d, .func (.func 28) #[] #[.pointer (some ⟨b0, 0, none⟩)]] w1 fun e w' => ∃ ev n v, e = .returned v ∧ FirstOk f d (l :: r) ev n ∧ RestV g ((l :: r).drop n) w' v ∧ Told b0 (acc ++ ev) w' ∧ Kp b0 none W.heap.size W w' := fun w1 b1 => by
        obtain ⟨t1, s1, o1⟩ := hw1 w1 b1
        refine (dquote_any f d ⟨hd1, hlt⟩ (hE hlt) (fun ls => by have := hfl ls; omega) b0 acc g o cap (l :: r) w1 t1 (by rw [hL]; exact hlen) s1 o1 hM).mono ?_
        rintro e w' ⟨⟨v, rfl, hr⟩, T, K⟩
        exact ⟨_, _, v, rfl, hF, hr, T, hK1 _ _ b1 K⟩
      have HC : Hid _ := hcC
      clear hcC hF hstep hw1 hK1 hE hfl hT hS hO h4 h5 hkz hsv hbb
      go_enter Tryz.func34, Tryz.ntmps34
      go_wp2_with (first | (go_at_call 38; refine (hcB _).mono ?_; rintro e w1 ⟨rfl, b1⟩; have c1 := (b1.cell (p := ⟨g, o, none⟩) hglt).trans hcell) | (go_at_call 39; refine (hcS _).mono ?_; rintro e w' ⟨rfl, hw⟩; rw [hw]; clear hw) | (go_at_call 42; refine (HC.out w1 b1).mono ?_; rintro e w2 ⟨ev, n, v, rfl, hf, hr, T2, K2⟩))
      go_ret
      exact ⟨ev, n, v, rfl, hf, hr, T2, K2⟩
    · rw [if_neg (by decide), if_neg (by decide), if_neg (by decide), if_pos rfl] at hF
      have hlt := (h5 rfl).2
      have hit : itemL l = true := (h5 rfl).1
      have hcC : ∀ w1, Below W.heap.size W w1 → Calls Tryz.prog 43 #[.slice (some ⟨g, o, none⟩) (r.length + 1) cap, .int .i64 d, .func (.func 28) #[] #[.pointer (some ⟨b0, 0, none⟩)]] w1 fun e w' => ∃ ev n v, e = .returned v ∧ FirstOk f d (l :: r) ev n ∧ RestV g ((l :: r).drop n) w' v ∧ Told b0 (acc ++ ev) w' ∧ Kp b0 none W.heap.size W w' := fun w1 b1 => by
        obtain ⟨t1, s1, o1⟩ := hw1 w1 b1
        refine (dlist_any f d ⟨hd1, hlt⟩ (hE hlt) hfl b0 acc g o cap (l :: r) w1 t1 (by rw [hL]; exact hlen) s1 o1 hM (by simp) hit).mono ?_
        rintro e w' ⟨⟨v, rfl, hr⟩, T, K⟩
        exact ⟨_, _, v, rfl, first_behind f d _ _ _ hF, hr, T, hK1 _ _ b1 K⟩
      have HC : Hid _ := hcC
      clear hcC hF hstep hw1 hK1 hE hfl hT hS hO h4 h5 hkz hsv hbb
      go_enter Tryz.func34, Tryz.ntmps34
      go_wp2_with (first | (go_at_call 38; refine (hcB _).mono ?_; rintro e w1 ⟨rfl, b1⟩; have c1 := (b1.cell (p := ⟨g, o, none⟩) hglt).trans hcell) | (go_at_call 39; refine (hcS _).mono ?_; rintro e w' ⟨rfl, hw⟩; rw [hw]; clear hw) | (go_at_call 43; refine (HC.out w1 b1).mono ?_; rintro e w2 ⟨ev, n, v, rfl, hf, hr, T2, K2⟩))
      go_ret
      exact ⟨ev, n, v, rfl, hf, hr, T2, K2⟩
    · rw [if_neg q2, if_neg q3, if_neg q4, if_neg q5] at hF
      have hk0 : kindOf sv = 0 := by rw [kindOf, if_neg q2, if_neg q3, if_neg q4, if_neg q5]
      have hs0 := hkz.1 hk0
      have hpf : paraFrom (l :: r) d 0 = paraFrom (l :: r) d 1 := para_lt (l :: r) d 0 (by simp) (by show (!blankL l && decide (startsS ⟨l.toArray⟩ d = 0)) = true; rw [hbb, hsv, hs0]; rfl)
      rw [← hpf] at hF
      have hp1 : 1 ≤ paraFrom (l :: r) d 0 := hF.1
      rw [hk0] at hcS
      have hcC : ∀ w1, Below W.heap.size W w1 → Calls Tryz.prog 44 #[.slice (some ⟨g, o, none⟩) (r.length + 1) cap, .int .i64 d, .func (.func 28) #[] #[.pointer (some ⟨b0, 0, none⟩)]] w1 fun e w' => ∃ ev n v, e = .returned v ∧ FirstOk f d (l :: r) ev n ∧ RestV g ((l :: r).drop n) w' v ∧ Told b0 (acc ++ ev) w' ∧ Kp b0 none W.heap.size W w' := fun w1 b1 => by
        obtain ⟨t1, s1, o1⟩ := hw1 w1 b1
        refine (dpara_any b0 acc d g o cap (l :: r) w1 t1 (by omega) s1 o1 hM hp1).mono ?_
        rintro e w' ⟨⟨v, rfl, hr⟩, T, K⟩
        exact ⟨_, _, v, rfl, hF, hr, T, hK1 _ _ b1 K⟩
      have HC : Hid _ := hcC
      clear hp1 hpf hs0 hk0 q2 q3 q4 q5
      clear hcC hF hstep hw1 hK1 hE hfl hT hS hO h4 h5 hkz hsv hbb
      go_enter Tryz.func34, Tryz.ntmps34
      go_wp2_with (first | (go_at_call 38; refine (hcB _).mono ?_; rintro e w1 ⟨rfl, b1⟩; have c1 := (b1.cell (p := ⟨g, o, none⟩) hglt).trans hcell) | (go_at_call 39; refine (hcS _).mono ?_; rintro e w' ⟨rfl, hw⟩; rw [hw]; clear hw) | (go_at_call 44; refine (HC.out w1 b1).mono ?_; rintro e w2 ⟨ev, n, v, rfl, hf, hr, T2, K2⟩))
      go_ret
      exact ⟨ev, n, v, rfl, hf, hr, T2, K2⟩

set_option maxRecDepth 100000 in
set_option maxHeartbeats 2000000 in
theorem each_any (f : List (List UInt8) → List Ev) (d : Int) (hd : 0 ≤ d ∧ d ≤ 3) (hE : d < 3 → EachC (d + 1) f) (hfl : ∀ ls, (f ls).length ≤ 12 * ls.length) : EachC d (blocksF f d) := by
  intro b0 acc v ls W hT hL hO hM hlen
  rcases hL with ⟨rfl, rfl⟩ | ⟨g, o, cap, rfl, hS⟩
  · have HZ : Hid (blocksF f d [] = []) := by show _ = _; simp [blocksF]
    go_enter Tryz.func29, Tryz.ntmps29
    go_wp2
    go_loopg [0] 1 (fun gk v0 wr => v0 = .slice none 0 0 ∧ wr = W)
    case atStart => exact ⟨rfl, rfl⟩
    case round =>
      obtain ⟨rfl, rfl⟩ := hrel
      go_wp2
      go_end0
      rw [HZ.out, List.append_nil]
      exact ⟨rfl, hT, Kp.refl _ _ _ _⟩
  · have hOg := hO g rfl
    have hglt := hS.lt
    have hb0 := hT.lt
    have hll := tot_len ls
    have HD : Hid (0 ≤ d ∧ d ≤ 3) := hd
    have hd1 := hd.1
    have hd2 := hd.2
    have HE : Hid (d < 3 → EachC (d + 1) f) := hE
    have HFL : Hid (∀ ls, (f ls).length ≤ 12 * ls.length) := hfl
    have HM : Hid (tot ls ≤ 1073741824) := hM
    have HO : Hid (¬ Own b0 W g) := hOg
    obtain ⟨al, hal⟩ : ∃ al, blocksF f d ls = al := ⟨_, rfl⟩
    rw [hal]
    have HA : Hid (blocksF f d ls = al) := hal
    clear hE hfl hM hO hOg hd hal
    go_enter Tryz.func29, Tryz.ntmps29
    go_wp2
    go_loopg [0] ls.length (fun gk v0 wr => ∃ (o1 cap1 : Nat) (rs : List (List UInt8)) (done : List Ev), v0 = .slice (some ⟨g, o1, none⟩) rs.length cap1 ∧ rs.length ≤ gk ∧ Hid (∃ k, rs = ls.drop k) ∧ Hid (Strs g o1 cap1 rs wr) ∧ Hid (Told b0 (acc ++ done) wr) ∧ Hid (Kp b0 none W.heap.size W wr) ∧ Hid (done ++ blocksF f d rs = al) ∧ done.length + 16 * rs.length ≤ 16 * ls.length)
    case atStart => exact ⟨o, cap, ls, [], rfl, Nat.le_refl _, ⟨0, rfl⟩, hS, (by show Told b0 (acc ++ []) W; rw [List.append_nil]; exact hT), Kp.refl _ _ _ _, HA, by simp⟩
    case round =>
      clear hS hT
      obtain ⟨o1, cap1, rs, done, rfl, hgk, HR, HS, HT, HK, HJ, hdl⟩ := hrel
      cases rs with
      | nil =>
        have HF : Hid (done = al) := by show _ = _; rw [← HJ.out]; simp [blocksF]
        go_wp2
        go_end0
        rw [← HF.out]
        exact ⟨rfl, HT.out, HK.out⟩
      | cons l r =>
        have hks := HK.out.size
        have hcF := dfirst_any f d HD.out HE.out HFL.out b0 (acc ++ done) g o1 cap1 l r wr HT.out (by rw [List.length_append]; omega) HS.out (HK.out.off hglt HO.out) (by obtain ⟨k, hk⟩ := HR.out; rw [hk]; exact Nat.le_trans (tot_drop ls k) HM.out)
        rw [List.length_cons] at hgk hdl ⊢
        go_wp2_with (go_at_call 34; refine hcF.mono ?_; rintro e w1 ⟨ev, n, v, rfl, hf, ⟨o2, cap2, rfl, hs2⟩, T2, K2⟩)
        obtain ⟨f1, f2, f3, f4⟩ := hf
        rw [List.length_cons] at f2
        have hd2 : ((l :: r).drop n).length ≤ r.length + 1 - n ∧ r.length + 1 - n ≤ ((l :: r).drop n).length := by rw [List.length_drop, List.length_cons]; omega
        go_roundg ((l :: r).drop n).length
        case measure => omega
        case rel =>
          refine ⟨o2, cap2, (l :: r).drop n, done ++ ev, (by rw [List.length_drop, List.length_cons]), Nat.le_refl _, ?_, hs2, (by show Told b0 (acc ++ (done ++ ev)) w1; rw [← List.append_assoc]; exact T2), HK.out.trans (K2.mono (by omega)), ?_, by rw [List.length_append]; omega⟩
          · obtain ⟨k, hk⟩ := HR.out
            exact ⟨k + n, by rw [hk, List.drop_drop]⟩
          · show _ = _
            rw [List.append_assoc, f3, HJ.out]

theorem each_at (k : Nat) (hk : k ≤ 3) : EachC (3 - (k : Int)) (blocksAt k) := by
  induction k with
  | zero => exact each_any (fun _ => []) 3 ⟨by decide, by decide⟩ (fun h => absurd h (by decide)) (fun ls => by simp)
  | succ k ih =>
    have h := each_any (blocksAt k) (2 - (k : Int)) ⟨by omega, by omega⟩ (fun _ => by
      rw [show (2 - (k : Int) + 1) = 3 - (k : Int) by omega]
      exact ih (by omega)) (fun ls => Nat.le_trans (blocksAt_le k ls) (Nat.mul_le_mul_right _ (by omega)))
    rw [show (3 - ((k + 1 : Nat) : Int)) = 2 - (k : Int) by omega]
    exact h
/-- What the program does with some lines. -/
theorem each_doc : EachC 0 (blocksAt 3) := by simpa using each_at 3 (Nat.le_refl _)

end Go.Proofs.YtkabhbbhliffcaaGreatDoor
