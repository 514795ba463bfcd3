import Derived.Test.YtljcljipppjnoaaGreatDoorDevFirst
import Derived.Test.YtljcljipppjnoaaGreatDoorDevCode
import Derived.Deep.RegionHeld3
namespace Go.Proofs.YtljcljipppjnoaaGreatDoor
open Go.RowKit Go.Shelf

/-- What the first block tells, how many lines it takes, and what is left to tell. -/
def FirstOk (f : List (List UInt8) → List Ev) (d : Int) (ls : List (List UInt8)) (ev : List Ev) (n : Nat) : Prop :=
  1 ≤ n ∧ n ≤ ls.length ∧ ev ++ blocksF f d (ls.drop n) = blocksF f d ls ∧ ev.length ≤ 16 * n

theorem first_step (f : List (List UInt8) → List Ev) (d : Int) (hfl : ∀ ls, (f ls).length ≤ 12 * ls.length) (l : List UInt8) (r : List (List UInt8)) (hb : blankL l = false) : FirstOk f d (l :: r) (stepS f d l (l :: r)).1 (stepS f d l (l :: r)).2 := by
  obtain ⟨a1, a2, a3⟩ := step_facts f 12 d hfl l r
  refine ⟨a1, a2, ?_, a3⟩
  conv => rhs; rw [blocksF, if_neg (by simp [hb])]
  generalize stepS f d l (l :: r) = X at a1 a2 a3
  obtain ⟨m, hm⟩ : ∃ m, X.2 = m + 1 := ⟨X.2 - 1, by omega⟩
  rw [hm, List.drop_succ_cons, Nat.add_sub_cancel]
theorem first_blank (f : List (List UInt8) → List Ev) (d : Int) (l : List UInt8) (r : List (List UInt8)) (hb : blankL l = true) : FirstOk f d (l :: r) [] 1 := by
  refine ⟨Nat.le_refl _, by simp, ?_, by simp⟩
  rw [List.nil_append, List.drop_succ_cons, List.drop_zero, blocksF, if_pos hb]
theorem first_behind (f : List (List UInt8) → List Ev) (d : Int) (ls : List (List UInt8)) (ev : List Ev) (n : Nat) (h : FirstOk f d ls ev n) : FirstOk f d ls ev (behindS ls n) := by
  obtain ⟨h1, h2, h3, h4⟩ := h
  have g1 := behind_ge ls n
  have g2 := behind_le ls n h2
  exact ⟨by omega, g2, by rw [blocks_behind]; exact h3, by omega⟩

set_option maxRecDepth 100000 in
set_option maxHeartbeats 4000000 in
theorem dfirst_any (q : Tel) (hq : q.Ok) (f : List (List UInt8) → List Ev) (d : Int) (hd : 0 ≤ d ∧ d ≤ 3) (hE : d < 3 → EachC q (d + 1) f) (hfl : ∀ ls, (f ls).length ≤ 12 * ls.length) (acc : List Stp) (g o cap a : Nat) (l : List UInt8) (r : List (List UInt8)) (W : World) (hT : q.Told acc W) (hlen : (acc.length : Int) + 16 * ((l :: r).length : Int) + 4 * (4 - d) ≤ 1099511627776) (hS : Strs g o cap (l :: r) W) (hO : ¬ q.Own W g) (hM : tot (l :: r) ≤ 1073741824) (ha : a + (l :: r).length ≤ 4294967296) :
    Calls Tryz.prog 108 #[.agg #[.func (.func q.kd) #[] #[.pointer (some ⟨q.bd, 0, none⟩)], .func (.func q.kl) #[] #[.pointer (some ⟨q.bl, 0, none⟩)]], .agg #[.slice (some ⟨g, o, none⟩) (r.length + 1) cap, .int .i64 a, .int .i64 d]] W fun e w' => ∃ ev n, e = .returned (.int .i64 ((n : Nat) : Int)) ∧ FirstOk f d (l :: r) ev n ∧ (∃ S, SpOk a (a + n) S ev ∧ q.Told (acc ++ S) w') ∧ Kt q none W.heap.size W w' := by
  have hglt := hS.lt
  have hfit := hS.fits
  rw [List.length_cons] at hfit
  have hmax := hS.max
  have hcell := hS.cell 0 l rfl
  rw [Nat.add_zero] at hcell
  have hL : (l :: r).length = r.length + 1 := rfl
  rw [hL] at hlen ha
  have hsz : l.length ≤ 1073741824 := by rw [tot_cons] at hM; omega
  obtain ⟨hd1, hd2⟩ := hd
  have hcB := fun W => dblank_any ⟨l.toArray⟩ W (by rw [size_of]; omega)
  have hbl : blankS ⟨l.toArray⟩ = blankL l := rfl
  rw [hbl] at hcB
  obtain ⟨W2, hW2, z2, hK, hK3⟩ := fp_frame q hq acc W hT (.slice (some ⟨g, o, none⟩) (r.length + 1) cap) (.int .i64 a) (.int .i64 d)
  obtain ⟨⟨⟨k1, k2⟩, ⟨k3, k4, k5⟩⟩, hb02, _⟩ := hK W2 (Below.refl _ W2)
  have hcell2 := (hb02.cell (p := ⟨g, o, none⟩) hglt).trans hcell
  have HK : Hid _ := hK
  clear z2
  cases hbb : blankL l with
  | true =>
    have HF : Hid (FirstOk f d (l :: r) [] 1) := first_blank f d l r hbb
    have HT : Hid (∀ w1, Below W2.heap.size W2 w1 → q.Told (acc ++ []) w1 ∧ Kt q none W.heap.size W w1) := fun w1 b1 => ⟨by rw [List.append_nil]; exact (hK w1 b1).2.2.1, hq.kt hT (hK w1 b1).2.1⟩
    rw [hbb] at hcB
    clear hbb hbl hE hfl hS hO hT hq hK hK3
    go_enter Tryz.func108, Tryz.ntmps108
    go_wp2_with (go_at_call 127; refine (hcB _).mono ?_; rintro e w1 ⟨rfl, b1⟩)
    go_ret
    exact ⟨[], 1, rfl, HF.out, ⟨[], (SpOk.nil a).upto (by omega), (HT.out w1 b1).1⟩, (HT.out w1 b1).2⟩
  | false =>
    rw [hbb] at hcB
    have hF := first_step f d hfl l r hbb
    have hcS := fun W => dbegins_any ⟨l.toArray⟩ d W (by rw [size_of]; omega)
    obtain ⟨sv, hsv⟩ : ∃ sv, startsS ⟨l.toArray⟩ d = sv := ⟨_, rfl⟩
    have h4 := starts4 ⟨l.toArray⟩ d
    have h5 := starts5 ⟨l.toArray⟩ d
    have hkz := kind_zero ⟨l.toArray⟩ d
    rw [hsv] at hcS h4 h5 hkz
    have hstep : stepS f d l (l :: r) = if sv = 2 then (leafS 5 0 (fencedT (l :: r)), fencedN (l :: r)) else if sv = 3 then (leafS 1 (levelL l) (trimL (l.drop (levelL l))), 1) else if sv = 4 then (quoteS f (l :: r), quoteN (l :: r)) else if sv = 5 then (listS f (l :: r), listN f (l :: r)) else (leafS 0 0 (joinT ((l :: r).take (paraFrom (l :: r) d 1))), paraFrom (l :: r) d 1) := by
      rw [stepS, hsv]
    rw [hstep] at hF
    have hq' : sv = 2 ∨ sv = 3 ∨ sv = 4 ∨ sv = 5 ∨ (sv ≠ 2 ∧ sv ≠ 3 ∧ sv ≠ 4 ∧ sv ≠ 5) := by omega
    clear hbl
    rcases hq' with rfl | rfl | rfl | rfl | ⟨q2, q3, q4, q5⟩
    · rw [if_pos rfl] at hF
      have hcC : ∀ w1, Below W2.heap.size W2 w1 → Calls Tryz.prog 129 #[.agg #[.func (.func q.kd) #[] #[.pointer (some ⟨q.bd, 0, none⟩)], .func (.func q.kl) #[] #[.pointer (some ⟨q.bl, 0, none⟩)]], .agg #[.slice (some ⟨g, o, none⟩) (r.length + 1) cap, .int .i64 a, .int .i64 d]] w1 fun e w' => ∃ ev n, e = .returned (.int .i64 ((n : Nat) : Int)) ∧ FirstOk f d (l :: r) ev n ∧ (∃ S, SpOk a (a + n) S ev ∧ q.Told (acc ++ S) w') ∧ Kt q none W.heap.size W w' := fun w1 b1 => by
        obtain ⟨_, b0, t1, _⟩ := hK w1 b1
        have s1 := hS.below b0 hglt
        have o1 := hq.off hT b0 hO
        refine (dcode_any q hq acc g o cap a d l r w1 t1 (by omega) s1 hM).mono ?_
        rintro e w' ⟨rfl, hSS, K⟩
        exact ⟨_, _, rfl, hF, hSS, (hq.kt hT b0).trans (K.mono b0.size)⟩
      have HC : Hid _ := hcC
      clear hcC hF hstep hE hfl hT hS hO h4 h5 hkz hsv hbb hq hK hK3
      go_enter Tryz.func108, Tryz.ntmps108
      go_wp2_with (go_at_call 127; refine (hcB _).mono ?_; rintro e w1 ⟨rfl, b1⟩; obtain ⟨⟨⟨q1, q2⟩, ⟨q3, q4, q5⟩⟩, b9, _⟩ := HK.out w1 b1; have c1 := (b9.cell (p := ⟨g, o, none⟩) hglt).trans hcell)
      have B1 : Below W2.heap.size W2 w1.drew := b1.drew
      have hSS1 : w1.drew.cell? ⟨W.heap.size + 1, 0, none⟩ = some (.slice (some ⟨g, o, none⟩) (r.length + 1) cap) ∧ w1.drew.cell? ⟨W.heap.size + 1, 2, none⟩ = some (.int .i64 d) ∧ w1.drew.cell? ⟨g, o, none⟩ = some (.string ⟨l.toArray⟩) := ⟨q3, q5, c1⟩
      go_region_held3 (fun w' => w'.cell? ⟨W.heap.size + 1, 0, none⟩ = some (.slice (some ⟨g, o, none⟩) (r.length + 1) cap) ∧ w'.cell? ⟨W.heap.size + 1, 2, none⟩ = some (.int .i64 d) ∧ w'.cell? ⟨g, o, none⟩ = some (.string ⟨l.toArray⟩)) (exact hSS1) (first | (go_at_call 128; refine (hcS _).mono ?_; rintro e w' ⟨rfl, hw⟩; rw [hw]; clear hw))
      go_wp2_with (go_at_call 129; refine (HC.out _ B1).mono ?_; rintro e w2 ⟨ev, n, rfl, hf, hSS, K2⟩)
      go_ret
      exact ⟨ev, n, rfl, hf, hSS, K2⟩
    · rw [if_neg (by decide), if_pos rfl] at hF
      have hcC : ∀ w1, Below W2.heap.size W2 w1 → Calls Tryz.prog 130 #[.agg #[.func (.func q.kd) #[] #[.pointer (some ⟨q.bd, 0, none⟩)], .func (.func q.kl) #[] #[.pointer (some ⟨q.bl, 0, none⟩)]], .agg #[.slice (some ⟨g, o, none⟩) (r.length + 1) cap, .int .i64 a, .int .i64 d]] w1 fun e w' => ∃ ev n, e = .returned (.int .i64 ((n : Nat) : Int)) ∧ FirstOk f d (l :: r) ev n ∧ (∃ S, SpOk a (a + n) S ev ∧ q.Told (acc ++ S) w') ∧ Kt q none W.heap.size W w' := fun w1 b1 => by
        obtain ⟨_, b0, t1, _⟩ := hK w1 b1
        have s1 := hS.below b0 hglt
        have o1 := hq.off hT b0 hO
        refine (dheading_any q hq acc g o cap a d l r w1 t1 (by omega) s1 o1 hsz (by omega)).mono ?_
        rintro e w' ⟨rfl, hSS, K⟩
        exact ⟨_, _, rfl, hF, hSS, (hq.kt hT b0).trans (K.mono b0.size)⟩
      have HC : Hid _ := hcC
      clear hcC hF hstep hE hfl hT hS hO h4 h5 hkz hsv hbb hq hK hK3
      go_enter Tryz.func108, Tryz.ntmps108
      go_wp2_with (go_at_call 127; refine (hcB _).mono ?_; rintro e w1 ⟨rfl, b1⟩; obtain ⟨⟨⟨q1, q2⟩, ⟨q3, q4, q5⟩⟩, b9, _⟩ := HK.out w1 b1; have c1 := (b9.cell (p := ⟨g, o, none⟩) hglt).trans hcell)
      have B1 : Below W2.heap.size W2 w1.drew := b1.drew
      have hSS1 : w1.drew.cell? ⟨W.heap.size + 1, 0, none⟩ = some (.slice (some ⟨g, o, none⟩) (r.length + 1) cap) ∧ w1.drew.cell? ⟨W.heap.size + 1, 2, none⟩ = some (.int .i64 d) ∧ w1.drew.cell? ⟨g, o, none⟩ = some (.string ⟨l.toArray⟩) := ⟨q3, q5, c1⟩
      go_region_held3 (fun w' => w'.cell? ⟨W.heap.size + 1, 0, none⟩ = some (.slice (some ⟨g, o, none⟩) (r.length + 1) cap) ∧ w'.cell? ⟨W.heap.size + 1, 2, none⟩ = some (.int .i64 d) ∧ w'.cell? ⟨g, o, none⟩ = some (.string ⟨l.toArray⟩)) (exact hSS1) (first | (go_at_call 128; refine (hcS _).mono ?_; rintro e w' ⟨rfl, hw⟩; rw [hw]; clear hw))
      go_wp2_with (go_at_call 130; refine (HC.out _ B1).mono ?_; rintro e w2 ⟨ev, n, rfl, hf, hSS, K2⟩)
      go_ret
      exact ⟨ev, n, rfl, hf, hSS, K2⟩
    · rw [if_neg (by decide), if_neg (by decide), if_pos rfl] at hF
      have hlt := (h4 rfl).2
      have hq1 := quote_one l r (h4 rfl).1
      have hcC : ∀ w1, Below W2.heap.size W2 w1 → Calls Tryz.prog 131 #[.agg #[.func (.func q.kd) #[] #[.pointer (some ⟨q.bd, 0, none⟩)], .func (.func q.kl) #[] #[.pointer (some ⟨q.bl, 0, none⟩)]], .agg #[.slice (some ⟨g, o, none⟩) (r.length + 1) cap, .int .i64 a, .int .i64 d]] w1 fun e w' => ∃ ev n, e = .returned (.int .i64 ((n : Nat) : Int)) ∧ FirstOk f d (l :: r) ev n ∧ (∃ S, SpOk a (a + n) S ev ∧ q.Told (acc ++ S) w') ∧ Kt q none W.heap.size W w' := fun w1 b1 => by
        obtain ⟨_, b0, t1, _⟩ := hK w1 b1
        have s1 := hS.below b0 hglt
        have o1 := hq.off hT b0 hO
        refine (dquote_any q hq f d ⟨hd1, hlt⟩ (hE hlt) (fun ls => by have := hfl ls; omega) acc g o cap a (l :: r) w1 t1 (by rw [hL]; exact hlen) s1 hM hq1 (by rw [hL]; exact ha)).mono ?_
        rintro e w' ⟨rfl, hSS, K⟩
        exact ⟨_, _, rfl, hF, hSS, (hq.kt hT b0).trans (K.mono b0.size)⟩
      have HC : Hid _ := hcC
      clear hcC hF hstep hE hfl hT hS hO h4 h5 hkz hsv hbb hq hK hK3
      go_enter Tryz.func108, Tryz.ntmps108
      go_wp2_with (go_at_call 127; refine (hcB _).mono ?_; rintro e w1 ⟨rfl, b1⟩; obtain ⟨⟨⟨q1, q2⟩, ⟨q3, q4, q5⟩⟩, b9, _⟩ := HK.out w1 b1; have c1 := (b9.cell (p := ⟨g, o, none⟩) hglt).trans hcell)
      have B1 : Below W2.heap.size W2 w1.drew := b1.drew
      have hSS1 : w1.drew.cell? ⟨W.heap.size + 1, 0, none⟩ = some (.slice (some ⟨g, o, none⟩) (r.length + 1) cap) ∧ w1.drew.cell? ⟨W.heap.size + 1, 2, none⟩ = some (.int .i64 d) ∧ w1.drew.cell? ⟨g, o, none⟩ = some (.string ⟨l.toArray⟩) := ⟨q3, q5, c1⟩
      go_region_held3 (fun w' => w'.cell? ⟨W.heap.size + 1, 0, none⟩ = some (.slice (some ⟨g, o, none⟩) (r.length + 1) cap) ∧ w'.cell? ⟨W.heap.size + 1, 2, none⟩ = some (.int .i64 d) ∧ w'.cell? ⟨g, o, none⟩ = some (.string ⟨l.toArray⟩)) (exact hSS1) (first | (go_at_call 128; refine (hcS _).mono ?_; rintro e w' ⟨rfl, hw⟩; rw [hw]; clear hw))
      go_wp2_with (go_at_call 131; refine (HC.out _ B1).mono ?_; rintro e w2 ⟨ev, n, rfl, hf, hSS, K2⟩)
      go_ret
      exact ⟨ev, n, rfl, hf, hSS, K2⟩
    · rw [if_neg (by decide), if_neg (by decide), if_neg (by decide), if_pos rfl] at hF
      have hlt := (h5 rfl).2
      have hit : itemL l = true := (h5 rfl).1
      have hcC : ∀ w1, Below W2.heap.size W2 w1 → Calls Tryz.prog 132 #[.agg #[.func (.func q.kd) #[] #[.pointer (some ⟨q.bd, 0, none⟩)], .func (.func q.kl) #[] #[.pointer (some ⟨q.bl, 0, none⟩)]], .agg #[.slice (some ⟨g, o, none⟩) (r.length + 1) cap, .int .i64 a, .int .i64 d]] w1 fun e w' => ∃ ev n, e = .returned (.int .i64 ((n : Nat) : Int)) ∧ FirstOk f d (l :: r) ev n ∧ (∃ S, SpOk a (a + n) S ev ∧ q.Told (acc ++ S) w') ∧ Kt q none W.heap.size W w' := fun w1 b1 => by
        obtain ⟨_, b0, t1, _⟩ := hK w1 b1
        have s1 := hS.below b0 hglt
        have o1 := hq.off hT b0 hO
        refine (dlist_any q hq f d ⟨hd1, hlt⟩ (hE hlt) hfl acc g o cap a (l :: r) w1 t1 (by rw [hL]; exact hlen) s1 o1 hM (by simp) hit (by rw [hL]; exact ha)).mono ?_
        rintro e w' ⟨rfl, hSS, K⟩
        exact ⟨_, _, rfl, first_behind f d _ _ _ hF, hSS, (hq.kt hT b0).trans (K.mono b0.size)⟩
      have HC : Hid _ := hcC
      clear hcC hF hstep hE hfl hT hS hO h4 h5 hkz hsv hbb hq hK hK3
      go_enter Tryz.func108, Tryz.ntmps108
      go_wp2_with (go_at_call 127; refine (hcB _).mono ?_; rintro e w1 ⟨rfl, b1⟩; obtain ⟨⟨⟨q1, q2⟩, ⟨q3, q4, q5⟩⟩, b9, _⟩ := HK.out w1 b1; have c1 := (b9.cell (p := ⟨g, o, none⟩) hglt).trans hcell)
      have B1 : Below W2.heap.size W2 w1.drew := b1.drew
      have hSS1 : w1.drew.cell? ⟨W.heap.size + 1, 0, none⟩ = some (.slice (some ⟨g, o, none⟩) (r.length + 1) cap) ∧ w1.drew.cell? ⟨W.heap.size + 1, 2, none⟩ = some (.int .i64 d) ∧ w1.drew.cell? ⟨g, o, none⟩ = some (.string ⟨l.toArray⟩) := ⟨q3, q5, c1⟩
      go_region_held3 (fun w' => w'.cell? ⟨W.heap.size + 1, 0, none⟩ = some (.slice (some ⟨g, o, none⟩) (r.length + 1) cap) ∧ w'.cell? ⟨W.heap.size + 1, 2, none⟩ = some (.int .i64 d) ∧ w'.cell? ⟨g, o, none⟩ = some (.string ⟨l.toArray⟩)) (exact hSS1) (first | (go_at_call 128; refine (hcS _).mono ?_; rintro e w' ⟨rfl, hw⟩; rw [hw]; clear hw))
      go_wp2_with (go_at_call 132; refine (HC.out _ B1).mono ?_; rintro e w2 ⟨ev, n, rfl, hf, hSS, K2⟩)
      go_ret
      exact ⟨ev, n, rfl, hf, hSS, K2⟩
    · rw [if_neg q2, if_neg q3, if_neg q4, if_neg q5] at hF
      have hk0 : kindOf sv = 0 := by rw [kindOf, if_neg q2, if_neg q3, if_neg q4, if_neg q5]
      have hs0 := hkz.1 hk0
      have hpf : paraFrom (l :: r) d 0 = paraFrom (l :: r) d 1 := para_lt (l :: r) d 0 (by simp) (by show (!blankL l && decide (startsS ⟨l.toArray⟩ d = 0)) = true; rw [hbb, hsv, hs0]; rfl)
      rw [← hpf] at hF
      have hp1 : 1 ≤ paraFrom (l :: r) d 0 := hF.1
      rw [hk0] at hcS
      have hcC : ∀ w1, Below W2.heap.size W2 w1 → Calls Tryz.prog 133 #[.agg #[.func (.func q.kd) #[] #[.pointer (some ⟨q.bd, 0, none⟩)], .func (.func q.kl) #[] #[.pointer (some ⟨q.bl, 0, none⟩)]], .agg #[.slice (some ⟨g, o, none⟩) (r.length + 1) cap, .int .i64 a, .int .i64 d]] w1 fun e w' => ∃ ev n, e = .returned (.int .i64 ((n : Nat) : Int)) ∧ FirstOk f d (l :: r) ev n ∧ (∃ S, SpOk a (a + n) S ev ∧ q.Told (acc ++ S) w') ∧ Kt q none W.heap.size W w' := fun w1 b1 => by
        obtain ⟨_, b0, t1, _⟩ := hK w1 b1
        have s1 := hS.below b0 hglt
        have o1 := hq.off hT b0 hO
        refine (dpara_any q hq acc d g o cap a (l :: r) w1 t1 (by omega) s1 hM hp1 (by rw [hL]; exact ha)).mono ?_
        rintro e w' ⟨rfl, hSS, K⟩
        exact ⟨_, _, rfl, hF, hSS, (hq.kt hT b0).trans (K.mono b0.size)⟩
      have HC : Hid _ := hcC
      clear hp1 hpf hs0 hk0 q2 q3 q4 q5
      clear hcC hF hstep hE hfl hT hS hO h4 h5 hkz hsv hbb hq hK hK3
      go_enter Tryz.func108, Tryz.ntmps108
      go_wp2_with (go_at_call 127; refine (hcB _).mono ?_; rintro e w1 ⟨rfl, b1⟩; obtain ⟨⟨⟨q1, q2⟩, ⟨q3, q4, q5⟩⟩, b9, _⟩ := HK.out w1 b1; have c1 := (b9.cell (p := ⟨g, o, none⟩) hglt).trans hcell)
      have B1 : Below W2.heap.size W2 w1.drew := b1.drew
      have hSS1 : w1.drew.cell? ⟨W.heap.size + 1, 0, none⟩ = some (.slice (some ⟨g, o, none⟩) (r.length + 1) cap) ∧ w1.drew.cell? ⟨W.heap.size + 1, 2, none⟩ = some (.int .i64 d) ∧ w1.drew.cell? ⟨g, o, none⟩ = some (.string ⟨l.toArray⟩) := ⟨q3, q5, c1⟩
      go_region_held3 (fun w' => w'.cell? ⟨W.heap.size + 1, 0, none⟩ = some (.slice (some ⟨g, o, none⟩) (r.length + 1) cap) ∧ w'.cell? ⟨W.heap.size + 1, 2, none⟩ = some (.int .i64 d) ∧ w'.cell? ⟨g, o, none⟩ = some (.string ⟨l.toArray⟩)) (exact hSS1) (first | (go_at_call 128; refine (hcS _).mono ?_; rintro e w' ⟨rfl, hw⟩; rw [hw]; clear hw))
      go_wp2_with (go_at_call 133; refine (HC.out _ B1).mono ?_; rintro e w2 ⟨ev, n, rfl, hf, hSS, K2⟩)
      go_ret
      exact ⟨ev, n, rfl, hf, hSS, K2⟩

end Go.Proofs.YtljcljipppjnoaaGreatDoor
