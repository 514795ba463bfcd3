import Derived.Test.YtljcljipppjnoaaGreatDoorDevEach1
import Derived.Deep.RegionLaw
namespace Go.Proofs.YtljcljipppjnoaaGreatDoor
open Go.RowKit Go.Shelf

set_option maxRecDepth 100000 in
set_option maxHeartbeats 4000000 in
theorem each_any (q : Tel) (hq : q.Ok) (f : List (List UInt8) → List Ev) (d : Int) (hd : 0 ≤ d ∧ d ≤ 3) (hE : d < 3 → EachC q (d + 1) f) (hfl : ∀ ls, (f ls).length ≤ 12 * ls.length) : EachC q d (blocksF f d) := by
  intro acc v ls a W hT hL hO hM ha hlen
  obtain ⟨W2, hW2⟩ : ∃ W2, ((W.alloc (.cells #[.func (.func q.kd) #[] #[.pointer (some ⟨q.bd, 0, none⟩)], .func (.func q.kl) #[] #[.pointer (some ⟨q.bl, 0, none⟩)]] 159)).alloc (.cells #[v, .int .i64 a, .int .i64 d] 162)) = W2 := ⟨_, rfl⟩
  have z2 : W2.heap.size = W.heap.size + 1 + 1 := by rw [← hW2]; simp
  obtain ⟨x1, x2, x3⟩ := Obj.fi q v (.int .i64 a) (.int .i64 d) W W2 (by rw [hW2, ← z2]; exact Below.refl _ _)
  have hT2 := hq.below hT x3
  have hK2 : Kt q none W.heap.size W W2 := hq.kt hT x3
  have hnew : ∀ b, W.heap.size ≤ b → ¬ q.Own W2 b := fun b hb => hq.new hT x3 hb
  rcases hL with ⟨rfl, rfl⟩ | ⟨g, o, cap, rfl, hS⟩
  · have HZ : Hid (blocksF f d [] = []) := by show _ = _; simp [blocksF]
    obtain ⟨c1, c2, c3⟩ := cells3 x2
    have HF : Hid (q.Told acc W2 ∧ Kt q none W.heap.size W W2) := ⟨hT2, hK2⟩
    clear hq hE hT hO x1 x2 x3 hT2 hK2 hnew
    go_enter Tryz.func83, Tryz.ntmps83
    go_wp2
    go_loopg [] 1 (fun gk wr => wr = W2)
    case atStart => rfl
    case round =>
      have hw := hrel
      subst hw
      go_wp2
      go_end0
      rw [HZ.out]
      exact ⟨rfl, ⟨[], SpOk.nil a, by rw [List.append_nil]; exact HF.out.1⟩, HF.out.2⟩
  · have hOg := hq.off hT x3 (hO g rfl)
    have hS2 := hS.below x3 hS.lt
    have hglt := hS.lt
    have hll := tot_len ls
    have HD : Hid (0 ≤ d ∧ d ≤ 3) := hd
    have hd1 := hd.1
    have hd2 := hd.2
    have HQ : Hid q.Ok := hq
    have HE : Hid (d < 3 → EachC q (d + 1) f) := hE
    have HFL : Hid (∀ ls, (f ls).length ≤ 12 * ls.length) := hfl
    have HM : Hid (tot ls ≤ 1073741824) := hM
    have HO : Hid (¬ q.Own W2 g ∧ ¬ q.Own W2 W.heap.size ∧ ¬ q.Own W2 (W.heap.size + 1)) := ⟨hOg, hnew _ (by omega), hnew _ (by omega)⟩
    have HX1 : Hid _ := x1
    have HK2 : Hid (Kt q none W.heap.size W W2) := hK2
    obtain ⟨al, hal⟩ : ∃ al, blocksF f d ls = al := ⟨_, rfl⟩
    rw [hal]
    have HA : Hid (blocksF f d ls = al) := hal
    have z3 : W2.heap.size ≤ W.heap.size + 2 ∧ W.heap.size + 2 ≤ W2.heap.size := by omega
    clear hE hfl hM hO hOg hd hal hq hS hT x3 hnew hK2 z2
    go_enter Tryz.func83, Tryz.ntmps83
    go_wp2
    go_loopg [] ls.length (fun gk wr => ∃ (k oo cc : Nat) (S : List Stp) (done : List Ev) (rs : List (List UInt8)), rs.length ≤ gk ∧ Hid (rs = ls.drop k) ∧ wr.heap[W.heap.size + 1]? = some (.cells #[.slice (some ⟨g, oo, none⟩) rs.length cc, .int .i64 ((a + k : Nat) : Int), .int .i64 d] 162 (0, 0)) ∧ Hid (Strs g oo cc rs wr) ∧ Hid (q.Told (acc ++ S) wr) ∧ Hid (SpOk a (a + k) S done) ∧ Hid (Kt q (some (W.heap.size + 1)) W2.heap.size W2 wr) ∧ Hid (done ++ blocksF f d rs = al) ∧ done.length + 16 * rs.length ≤ 16 * ls.length ∧ k + rs.length = ls.length)
    case atStart => exact ⟨0, o, cap, [], [], ls, Nat.le_refl _, (by show _ = _; rfl), x2, hS2, (by show q.Told (acc ++ []) W2; rw [List.append_nil]; exact hT2), SpOk.nil a, Kt.refl _ _ _ _, HA, by simp, by omega⟩
    case round =>
      clear hS2 hT2 x2 x1
      obtain ⟨k, oo, cc, S, done, rs, hgk, HR, hxp, HS, HT, HSp, HK, HJ, hdl, hkl⟩ := hrel
      have hks := HK.out.size
      obtain ⟨c1, c2, c3⟩ := cells3 hxp
      have hOw : ¬ q.Own wr g ∧ ¬ q.Own wr (W.heap.size + 1) := ⟨HK.out.off (by omega) HO.out.1, HK.out.off (by omega) HO.out.2.2⟩
      obtain ⟨c4, c5⟩ := cells2 ((HK.out.block W.heap.size (by omega) (by simp) HO.out.2.1).trans HX1.out)
      cases rs with
      | nil =>
        have HF : Hid (done = al ∧ ls.length = k) := ⟨by rw [← HJ.out]; simp [blocksF], by simp at hkl; omega⟩
        go_wp2
        go_end0
        rw [← HF.out.1, HF.out.2]
        exact ⟨rfl, ⟨S, HSp.out, HT.out⟩, HK2.out.trans ((HK.out.mono (by omega)).past (by omega))⟩
      | cons l r =>
        rw [List.length_cons] at hgk hkl hdl hxp c1
        have hfit := HS.out.fits
        have hmax := HS.out.max
        have hSl := HSp.out.len
        have hMd : tot (l :: r) ≤ 1073741824 := by rw [HR.out]; exact Nat.le_trans (tot_drop ls k) HM.out
        have hgw : g < wr.heap.size := by omega
        have hcF := fun W' (hb : Below wr.heap.size wr W') => dfirst_any q HQ.out f d HD.out HE.out HFL.out (acc ++ S) g oo cc (a + k) l r W' (HQ.out.below HT.out hb) (by rw [List.length_append, List.length_cons]; omega) (HS.out.below hb hgw) (HQ.out.off HT.out hb hOw.1) hMd (by rw [List.length_cons]; omega)
        have HB : Hid (∀ n ev w1, FirstOk f d (l :: r) ev n → Kt q none wr.heap.size wr w1 → Calls Tryz.prog 107 #[.agg #[.slice (some ⟨g, oo, none⟩) (r.length + 1) cc, .int .i64 ((a + k : Nat) : Int), .int .i64 d], .int .i64 n] w1 fun e w' => ∃ o1 cap1 rs2, e = .returned (.agg #[.slice (some ⟨g, o1, none⟩) rs2.length cap1, .int .i64 ((a + k + n : Nat) : Int), .int .i64 d]) ∧ Hid (rs2 = (l :: r).drop n) ∧ Strs g o1 cap1 rs2 w1 ∧ Below w1.heap.size w1 w') := fun n ev w1 h1 h2 => (behind_nat g oo cc (a + k) n (l :: r) d w1 (HS.out.kept h2 hgw (by simp) hOw.1) h1.2.1 (by have := h1.2.1; rw [List.length_cons] at this; omega)).mono fun e w' h => by
          obtain ⟨o1, cap1, h1, h2, h3⟩ := h
          exact ⟨o1, cap1, _, h1, rfl, h2, h3⟩
        have HXP : Hid (∀ w1, Kt q none wr.heap.size wr w1 → w1.heap[W.heap.size + 1]? = some (.cells #[.slice (some ⟨g, oo, none⟩) (r.length + 1) cc, .int .i64 ((a + k : Nat) : Int), .int .i64 d] 162 (0, 0)) ∧ ¬ q.Own w1 (W.heap.size + 1)) := fun w1 h => ⟨(h.block _ (by omega) (by simp) hOw.2).trans hxp, h.off (by omega) hOw.2⟩
        have hB0 : Below wr.heap.size wr wr.drew := (Below.refl _ wr).drew
        have HKD : Hid (∀ w1, Kt q none wr.drew.heap.size wr.drew w1 → Kt q none wr.heap.size wr w1) := fun w1 h => (HQ.out.kt HT.out hB0).trans (h.mono (Nat.le_refl _))
        clear hOw hxp hMd
        go_wp2
        go_region_law (first
          | (go_simp; go_at_call 108; refine (hcF _ hB0).mono ?_; rintro e w1 ⟨ev, n, rfl, hf, ⟨S', hS', T1⟩, K1'⟩; have K1 := HKD.out w1 K1'; have e1 := (HXP.out w1 K1).1; obtain ⟨r1, r2, r3⟩ := cells3 e1; simp only [])
          | (go_simp; go_at_call 107; refine (HB.out n ev w1 hf K1).mono ?_; rintro e w2 ⟨o2, cap2, rs2, rfl, hr2, hs2, b2⟩; have e2 := (b2.block (W.heap.size + 1) (by have := K1.size; omega)).trans e1; have f0 := row_free (i := 0) e2; have f1 := row_free (i := 1) e2; have f2 := row_free (i := 2) e2; obtain ⟨s1, s2, s3⟩ := cells3 e2; simp only []))
        all_goals
          obtain ⟨v1, v2, v3, v4, v5, v6⟩ := three_set (x' := .slice (some ⟨g, o2, none⟩) rs2.length cap2) (y' := .int .i64 ((a : Int) + (k : Int) + (n : Int))) (z' := .int .i64 d) e2
          have hk1 := K1.size
          have hb2 := b2.size
          have T2 := HQ.out.below T1 b2
          obtain ⟨T3, K3, _⟩ := HQ.out.box T2 (HQ.out.off T1 b2 (HXP.out w1 K1).2) v2 v3 v4 v5 v6
          have K4 := HK.out.trans (((K1.mono hks).weak).trans (((HQ.out.kt T1 b2).mono (by omega)).trans (K3 W2.heap.size)))
          have hs3 := (hs2.below b2 (by omega)).same (v2 g (by omega)) (Nat.le_of_eq v3.symm)
          obtain ⟨q1, q2, q3, q4⟩ := hf
          rw [List.length_cons] at q2
          have hnl : rs2.length + n ≤ r.length + 1 ∧ r.length + 1 ≤ rs2.length + n := by rw [hr2.out, List.length_drop, List.length_cons]; omega
          rw [← hr2.out] at q3
          have hq5 := hS'.len
          have HZ : Hid _ := And.intro v1 (And.intro hs3 (And.intro T3 (And.intro K4 (And.intro q3 (HSp.out.app hS')))))
          have HR2 : Hid (rs2 = ls.drop (k + n)) := by show _ = _; rw [hr2.out, HR.out, List.drop_drop]
          clear v1 v2 v3 v4 v5 v6 T1 T2 T3 K1 K1' K3 K4 hs2 hs3 e1 e2 f0 f1 f2 s1 s2 s3 r1 r2 r3 b2 q3 hS'
          go_wp2
          go_roundg rs2.length
          case measure => omega
          case rel =>
            refine ⟨k + n, o2, cap2, S ++ S', done ++ ev, rs2, Nat.le_refl _, HR2, ?_, HZ.out.2.1, ?_, ?_, HZ.out.2.2.2.1, ?_, ?_, ?_⟩
            · have := HZ.out.1
              rw [show ((a + (k + n) : Nat) : Int) = (a : Int) + (k : Int) + (n : Int) by omega]
              exact this
            · show q.Told (acc ++ (S ++ S')) _
              rw [← List.append_assoc]
              exact HZ.out.2.2.1
            · show SpOk a (a + (k + n)) _ _
              rw [← Nat.add_assoc]
              exact HZ.out.2.2.2.2.2
            · show done ++ ev ++ blocksF f d rs2 = al
              rw [List.append_assoc, HZ.out.2.2.2.2.1]
              exact HJ.out
            · rw [List.length_append]
              omega
            · omega

theorem each_at (q : Tel) (hq : q.Ok) (n : Nat) (hn : n ≤ 3) : EachC q (3 - (n : Int)) (blocksAt n) := by
  induction n with
  | zero => exact each_any q hq (fun _ => []) 3 ⟨by decide, by decide⟩ (fun h => absurd h (by decide)) (by simp)
  | succ n ih =>
    have h := each_any q hq (blocksAt n) (2 - (n : Int)) ⟨by omega, by omega⟩ (fun _ => by rw [show (2 - (n : Int) + 1) = 3 - (n : Int) by omega]; exact ih (by omega)) (fun ls => Nat.le_trans (blocksAt_le n ls) (Nat.mul_le_mul_right _ (by omega)))
    rw [show (3 - ((n + 1 : Nat) : Int)) = 2 - (n : Int) by omega]
    exact h
theorem each_doc (q : Tel) (hq : q.Ok) : EachC q 0 (blocksAt 3) := each_at q hq 3 (Nat.le_refl _)

end Go.Proofs.YtljcljipppjnoaaGreatDoor
