import Derived.Test.YtljcljipppjnoaaGreatDoorDevList
namespace Go.Proofs.YtljcljipppjnoaaGreatDoor
open Go.RowKit Go.Shelf

set_option maxRecDepth 100000 in
set_option maxHeartbeats 2000000 in
theorem dlist_any (q : Tel) (hq : q.Ok) (f : List (List UInt8) → List Ev) (d : Int) (hd : 0 ≤ d ∧ d < 3) (hE : EachC q (d + 1) f) (hfl : ∀ ls, (f ls).length ≤ 12 * ls.length) (acc : List Stp) (g o cap a : Nat) (ls : List (List UInt8)) (W : World) (hT : q.Told acc W) (hlen : (acc.length : Int) + 16 * (ls.length : Int) + 4 * (4 - d) ≤ 1099511627776) (hS : Strs g o cap ls W) (hO : ¬ q.Own W g) (hM : tot ls ≤ 1073741824) (h0 : 0 < ls.length) (hI : itemL (ls[0]'h0) = true) (ha : a + ls.length ≤ 4294967296) :
    Calls Tryz.prog 132 #[.agg #[.func (.func q.kd) #[] #[.pointer (some ⟨q.bd, 0, none⟩)], .func (.func q.kl) #[] #[.pointer (some ⟨q.bl, 0, none⟩)]], .agg #[.slice (some ⟨g, o, none⟩) ls.length cap, .int .i64 a, .int .i64 d]] W fun e w' =>
      e = .returned (.int .i64 ((behindS ls (listN f ls) : Nat) : Int)) ∧ (∃ S, SpOk a (a + behindS ls (listN f ls)) S (listS f ls) ∧ q.Told (acc ++ S) w') ∧ Kt q none W.heap.size W w' := by
  have hmf : ∀ (fn : Fn) (first cap : Array Value) (w : World), (Instr.makeFunc fn first cap).run Tryz.prog w = .ok (.func fn first cap) w := fun _ _ _ _ => rfl
  have hglt := hS.lt
  obtain ⟨q1, q2⟩ := items_len f hfl ls h0
  have hd1 := hd.1
  have hd2 := hd.2
  have hfit := hS.fits
  have hmax := hS.max
  have hll := tot_len ls
  obtain ⟨W2, hW2⟩ : ∃ W2, ((W.alloc (.cells #[.func (.func q.kd) #[] #[.pointer (some ⟨q.bd, 0, none⟩)], .func (.func q.kl) #[] #[.pointer (some ⟨q.bl, 0, none⟩)]] 159)).alloc (.cells #[.slice (some ⟨g, o, none⟩) ls.length cap, .int .i64 a, .int .i64 d] 162)) = W2 := ⟨_, rfl⟩
  have z2 : W2.heap.size = W.heap.size + 1 + 1 := by rw [← hW2]; simp
  obtain ⟨x1, x2, x3⟩ := Obj.fi q (.slice (some ⟨g, o, none⟩) ls.length cap) (.int .i64 a) (.int .i64 d) W W2 (by rw [hW2, ← z2]; exact Below.refl _ _)
  have hb2 : behindS ls (itemsAt f ls 0).2 ≤ ls.length := behind_le ls _ q2
  have hlN : listN f ls = (itemsAt f ls 0).2 := rfl
  have hlS : listS f ls = [⟨3, false, 0, []⟩] ++ (itemsAt f ls 0).1 ++ [⟨3, true, 0, []⟩] := rfl
  rw [hlN, hlS]
  obtain ⟨bn, hbn⟩ : ∃ bn, behindS ls (itemsAt f ls 0).2 = bn := ⟨_, rfl⟩
  have hoff : ∀ b, W.heap.size ≤ b → ¬ q.Own W2 b := fun b hb => hq.new hT x3 hb
  have hOg : ¬ q.Own W2 g := hq.off hT x3 hO
  have hc := twithin_any q hq (some (W.heap.size + 1)) acc (fun S => SpOk a (a + bn) S (itemsAt f ls 0).1) (14 * ls.length) (fun S hS => by rw [hS.len]; exact q1) ⟨3, false, 0, []⟩ 159 #[.pointer (some ⟨W.heap.size + 1, 0, none⟩), .pointer (some ⟨W.heap.size, 0, none⟩)] W2 (fun w => ¬ q.Own w (W.heap.size + 1) ∧ ∃ o5 cap5, w.heap[W.heap.size + 1]? = some (.cells #[.slice (some ⟨g, o5, none⟩) (ls.drop bn).length cap5, .int .i64 ((a + bn : Nat) : Int), .int .i64 d] 162 (0, 0))) (enters_of Tryz.func159 (by kernel_rfl) rfl) (hq.below hT x3) (by omega) (fun g' hg' => by cases hg'; omega)
    (fun W' hT' hK' => by
      have hO' : ¬ q.Own W' g := hK'.off (by omega) hOg
      refine (inList_any q hq f d hd hE hfl (acc ++ [.ev ⟨3, false, 0, []⟩]) g o cap a (W.heap.size + 1) W.heap.size ls W' hT' (by rw [List.length_append, List.length_singleton]; omega) ((hS.below x3 hglt).kept hK' (by omega) (by simp) hOg) hO' hM h0 hI ha
        ((hK'.block _ (by omega) (by simp) (hoff _ (by omega))).trans x2) ((hK'.block _ (by omega) (by simp) (hoff _ (by omega))).trans x1)
        (hK'.off (by omega) (hoff _ (by omega))) (hK'.off (by omega) (hoff _ (by omega))) (by omega)).mono ?_
      rw [hbn]
      rintro e w' ⟨rfl, ⟨S, s1, s2⟩, K, hv⟩
      have s3 := hK'.size
      exact ⟨rfl, S, s1, s2, K, K.off (by omega) (hK'.off (by omega) (hoff _ (by omega))), hv⟩)
    (fun W1 w2 hR hK => by
      obtain ⟨r1, o5, cap5, hv⟩ := hR
      exact ⟨hK.off (by omega) r1, o5, cap5, (hK.block _ (by omega) (by simp) r1).trans hv⟩)
  have hc2 : Calls Tryz.prog 152 #[.agg #[.int .i64 3, .bool false, .int .i64 0, .string ⟨#[]⟩], .func (.func q.kd) #[] #[.pointer (some ⟨q.bd, 0, none⟩)], .func (.func 159) #[] #[.pointer (some ⟨W.heap.size + 1, 0, none⟩), .pointer (some ⟨W.heap.size, 0, none⟩)]] W2 fun e w' => e = .returned (.tuple #[]) ∧ (∃ S, SpOk a (a + bn) S ([⟨3, false, 0, []⟩] ++ (itemsAt f ls 0).1 ++ [⟨3, true, 0, []⟩]) ∧ q.Told (acc ++ S) w') ∧ Kt q none W.heap.size W w' ∧ ∃ o5 cap5, w'.heap[W.heap.size + 1]? = some (.cells #[.slice (some ⟨g, o5, none⟩) (ls.drop bn).length cap5, .int .i64 ((a + bn : Nat) : Int), .int .i64 d] 162 (0, 0)) := by
    refine hc.mono ?_
    rintro e w' ⟨rfl, S, s1, s2, K, _, hv⟩
    exact ⟨rfl, ⟨_, s1.within ⟨3, false, 0, []⟩ ⟨3, true, 0, []⟩ (by decide) (by decide), s2⟩, (hq.kt hT x3).trans ((K.mono (by omega)).past (by omega)), hv⟩
  have hdl : (ls.drop bn).length = ls.length - bn := List.length_drop
  rw [hbn] at hb2
  rw [hbn]
  rw [hdl] at hc2
  have hsub : ((ls.length : Int) - ((ls.length - bn : Nat) : Int)) = (bn : Int) := by omega
  generalize [⟨3, false, 0, []⟩] ++ (itemsAt f ls 0).1 ++ [⟨3, true, 0, []⟩] = tl at hc2 ⊢
  obtain ⟨k1, k2⟩ := cells2 x1
  obtain ⟨k3, k4, k5⟩ := cells3 x2
  clear hc hoff hOg hT hO hS hE hfl hI hd hq x1 x2 x3 hdl hbn hlN hlS q1 q2 z2
  go_enter Tryz.func132, Tryz.ntmps132
  go_wp2_with (go_at_call 152; refine hc2.mono ?_; rintro e w5 ⟨rfl, T5, K5, o5, cap5, hv⟩; obtain ⟨v1, v2, v3⟩ := cells3 hv)
  go_ret
  exact ⟨rfl, T5, K5⟩

end Go.Proofs.YtljcljipppjnoaaGreatDoor
