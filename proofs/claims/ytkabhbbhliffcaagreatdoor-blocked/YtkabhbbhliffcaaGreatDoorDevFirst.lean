import Derived.Test.YtkabhbbhliffcaaGreatDoorDevList
namespace Go.Proofs.YtkabhbbhliffcaaGreatDoor
open Go.RowKit Go.Shelf

set_option maxRecDepth 100000 in
set_option maxHeartbeats 2000000 in
theorem dlist_any (f : List (List UInt8) → List Ev) (d : Int) (hd : 0 ≤ d ∧ d < 3) (hE : EachC (d + 1) f) (hfl : ∀ ls, (f ls).length ≤ 12 * ls.length) (b0 : Nat) (acc : List Ev) (g o cap : Nat) (ls : List (List UInt8)) (W : World) (hT : Told b0 acc W) (hlen : (acc.length : Int) + 16 * (ls.length : Int) + 4 * (4 - d) ≤ 1099511627776) (hS : Strs g o cap ls W) (hO : ¬ Own b0 W g) (hM : tot ls ≤ 1073741824) (h0 : 0 < ls.length) (hI : itemL (ls[0]'h0) = true) :
    Calls Tryz.prog 43 #[.slice (some ⟨g, o, none⟩) ls.length cap, .int .i64 d, .func (.func 28) #[] #[.pointer (some ⟨b0, 0, none⟩)]] W fun e w' =>
      (∃ v, e = .returned v ∧ RestV g (ls.drop (behindS ls (listN f ls))) w' v) ∧ Told b0 (acc ++ listS f ls) w' ∧ Kp b0 none W.heap.size W w' := by
  have hmf : ∀ (fn : Fn) (first cap : Array Value) (w : World), (Instr.makeFunc fn first cap).run Tryz.prog w = .ok (.func fn first cap) w := fun _ _ _ _ => rfl
  have hb0 := hT.lt
  have hglt := hS.lt
  obtain ⟨q1, q2⟩ := items_len f hfl ls h0
  have hd1 := hd.1
  have hd2 := hd.2
  obtain ⟨a0, a1, a2, a3⟩ := alloc3 W (.cells #[.slice (some ⟨g, o, none⟩) ls.length cap] 25) (.cells #[.int .i64 d] 3) (.cells #[.func (.func 28) #[] #[.pointer (some ⟨b0, 0, none⟩)]] 52)
  have hz : (((W.alloc (.cells #[.slice (some ⟨g, o, none⟩) ls.length cap] 25)).alloc (.cells #[.int .i64 d] 3)).alloc (.cells #[.func (.func 28) #[] #[.pointer (some ⟨b0, 0, none⟩)]] 52)).heap.size = W.heap.size + 3 := by simp
  obtain ⟨W3, hW3⟩ : ∃ W3, (((W.alloc (.cells #[.slice (some ⟨g, o, none⟩) ls.length cap] 25)).alloc (.cells #[.int .i64 d] 3)).alloc (.cells #[.func (.func 28) #[] #[.pointer (some ⟨b0, 0, none⟩)]] 52)) = W3 := ⟨_, rfl⟩
  have hT3 : Told b0 acc W3 := by rw [← hW3]; exact ((hT.alloc _).alloc _).alloc _
  rw [hW3] at a0 a1 a2 a3 hz
  have hS3 := hS.below a3 hglt
  have hoff : ∀ b, W.heap.size ≤ b → ¬ Own b0 W3 b := fun b hb => own_new hT (a3.block b0 hb0) hb
  have hOg : ¬ Own b0 W3 g := fun ho => hO ((Own.same (a3.block b0 hb0) g).1 ho)
  obtain ⟨its, hits⟩ : ∃ its, (itemsAt f ls 0).1 = its := ⟨_, rfl⟩
  obtain ⟨dr, hdr⟩ : ∃ dr, ls.drop (behindS ls (listN f ls)) = dr := ⟨_, rfl⟩
  have hdr2 : ls.drop (behindS ls (itemsAt f ls 0).2) = dr := hdr
  have hls : acc ++ listS f ls = acc ++ [⟨3, false, 0, []⟩] ++ its ++ [evEnd ⟨3, false, 0, []⟩] := by rw [← hits]; simp [listS, evEnd]
  rw [hdr, hls]
  rw [hits] at q1
  have hc := within_any b0 (some W.heap.size) acc its ⟨3, false, 0, []⟩ 59 #[.pointer (some ⟨W.heap.size, 0, none⟩), .pointer (some ⟨W.heap.size + 1 + 1, 0, none⟩), .pointer (some ⟨W.heap.size + 1, 0, none⟩)] W3 (fun w => ¬ Own b0 w W.heap.size ∧ ¬ Own b0 w g ∧ ∃ v, w.heap[W.heap.size]? = some (.cells #[v] 25 (0, 0)) ∧ RestV g dr w v) (enters_of Tryz.func59 (by kernel_rfl) rfl) hT3 (by omega) (fun g' hg' => by cases hg'; omega)
    (fun W' hT' hK' => by
      have hO' : ¬ Own b0 W' g := hK'.off (by omega) hOg
      have hOb : ∀ b, W.heap.size ≤ b → b < W.heap.size + 3 → ¬ Own b0 W' b := fun b hb hb2 => hK'.off (by omega) (hoff b hb)
      refine (inList_any f d hd hE hfl b0 (acc ++ [⟨3, false, 0, []⟩]) g o cap W.heap.size (W.heap.size + 1 + 1) (W.heap.size + 1) ls W' hT' (by rw [List.length_append, List.length_singleton]; omega) (hS3.kept hK' (by omega) (by simp) hOg) hO' hM h0 hI
        ((hK'.block _ (by omega) (by simp) (hoff _ (by omega))).trans a0) ((hK'.block _ (by omega) (by simp) (hoff _ (by omega))).trans a1) ((hK'.block _ (by omega) (by simp) (hoff _ (by omega))).trans a2)
        (hOb _ (by omega) (by omega)) (hOb _ (by omega) (by omega)) (hOb _ (by omega) (by omega)) (by omega)).mono ?_
      rintro e w' ⟨rfl, T, K, v, hv, hr⟩
      rw [hits] at T
      rw [hdr2] at hr
      have s1 := hK'.size
      exact ⟨rfl, T, K, K.off (by omega) (hOb _ (by omega) (by omega)), K.off (by omega) hO', v, hv, hr⟩)
    (fun W1 w2 hR hK => by
      obtain ⟨r1, r2, v, hv, o5, cap5, he, hs⟩ := hR
      exact ⟨hK.off (by omega) r1, hK.off (by omega) r2, v, (hK.block _ (by omega) (by simp) r1).trans hv, o5, cap5, he, hs.kept hK (by omega) (by simp) r2⟩)
  have hc2 : Calls Tryz.prog 57 #[.agg #[.int .i64 3, .bool false, .int .i64 0, .string ⟨#[]⟩], .func (.func 28) #[] #[.pointer (some ⟨b0, 0, none⟩)], .func (.func 59) #[] #[.pointer (some ⟨W.heap.size, 0, none⟩), .pointer (some ⟨W.heap.size + 1 + 1, 0, none⟩), .pointer (some ⟨W.heap.size + 1, 0, none⟩)]] (((W.alloc (.cells #[.slice (some ⟨g, o, none⟩) ls.length cap] 25)).alloc (.cells #[.int .i64 d] 3)).alloc (.cells #[.func (.func 28) #[] #[.pointer (some ⟨b0, 0, none⟩)]] 52)) fun e w' => e = .returned (.tuple #[]) ∧ Told b0 (acc ++ [⟨3, false, 0, []⟩] ++ its ++ [evEnd ⟨3, false, 0, []⟩]) w' ∧ Kp b0 none W.heap.size W w' ∧ ∃ v, w'.heap[W.heap.size]? = some (.cells #[v] 25 (0, 0)) ∧ RestV g dr w' v := by
    rw [hW3]
    refine hc.mono ?_
    rintro e w' ⟨rfl, T, K, _, _, hv⟩
    exact ⟨rfl, T, (Kp.below a3 hb0).trans ((K.mono (by omega)).past (Nat.le_refl _)), hv⟩
  generalize acc ++ [⟨3, false, 0, []⟩] ++ its ++ [evEnd ⟨3, false, 0, []⟩] = tl at hc2 ⊢
  clear hc hls hits hdr hdr2 hoff hOg hT3 a0 a1 a2 a3 hz hW3 hS3 hT hO hS hE hfl hI hd
  go_enter Tryz.func43, Tryz.ntmps43
  go_wp2_with (go_at_call 57; refine hc2.mono ?_; rintro e w5 ⟨rfl, T5, K5, v, hv, o5, cap5, rfl, hs5⟩; have c5 := cell_of_one hv)
  go_ret
  exact ⟨⟨_, rfl, o5, cap5, rfl, hs5⟩, T5, K5⟩

end Go.Proofs.YtkabhbbhliffcaaGreatDoor
