import Derived.Test.YtljcljipppjnoaaDoorLvSub
namespace Go.Proofs.YtljcljipppjnoaaDoor
open Go.RowKit Go.Shelf

theorem alloc2 (W : World) (a b : Obj) : Below W.heap.size W ((W.alloc a).alloc b) ∧ ((W.alloc a).alloc b).heap.size = W.heap.size + 2 ∧ ((W.alloc a).alloc b).heap[W.heap.size]? = some a ∧ ((W.alloc a).alloc b).heap[W.heap.size + 1]? = some b := by
  refine ⟨((Below.refl _ W).alloc (Nat.le_refl _) _).alloc (by simp) _, by simp, ?_, ?_⟩
  · exact heap_al _ _ (by simp) (heap_alloc_new W _)
  · have := heap_alloc_new (W.alloc a) b
    simpa using this

set_option maxRecDepth 100000 in
set_option maxHeartbeats 4000000 in
theorem link_any (q : Tl) (m : Int) (N : Nat) (hC : PartC q m N) (A : List Ev) (s : ByteArray) (ins : Bool) (W : World) (hT : Tell q A W) (hM : ML q m W) (h0 : s.data.toList[0]? = some 91) (hN : s.size ≤ N) (hs : s.size ≤ 1073741824) (hlen : A.length + 2 * s.size ≤ 1099511627776) (hx : ∀ e ∈ A, e.text.length + s.size ≤ 1099511627776) (X : List Ev × Nat) (hX : oneS inlineS s.data.toList 0 ins = X) :
    Calls Tryd.prog 65 #[.string s, .bool ins, .func (.func 58) #[] #[.pointer (some ⟨q.bT, 0, none⟩), .pointer (some ⟨q.bE, 0, none⟩), .pointer (some ⟨q.bD, 0, none⟩)]] W fun e w' => e = .returned (.int .i64 X.2) ∧ Tell q (glue A X.1) w' ∧ Kl q W w' := by
  have hmf : ∀ (fn : Fn) (first cap : Array Value) (w : World), (Instr.makeFunc fn first cap).run Tryd.prog w = .ok (.func fn first cap) w := fun _ _ _ _ => rfl
  have hl := ba_len s
  have hb0 := hT.b0lt
  have cL := fun W => dlink_any s W h0 hs
  unfold oneS at hX
  rw [if_neg (by rw [h0]; simp), if_neg (by rw [h0]; simp), if_neg (by rw [h0]; simp), if_pos h0] at hX
  obtain ⟨b2, z2, x1, x2⟩ := alloc2 W (.cells #[.bool ins] 4) (.cells #[.func (.func 58) #[] #[.pointer (some ⟨q.bT, 0, none⟩), .pointer (some ⟨q.bE, 0, none⟩), .pointer (some ⟨q.bD, 0, none⟩)]] 111)
  obtain ⟨W2, hW2⟩ : ∃ W2, (W.alloc (.cells #[.bool ins] 4)).alloc (.cells #[.func (.func 58) #[] #[.pointer (some ⟨q.bT, 0, none⟩), .pointer (some ⟨q.bE, 0, none⟩), .pointer (some ⟨q.bD, 0, none⟩)]] 111) = W2 := ⟨_, rfl⟩
  rw [hW2] at b2 z2 x1 x2
  cases hk : linkS s.data.toList 0 with
  | none =>
    rw [hk] at cL hX
    simp only at hX
    subst hX
    show Calls _ _ _ _ (fun e w' => e = .returned (.int .i64 0) ∧ Tell q (glue A []) w' ∧ Kl q W w')
    rw [glue_nil]
    have cL2 : Calls Tryd.prog 72 #[.string s] W2 fun e w' => e = .returned (.tuple #[.string ⟨#[]⟩, .string ⟨#[]⟩, .bool false]) ∧ Below W2.heap.size W2 w' := cL W2
    have HF : Hid (∀ w3 w4, Below W2.heap.size W2 w3 → Below w3.heap.size w3 w4 → Tell q A w4 ∧ Kl q W w4) := by
      intro w3 w4 b3 b4
      have bb : Below W.heap.size W w4 := b2.trans ((b3.mono (by omega)).trans (b4.mono (by have := b3.size; omega)))
      exact ⟨hT.below bb, Kl.below bb hb0⟩
    rw [← hW2] at cL2 HF
    clear hT hM hC hx hk cL hlen h0 b2 z2 x1 x2 hW2
    go_enter Tryd.func65, Tryd.ntmps65
    go_wp2_with (go_at_call 72; refine cL2.mono ?_; rintro e w3 ⟨rfl, b3⟩)
    go_ret
    obtain ⟨TF, KF⟩ := HF.out w3 _ b3 ((Below.refl _ w3).alloc (Nat.le_refl _) _)
    exact ⟨rfl, TF, KF⟩
  | some x =>
    obtain ⟨a1, a2, a3⟩ := link_facts s.data.toList 0 x hk h0
    rw [hk] at cL hX
    simp only at hX
    rw [hl] at a3
    obtain ⟨ib, hib⟩ : ∃ ib : ByteArray, ib = ⟨(cut s.data.toList 1 x.1).toArray⟩ := ⟨_, rfl⟩
    have hid : ib.data.toList = cut s.data.toList (0 + 1) x.1 := by rw [hib]
    have hiz : ib.size = x.1 - 1 := by rw [hib, size_of, cut_len _ _ _ (by omega)]
    have hlz : (cut s.data.toList (x.1 + 2) x.2).length = x.2 - (x.1 + 2) := cut_len _ _ _ (by omega)
    have cL2 : Calls Tryd.prog 72 #[.string s] W2 fun e w' => e = .returned (.tuple #[.string ib, .string ⟨(cut s.data.toList (x.1 + 2) x.2).toArray⟩, .bool true]) ∧ Below W2.heap.size W2 w' := by rw [hib]; exact cL W2
    rw [← hid] at hX
    have hml := inl_len ib.data.toList ins
    rw [ba_len] at hml
    generalize cut s.data.toList (x.1 + 2) x.2 = ld at hX hlz cL2
    subst hX
    show Calls _ _ _ _ (fun e w' => e = .returned (.int .i64 ((x.2 + 1 - 0 : Nat) : Int)) ∧ Tell q (glue A ([⟨7, false, 0, ld⟩] ++ inlineS ib.data.toList ins ++ [⟨7, true, 0, []⟩])) w' ∧ Kl q W w')
    rw [glue_many A _ (by simp)]
    have HW : Hid (∀ w3, Below W2.heap.size W2 w3 → Calls Tryd.prog 73 #[.agg #[.int .i64 7, .bool false, .int .i64 0, .string ⟨ld.toArray⟩], .func (.func 58) #[] #[.pointer (some ⟨q.bT, 0, none⟩), .pointer (some ⟨q.bE, 0, none⟩), .pointer (some ⟨q.bD, 0, none⟩)], .func (.func 74) #[] #[.pointer (some ⟨w3.heap.size, 0, none⟩), .pointer (some ⟨W.heap.size, 0, none⟩), .pointer (some ⟨W.heap.size + 1, 0, none⟩)]] (w3.alloc (.cells #[.string ib] 9)) fun e w' => e = .returned (.tuple #[]) ∧ Tell q (A ++ ([⟨7, false, 0, ld⟩] ++ inlineS ib.data.toList ins ++ [⟨7, true, 0, []⟩])) w' ∧ Kl q W w' ∧ w'.cell? ⟨w3.heap.size, 0, none⟩ = some (.string ib)) := by
      intro w3 b3
      have s3 := b3.size
      obtain ⟨W4, hW4⟩ : ∃ W4, w3.alloc (.cells #[.string ib] 9) = W4 := ⟨_, rfl⟩
      have b4 : Below w3.heap.size w3 W4 := by rw [← hW4]; exact (Below.refl _ _).alloc (Nat.le_refl _) _
      have x4 : W4.heap[w3.heap.size]? = some (.cells #[.string ib] 9 (0, 0)) := by rw [← hW4]; exact heap_alloc_new _ _
      have bb : Below W.heap.size W W4 := b2.trans ((b3.mono (by omega)).trans (b4.mono (by omega)))
      have y1 : W4.heap[W.heap.size]? = some (.cells #[.bool ins] 4 (0, 0)) := (b4.block _ (by omega)).trans ((b3.block _ (by omega)).trans x1)
      have y2 : W4.heap[W.heap.size + 1]? = some (.cells #[tellV q] 111 (0, 0)) := (b4.block _ (by omega)).trans ((b3.block _ (by omega)).trans x2)
      have hT4 := hT.below bb
      have hM4 := hM.below hT bb
      rw [hW4]
      have hcl := lwithin_any q A (inlineS ib.data.toList ins) ⟨7, false, 0, ld⟩ (by show (7 : Int) ≠ 8; decide) 74 #[.pointer (some ⟨w3.heap.size, 0, none⟩), .pointer (some ⟨W.heap.size, 0, none⟩), .pointer (some ⟨W.heap.size + 1, 0, none⟩)] W4 (enters_of Tryd.func74 (by kernel_rfl) rfl) hT4 (by omega)
        (fun W' hT' hK' => linkin_any q m N hC ib ins (A ++ [⟨7, false, 0, ld⟩]) w3.heap.size W.heap.size (W.heap.size + 1) W' (by omega) (by omega) hT' (hM4.keep hT4 hK') (last_snoc _ _ (by show (7 : Int) ≠ 8; decide)) (by simp; omega)
          (fun e he => by
            rcases List.mem_append.1 he with he | he
            · have := hx e he; omega
            · simp at he; subst he; simp only; omega)
          (hT4.kept hK' x4 (by decide) (by decide) (hT4.off x4 (by decide) (by decide))) (hT4.kept hK' y1 (by decide) (by decide) (hT4.off y1 (by decide) (by decide))) (hT4.kept hK' y2 (by decide) (by decide) (hT4.off y2 (by decide) (by decide))))
      refine hcl.mono ?_
      rintro e w5 ⟨rfl, T5, K5⟩
      refine ⟨rfl, by simpa [evEnd] using T5, (Kl.below bb hb0).trans K5, cell_of_one (hT4.kept K5 x4 (by decide) (by decide) (hT4.off x4 (by decide) (by decide)))⟩
    have HC : Hid (∀ w3, Below W2.heap.size W2 w3 → (w3.alloc (.cells #[.string ib] 9)).cell? ⟨W.heap.size + 1, 0, none⟩ = some (.func (.func 58) #[] #[.pointer (some ⟨q.bT, 0, none⟩), .pointer (some ⟨q.bE, 0, none⟩), .pointer (some ⟨q.bD, 0, none⟩)])) := by
      intro w3 b3
      have s3 := b3.size
      exact cell_of_one (heap_al w3 _ (by omega) ((b3.block _ (by omega)).trans x2))
    rw [← hW2] at cL2 HW HC
    generalize A ++ ([⟨7, false, 0, ld⟩] ++ inlineS ib.data.toList ins ++ [⟨7, true, 0, []⟩]) = A2 at HW ⊢
    have hls := size_of ld
    clear hT hM hC hx hk cL hlen h0 b2 z2 x1 x2 hW2 hib hid hml hl
    go_enter Tryd.func65, Tryd.ntmps65
    go_wp2_with (first | (go_at_call 72; refine cL2.mono ?_; rintro e w3 ⟨rfl, b3⟩; have c3 := HC.out w3 b3) | (go_at_call 73; refine (HW.out w3 b3).mono ?_; rintro e w5 ⟨rfl, T5, K5, c5⟩))
    go_ret
    exact ⟨congrArg (fun z : Int => Ending.returned (Value.int IntKind.i64 z)) (by omega), T5, K5⟩

set_option maxRecDepth 100000 in
set_option maxHeartbeats 4000000 in
theorem emph_any (q : Tl) (m : Int) (N : Nat) (hC : PartC q m N) (A : List Ev) (s : ByteArray) (ins : Bool) (W : World) (hT : Tell q A W) (hM : ML q m W) (h0 : s.data.toList[0]? = some 42) (hN : s.size ≤ N) (hs : s.size ≤ 1073741824) (hlen : A.length + 2 * s.size ≤ 1099511627776) (hx : ∀ e ∈ A, e.text.length + s.size ≤ 1099511627776) (X : List Ev × Nat) (hX : oneS inlineS s.data.toList 0 ins = X) :
    Calls Tryd.prog 66 #[.string s, .bool ins, .func (.func 58) #[] #[.pointer (some ⟨q.bT, 0, none⟩), .pointer (some ⟨q.bE, 0, none⟩), .pointer (some ⟨q.bD, 0, none⟩)]] W fun e w' => e = .returned (.int .i64 X.2) ∧ Tell q (glue A X.1) w' ∧ Kl q W w' := by
  have hmf : ∀ (fn : Fn) (first cap : Array Value) (w : World), (Instr.makeFunc fn first cap).run Tryd.prog w = .ok (.func fn first cap) w := fun _ _ _ _ => rfl
  have hl := ba_len s
  have hb0 := hT.b0lt
  have h1 : 1 ≤ s.size := by
    have := (List.getElem?_eq_some_iff.1 h0).1
    omega
  unfold oneS at hX
  rw [if_neg (by rw [h0]; simp), if_neg (by rw [h0]; simp), if_neg (by rw [h0]; simp), if_neg (by rw [h0]; simp), if_pos h0] at hX
  obtain ⟨b2, z2, x1, x2⟩ := alloc2 W (.cells #[.string s] 9) (.cells #[.func (.func 58) #[] #[.pointer (some ⟨q.bT, 0, none⟩), .pointer (some ⟨q.bE, 0, none⟩), .pointer (some ⟨q.bD, 0, none⟩)]] 111)
  obtain ⟨W2, hW2⟩ : ∃ W2, (W.alloc (.cells #[.string s] 9)).alloc (.cells #[.func (.func 58) #[] #[.pointer (some ⟨q.bT, 0, none⟩), .pointer (some ⟨q.bE, 0, none⟩), .pointer (some ⟨q.bD, 0, none⟩)]] 111) = W2 := ⟨_, rfl⟩
  rw [hW2] at b2 z2 x1 x2
  cases ins with
  | true =>
    rw [if_pos rfl] at hX
    subst hX
    show Calls _ _ _ _ (fun e w' => e = .returned (.int .i64 0) ∧ Tell q (glue A []) w' ∧ Kl q W w')
    rw [glue_nil]
    have HF : Hid (Tell q A W2 ∧ Kl q W W2) := ⟨hT.below b2, Kl.below b2 hb0⟩
    rw [← hW2] at HF
    clear hT hM hC hx hlen h0 b2 z2 x1 x2 hW2
    go_enter Tryd.func66, Tryd.ntmps66
    go_wp2
    go_ret
    exact ⟨rfl, HF.out.1, HF.out.2⟩
  | false =>
    rw [if_neg (by simp)] at hX
    have cP := dpartner_any s W2 h1 hs
    have hcs := cell_of_one x1
    cases hk : partnerS s.data.toList 0 with
    | none =>
      rw [hk] at hX
      simp only at hX
      subst hX
      rw [partZ, hk] at cP
      simp only at cP
      show Calls _ _ _ _ (fun e w' => e = .returned (.int .i64 0) ∧ Tell q (glue A []) w' ∧ Kl q W w')
      rw [glue_nil]
      have HF : Hid (∀ w4, Below W2.heap.size W2 w4 → Tell q A w4 ∧ Kl q W w4) := by
        intro w4 b4
        have bb : Below W.heap.size W w4 := b2.trans (b4.mono (by omega))
        exact ⟨hT.below bb, Kl.below bb hb0⟩
      rw [← hW2] at cP HF hcs
      clear hT hM hC hx hk hlen h0 b2 z2 x1 x2 hW2
      go_enter Tryd.func66, Tryd.ntmps66
      go_wp2_with (go_at_call 75; refine cP.mono ?_; rintro e w' ⟨rfl, hw⟩; rw [hw]; clear hw)
      go_ret
      obtain ⟨TF, KF⟩ := HF.out _ ((Below.refl _ _).alloc (Nat.le_refl _) _)
      exact ⟨rfl, TF, KF⟩
    | some j =>
      obtain ⟨a1, a2⟩ := partner_facts s.data.toList 0 j hk
      rw [hl] at a2
      rw [hk] at hX
      simp only at hX
      rw [partZ, hk] at cP
      simp only at cP
      have hcz : (cut s.data.toList (0 + 1) j).length = j - 1 := cut_len _ _ _ (by omega)
      have hml := inl_len (cut s.data.toList (0 + 1) j) true
      subst hX
      show Calls _ _ _ _ (fun e w' => e = .returned (.int .i64 ((j + 1 - 0 : Nat) : Int)) ∧ Tell q (glue A ([⟨6, false, 0, []⟩] ++ inlineS (cut s.data.toList (0 + 1) j) true ++ [⟨6, true, 0, []⟩])) w' ∧ Kl q W w')
      rw [glue_many A _ (by simp)]
      obtain ⟨W4, hW4⟩ : ∃ W4, W2.alloc (.cells #[.int .i64 (j : Int)] 3) = W4 := ⟨_, rfl⟩
      have b4 : Below W2.heap.size W2 W4 := by rw [← hW4]; exact (Below.refl _ _).alloc (Nat.le_refl _) _
      have x4 : W4.heap[W.heap.size + 2]? = some (.cells #[.int .i64 (j : Int)] 3 (0, 0)) := by rw [← z2, ← hW4]; exact heap_alloc_new _ _
      have bb : Below W.heap.size W W4 := b2.trans (b4.mono (by omega))
      have y1 : W4.heap[W.heap.size]? = some (.cells #[.string s] 9 (0, 0)) := (b4.block _ (by omega)).trans x1
      have y2 : W4.heap[W.heap.size + 1]? = some (.cells #[tellV q] 111 (0, 0)) := (b4.block _ (by omega)).trans x2
      have hT4 := hT.below bb
      have hM4 := hM.below hT bb
      have hd4 := cell_of_one y2
      have hn4 := cell_of_one x4
      unfold tellV at hd4
      have hcl := lwithin_any q A (inlineS (cut s.data.toList (0 + 1) j) true) ⟨6, false, 0, []⟩ (by decide) 76 #[.pointer (some ⟨W.heap.size, 0, none⟩), .pointer (some ⟨W.heap.size + 2, 0, none⟩), .pointer (some ⟨W.heap.size + 1, 0, none⟩)] W4 (enters_of Tryd.func76 (by kernel_rfl) rfl) hT4 (by omega)
        (fun W' hT' hK' => emphin_any q m N hC s j (A ++ [⟨6, false, 0, []⟩]) W.heap.size (W.heap.size + 2) (W.heap.size + 1) W' (by omega) (by omega) hN hs hT' (hM4.keep hT4 hK') (last_snoc _ _ (by decide)) (by simp; omega)
          (fun e he => by
            rcases List.mem_append.1 he with he | he
            · exact hx e he
            · simp at he; subst he; simp; omega)
          (hT4.kept hK' y1 (by decide) (by decide) (hT4.off y1 (by decide) (by decide))) (hT4.kept hK' x4 (by decide) (by decide) (hT4.off x4 (by decide) (by decide))) (hT4.kept hK' y2 (by decide) (by decide) (hT4.off y2 (by decide) (by decide))))
      have HW : Hid (Calls Tryd.prog 73 #[.agg #[.int .i64 6, .bool false, .int .i64 0, .string ⟨#[]⟩], .func (.func 58) #[] #[.pointer (some ⟨q.bT, 0, none⟩), .pointer (some ⟨q.bE, 0, none⟩), .pointer (some ⟨q.bD, 0, none⟩)], .func (.func 76) #[] #[.pointer (some ⟨W.heap.size, 0, none⟩), .pointer (some ⟨W.heap.size + 2, 0, none⟩), .pointer (some ⟨W.heap.size + 1, 0, none⟩)]] W4 fun e w' => e = .returned (.tuple #[]) ∧ Tell q (A ++ ([⟨6, false, 0, []⟩] ++ inlineS (cut s.data.toList (0 + 1) j) true ++ [⟨6, true, 0, []⟩])) w' ∧ Kl q W w' ∧ w'.cell? ⟨W.heap.size + 2, 0, none⟩ = some (.int .i64 (j : Int))) := by
        refine hcl.mono ?_
        rintro e w5 ⟨rfl, T5, K5⟩
        refine ⟨rfl, by simpa [evEnd] using T5, (Kl.below bb hb0).trans K5, cell_of_one (hT4.kept K5 x4 (by decide) (by decide) (hT4.off x4 (by decide) (by decide)))⟩
      rw [← hW4, ← hW2] at HW hd4 hn4
      rw [← hW2] at cP hcs
      generalize A ++ ([⟨6, false, 0, []⟩] ++ inlineS (cut s.data.toList (0 + 1) j) true ++ [⟨6, true, 0, []⟩]) = A2 at HW ⊢
      have g0 : ((j : Int) == 0) = false := by rw [beq_eq_false_iff_ne]; omega
      clear hT hM hC hx hk hlen h0 b2 z2 x1 x2 hW2 hml hl hcz hcl hT4 hM4 y1 y2 x4 bb b4 hW4
      go_enter Tryd.func66, Tryd.ntmps66
      go_wp2_with (first | (go_at_call 75; refine cP.mono ?_; rintro e w' ⟨rfl, hw⟩; rw [hw]; clear hw) | (go_at_call 73; refine HW.out.mono ?_; rintro e w5 ⟨rfl, T5, K5, c5⟩))
      go_ret
      exact ⟨congrArg (fun z : Int => Ending.returned (Value.int IntKind.i64 z)) (by omega), T5, K5⟩

end Go.Proofs.YtljcljipppjnoaaDoor
