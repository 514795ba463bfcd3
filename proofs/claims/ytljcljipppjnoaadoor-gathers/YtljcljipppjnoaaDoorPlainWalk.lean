import Derived.Test.YtljcljipppjnoaaDoorGatherWalk
namespace Go.Proofs.YtljcljipppjnoaaDoor
open Go.RowKit

theorem told_put {w : World} {n : Nat} {a0 a1 : Value} {t : TypeId} (x y : Value) (h : w.heap[n]? = some (.cells #[a0, a1] t (0, 0))) :
    (w.setCell ⟨n, 0, none⟩ x).cell? ⟨n, 0, none⟩ = some x ∧ ((w.setCell ⟨n, 0, none⟩ x).setCell ⟨n, 1, none⟩ y).cell? ⟨n, 1, none⟩ = some y := by
  have h2 := Joins.block_setCell (i := 0) h x
  have h3 := Joins.block_setCell (i := 1) h2 y
  exact ⟨by rw [Lib.cell_of_heap h2]; rfl, by rw [Lib.cell_of_heap h3]; rfl⟩

set_option maxHeartbeats 1000000 in
theorem plain_none (v : Value) (tx : ByteArray) (cv : Value) (fa : Int) (wt : Bool) (hv : v = .agg #[.string tx, cv, .int .i64 fa, .bool wt]) (hcv : ∃ ca n cap, cv = .slice ca n cap) (w : World) :
    Calls Tryd.prog 8 #[v, .bool true] w fun e w' => e = .returned (.tuple #[.string ⟨#[]⟩, .agg #[.int .i64 0, .int .i64 0], .int .i64 0]) ∧ Below w.heap.size w w' := by
  obtain ⟨ca, n0, cp, rfl⟩ := hcv
  subst hv
  have h1 := fun W => pgather_nil W
  have h2 := fun W => of_nil W
  go_enter Tryd.func8, Tryd.ntmps8
  go_wp2_with (first | (go_at_call 14; refine (h1 _).mono ?_))
  rintro e w1 ⟨rfl, b1⟩
  have z1 := b1.size
  simp at z1
  go_wp2_with (first | (go_at_call 15; refine (h2 _).mono ?_))
  rintro e w2 ⟨rfl, b2⟩
  have z2 := b2.size
  have p2 : Below (w.heap.size + 2) _ w2 := (b1.mono (by simp)).trans (b2.mono (by omega))
  have t0 := p2.block (w.heap.size + 1) (by omega)
  rw [heap_new _ _ (by simp)] at t0
  have c0 : w2.cell? ⟨w.heap.size + 1, 0, none⟩ = some (.int .i64 0) := by rw [Lib.cell_of_heap t0]; rfl
  have c1 : w2.cell? ⟨w.heap.size + 1, 1, none⟩ = some (.int .i64 0) := by rw [Lib.cell_of_heap t0]; rfl
  have f0 := Lib.frozen_of_heap t0 0
  have f1 := Lib.frozen_of_heap t0 1
  obtain ⟨e0, e1⟩ := told_put (.int .i64 0) (.int .i64 0) t0
  have b0 : Below w.heap.size w w2 := (((Below.refl _ w).alloc (Nat.le_refl _) _).alloc (by simp) _).trans (p2.mono (by omega))
  clear h1 h2 b1 b2 p2 t0
  go_wp2
  exact bodyPost_ret (v := .tuple #[.string ⟨#[]⟩, .agg #[.int .i64 0, .int .i64 0], .int .i64 0]) (by simp [results, Tryd.results8, go_sem, e0, e1]) rfl ⟨rfl, (b0.setCell (p := ⟨w.heap.size + 1, 0, none⟩) (by show _ ≤ w.heap.size + 1; omega) _).setCell (p := ⟨w.heap.size + 1, 1, none⟩) (by show _ ≤ w.heap.size + 1; omega) _⟩

/-- The two blocks that a call of plain.Gather lays first. -/
def gathering (v : Array Value) (w : World) : World := (w.alloc (.cells v 25)).alloc (.cells #[.int .i64 0, .int .i64 0] 28)

set_option maxHeartbeats 2000000 in
theorem plain_some (f : Nat) (tx : ByteArray) (cv : Value) (cs : List Int) (fa : Int) (wt : Bool) (o : Out) (n : Nat) (aL aI : Addr) (w : World) (h : NumsAt cv cs w) (hl : cs.length ≤ 1048576) (hts : tx.size ≤ 4611686018427387904) (hf : f ≤ 1099511627776)
    (hg : gat fa wt f tx cs 0 ByteArray.empty 0 = some (o, n)) (G : Glob w aL aI) :
    Calls Tryd.prog 8 #[.agg #[.string tx, cv, .int .i64 fa, .bool wt], .bool false] w fun e w' => e = .returned (.tuple #[.string (outText o), .agg #[.int .i64 (outErr o), .int .i64 (outN o)], .int .i64 n]) ∧ Below w.heap.size w w' := by
  obtain ⟨ca, n0, cp, hcv⟩ : ∃ ca n0 cp, cv = .slice ca n0 cp := by
    rcases h with ⟨_, ca, cap, rfl⟩ | ⟨g, o, cap, rfl, _⟩
    · exact ⟨_, _, _, rfl⟩
    · exact ⟨_, _, _, rfl⟩
  subst hcv
  have kw : Below w.heap.size w (gathering #[.string tx, .slice ca n0 cp, .int .i64 fa, .bool wt] w) := ((Below.refl _ w).alloc (Nat.le_refl _) _).alloc (by simp) _
  have hw2 : (gathering #[.string tx, .slice ca n0 cp, .int .i64 fa, .bool wt] w).heap.size = w.heap.size + 2 := by simp [gathering]
  have hn2 : NumsAt (.slice ca n0 cp) cs (gathering #[.string tx, .slice ca n0 cp, .int .i64 fa, .bool wt] w) := by
    rcases h with h | ⟨g, o, cap, h1, h2, h3⟩
    · exact Or.inl h
    · refine Or.inr ⟨g, o, cap, h1, by omega, fun j c hj => ?_⟩
      rw [← h3 j c hj]
      exact World.cell?_of_block (kw.block g h2)
  have hsrc := source_any tx (.slice ca n0 cp) cs fa wt _ hn2 hl
  have hGl := lt_cell G.long
  have hGi := lt_cell G.idle
  have hGt := lt_cell G.type
  have hpg := fun (b : Nat) (cv' : Value) (W : World) (h1 : SrcAt b tx cv' fa wt 0 false W) (h2 : CutsOK b cv' cs W) (hb : w.heap.size + 2 ≤ b) (hk : Below (w.heap.size + 2) (gathering #[.string tx, .slice ca n0 cp, .int .i64 fa, .bool wt] w) W) =>
    pgather_any b f tx cv' cs fa wt o n aL aI W h1 h2 hts hf hg ⟨by omega, by omega, by omega⟩ (w.heap.size + 2) hb (by have := hk.size; omega) _ (G.below kw) hw2 hk
  generalize outText o = ot at hpg ⊢
  generalize outErr o = oe at hpg ⊢
  generalize outN o = on at hpg ⊢
  have HP : Hid _ := hpg
  have KW : Hid (Below w.heap.size w (gathering #[.string tx, .slice ca n0 cp, .int .i64 fa, .bool wt] w)) := kw
  clear hpg G hg hts hf hn2 h hl hGl hGi hGt kw hw2
  unfold gathering at hsrc
  go_enter Tryd.func8, Tryd.ntmps8
  go_wp2_with (go_at_call 16; refine hsrc.mono ?_)
  rintro e w1 ⟨b, cv', rfl, hb, s1, c1, k1⟩
  simp only [World.size_alloc] at hb
  have hc1 := HP.out b cv' w1 s1 c1 hb (k1.mono (by simp))
  go_wp2_with (go_at_call 14; refine hc1.mono ?_)
  rintro e w2 ⟨⟨v, rfl, tell⟩, ⟨tx', cv2, ov', s2⟩, k2⟩
  have z1 := k1.size
  have z2 := k2.size
  simp only [World.size_alloc] at z1
  have t0 := (k2.block (w.heap.size + 1) (by omega)).trans ((k1.block (w.heap.size + 1) (by simp)).trans (heap_new _ _ (by simp)))
  obtain ⟨e0, e1⟩ := told_put (.int .i64 oe) (.int .i64 on) t0
  have lb := s2.lt
  have hc2 : Calls Tryd.prog 15 #[v] w2.drew fun e w' => e = .returned (.agg #[.int .i64 oe, .int .i64 on]) ∧ w'.cell? ⟨b, 4, none⟩ = some (.int .i64 n) ∧
      w'.cell? ⟨w.heap.size + 1, 0, none⟩ = some (.int .i64 0) ∧ w'.cell? ⟨w.heap.size + 1, 1, none⟩ = some (.int .i64 0) ∧ w'.frozen? ⟨w.heap.size + 1, 0, none⟩ = false ∧ w'.frozen? ⟨w.heap.size + 1, 1, none⟩ = false ∧
      Hid (w'.heap[w.heap.size + 1]? = some (.cells #[.int .i64 0, .int .i64 0] 28 (0, 0)) ∧ Below w.heap.size w w') := by
    refine (tell w2.drew ((Below.refl _ _).drew)).mono ?_
    rintro e w3 ⟨rfl, b3⟩
    have t3 := (b3.block (w.heap.size + 1) (by show _ < w2.heap.size; omega)).trans t0
    have s3 := SrcAt.below (w := w2.drew) (w' := w3) (show SrcAt b tx' cv2 fa wt n ov' w2.drew from s2) b3 lb
    refine ⟨rfl, s3.cells.2.2.2.2.1, by rw [Lib.cell_of_heap t3]; rfl, by rw [Lib.cell_of_heap t3]; rfl, Lib.frozen_of_heap t3 0, Lib.frozen_of_heap t3 1, t3, ?_⟩
    exact ((KW.out.trans (k1.mono (by simp; omega))).trans (k2.mono (by omega))).trans (Below.mono (B := w2.heap.size) ((Below.refl _ w2).drew.trans b3) (by omega))
  have s2c : w2.cell? ⟨b, 4, none⟩ = some (.int .i64 n) := s2.cells.2.2.2.2.1
  have hbn : ¬ b = w.heap.size + 1 := by omega
  have hbn' : ¬ w.heap.size + 1 = b := by omega
  clear tell hc1 HP hsrc s1 c1 s2 k1 k2 t0 e0 e1 z1 z2
  go_wp2
  go_region_held3 (fun w' => w'.cell? ⟨b, 4, none⟩ = some (.int .i64 n)) (first | go_keep | assumption | (simp [hbn, hbn']; assumption)) ((go_at_call 15; refine hc2.mono ?_; rintro e w3 ⟨rfl, d0, d1, d2, z0, z1, dd⟩))
  go_wp2
  obtain ⟨e0, e1⟩ := told_put (.int .i64 oe) (.int .i64 on) dd.out.1
  exact bodyPost_ret (v := .tuple #[.string ot, .agg #[.int .i64 oe, .int .i64 on], .int .i64 n]) (by simp [results, Tryd.results8, go_sem, e0, e1]) rfl ⟨rfl, (dd.out.2.setCell (p := ⟨w.heap.size + 1, 0, none⟩) (by show _ ≤ w.heap.size + 1; omega) _).setCell (p := ⟨w.heap.size + 1, 1, none⟩) (by show _ ≤ w.heap.size + 1; omega) _⟩

end Go.Proofs.YtljcljipppjnoaaDoor
