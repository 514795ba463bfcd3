import Derived.Test.YtljcljipppjnoaaGreatDoorJP14
import Derived.Deep.RegionHeld3
import Derived.Laws.EntriesVeiled
namespace Go.Proofs.YtljcljipppjnoaaGreatDoor
open Go.RowKit Go.Shelf

set_option maxRecDepth 100000 in
set_option maxHeartbeats 1000000 in
theorem dlines_any (s : ByteArray) (m : Int) (w : World) (hs : s.size ≤ 1073741824) (hm : w.cell? ⟨6, 0, none⟩ = some (.int .i64 m)) :
    Calls Tryz.prog 84 #[.string s] w fun e w' => ∃ v, e = .returned v ∧ LinesV v (linesL [] s.data.toList) w' ∧ (∀ g, v.ownBlock = some g → w.heap.size ≤ g) ∧ Below w.heap.size w w' := by
  have c := sh_split s m w (by omega) hm
  have hsp := Lib.splitB_data ⟨#[10]⟩ 0 (Lib.countB s ⟨#[10]⟩) s
  have hal := Lib.splitB_all ⟨#[10]⟩ (by decide) 0 _ s rfl
  have hsa : Lib.splitK (⟨#[10]⟩ : ByteArray).data.toList 0 (Lib.countB s ⟨#[10]⟩) s.data.toList = linesAll [] s.data.toList := split_all s.data.toList
  rw [hsa] at hsp
  have hla := lines_all [] s.data.toList
  have htt := tot_all [] s.data.toList
  have htl := tot_len (linesAll [] s.data.toList)
  have hsl : s.data.toList.length = s.size := by rw [Array.length_toList]; rfl
  simp only [List.length_nil, Nat.zero_add] at htt
  generalize Lib.splitB ⟨#[10]⟩ 0 (Lib.countB s ⟨#[10]⟩) s = ps at c hsp hal
  generalize linesAll [] s.data.toList = P at hsp hla htt htl
  have hpl : P.length = Lib.countB s ⟨#[10]⟩ + 1 := by rw [← hsp, List.length_map]; exact hal
  generalize Lib.countB s ⟨#[10]⟩ = n at c hal hpl
  have hps : ps.map Value.string = strCs P := by
    rw [← hsp, strCs, List.map_map]
    apply List.map_congr_left
    intro x _
    rfl
  rw [hps] at c
  have hn : n ≤ 1073741824 := by omega
  have hcells : ∀ (j : Nat) (l : List UInt8), P[j]? = some l → (w.alloc (.cells (strCs P).toArray 9)).cell? ⟨w.heap.size, 0 + j, none⟩ = some (.string ⟨l.toArray⟩) := by
    intro j l hj
    have := cell_of_row (w.alloc (.cells (strCs P).toArray 9)) w.heap.size (0 + j) _ _ _ (heap_alloc_new w _)
    rw [this]
    simp [strCs, hj]
  have hbe : Below w.heap.size w (w.alloc (.cells (strCs P).toArray 9)) := (Below.refl _ w).alloc (Nat.le_refl _) _
  obtain ⟨l, hl⟩ : ∃ l, P[n]? = some l := ⟨P[n], List.getElem?_eq_getElem (by omega)⟩
  have hlast : P.getLast? = some l := by rw [List.getLast?_eq_getElem?, hpl]; exact hl
  have hcl := hcells n l hl
  rw [Nat.zero_add] at hcl
  rw [hlast] at hla
  have HS : ∀ k, k ≤ n + 1 → Strs w.heap.size 0 (n + 1) (P.take k) (w.alloc (.cells (strCs P).toArray 9)) := by
    intro k hk
    refine ⟨by rw [List.length_take]; omega, by omega, by simp, fun j x hj => hcells j x ?_⟩
    rw [List.getElem?_take] at hj
    split at hj
    · exact hj
    · cases hj
  have hemp : (⟨l.toArray⟩ : ByteArray).toList = l := by rw [list_of]
  clear hcells hsp hal hsa hps hlast hl
  by_cases hle : l = []
  · subst hle
    rw [if_pos rfl, List.dropLast_eq_take] at hla
    have HF : Hid (LinesV (.slice (some ⟨w.heap.size, 0, none⟩) n (n + 1)) (linesL [] s.data.toList) (w.alloc (.cells (strCs P).toArray 9))) := by
      refine Or.inr ⟨w.heap.size, 0, n + 1, ?_, ?_⟩
      · rw [hla, List.length_take, hpl, Nat.add_sub_cancel]; congr 1; omega
      · rw [hla, hpl, Nat.add_sub_cancel]; exact HS n (by omega)
    clear HS hla htt htl hpl
    go_enter Tryz.func84, Tryz.ntmps84
    go_wp2_with (go_at_call 109; refine c.mono ?_; rintro e w1 ⟨rfl, hw⟩; rw [hw]; clear hw)
    go_ret
    exact ⟨_, rfl, HF.out, fun g hg => by cases hg; exact Nat.le_refl _, hbe⟩
  · rw [if_neg (by simpa using hle)] at hla
    have HF : Hid (LinesV (.slice (some ⟨w.heap.size, 0, none⟩) (n + 1) (n + 1)) (linesL [] s.data.toList) (w.alloc (.cells (strCs P).toArray 9))) := by
      refine Or.inr ⟨w.heap.size, 0, n + 1, ?_, ?_⟩
      · rw [hla, hpl]
      · rw [hla]
        have := HS (n + 1) (Nat.le_refl _)
        rw [List.take_of_length_le (by omega)] at this
        exact this
    have hle2 : l.isEmpty = false := by
      cases l with
      | nil => exact absurd rfl hle
      | cons a b => rfl
    clear HS hla htt htl hpl hle
    go_enter Tryz.func84, Tryz.ntmps84
    go_wp2_with (go_at_call 109; refine c.mono ?_; rintro e w1 ⟨rfl, hw⟩; rw [hw]; clear hw)
    go_ret
    exact ⟨_, rfl, HF.out, fun g hg => by cases hg; exact Nat.le_refl _, hbe⟩

set_option maxRecDepth 100000 in
set_option maxHeartbeats 2000000 in
/-- All blocks of a text are told. -/
theorem dEach_any (q : Tel) (hq : q.Ok) (t : List UInt8) (m : Int) (W : World) (hT : q.Told [] W) (ht : t.length ≤ 16777216) (hm : W.cell? ⟨6, 0, none⟩ = some (.int .i64 m)) :
    Calls Tryz.prog 60 #[.string ⟨t.toArray⟩, .func (.func q.kd) #[] #[.pointer (some ⟨q.bd, 0, none⟩)], .func (.func q.kl) #[] #[.pointer (some ⟨q.bl, 0, none⟩)]] W fun e w' => e = .returned (.tuple #[]) ∧ (∃ S n, SpOk 0 n S (blocksAt 3 (linesL [] t)) ∧ q.Told S w') ∧ Kt q none W.heap.size W w' := by
  have hml : 6 < W.heap.size := by
    rcases Nat.lt_or_ge 6 W.heap.size with h | h
    · exact h
    · simp [World.cell?, Array.getElem?_eq_none h] at hm
  obtain ⟨W1, hW1⟩ : ∃ W1, W.alloc (.cells #[.func (.func q.kd) #[] #[.pointer (some ⟨q.bd, 0, none⟩)], .func (.func q.kl) #[] #[.pointer (some ⟨q.bl, 0, none⟩)]] 159) = W1 := ⟨_, rfl⟩
  have x1 : W1.heap[W.heap.size]? = some (.cells #[.func (.func q.kd) #[] #[.pointer (some ⟨q.bd, 0, none⟩)], .func (.func q.kl) #[] #[.pointer (some ⟨q.bl, 0, none⟩)]] 159 (0, 0)) := by rw [← hW1]; exact heap_alloc_new W _
  have hb1 : Below W.heap.size W W1 := by rw [← hW1]; exact (Below.refl _ W).alloc (Nat.le_refl _) _
  have z1 : W1.heap.size = W.heap.size + 1 := by rw [← hW1]; simp
  have hB0 : Below W1.heap.size W1 W1.drew := (Below.refl _ W1).drew
  have c1 := dlines_any ⟨t.toArray⟩ m W1.drew (by rw [size_of]; omega) ((hb1.cell (p := ⟨6, 0, none⟩) hml).trans hm)
  have e1 : (⟨t.toArray⟩ : ByteArray).data.toList = t := rfl
  rw [e1] at c1
  have c2 : Calls Tryz.prog 84 #[.string ⟨t.toArray⟩] W1.drew fun e w' => ∃ p ln cp, e = .returned (.slice p ln cp) ∧ LinesV (.slice p ln cp) (linesL [] t) w' ∧ (∀ g, (Value.slice p ln cp).ownBlock = some g → W1.drew.heap.size ≤ g) ∧ Below W1.drew.heap.size W1.drew w' := by
    refine c1.mono ?_
    rintro e w' ⟨v, rfl, hL, hg, hb⟩
    rcases hL with ⟨h1, rfl⟩ | ⟨g, o, cap, rfl, hS⟩
    · exact ⟨_, _, _, rfl, Or.inl ⟨h1, rfl⟩, hg, hb⟩
    · exact ⟨_, _, _, rfl, Or.inr ⟨g, o, cap, rfl, hS⟩, hg, hb⟩
  have ht2 := tot_lines t
  have hll := tot_len (linesL [] t)
  have HC : Hid (∀ w1 v, LinesV v (linesL [] t) w1 → (∀ g, v.ownBlock = some g → W1.heap.size ≤ g) → Below W1.heap.size W1 w1 → Calls Tryz.prog 83 #[.agg #[.func (.func q.kd) #[] #[.pointer (some ⟨q.bd, 0, none⟩)], .func (.func q.kl) #[] #[.pointer (some ⟨q.bl, 0, none⟩)]], .agg #[v, .int .i64 0, .int .i64 0]] w1 fun e w' => e = .returned (.tuple #[]) ∧ (∃ S n, SpOk 0 n S (blocksAt 3 (linesL [] t)) ∧ q.Told S w') ∧ Kt q none W.heap.size W w' ∧ w'.heap[W.heap.size]? = w1.heap[W.heap.size]?) := by
    intro w1 v hL hg hb
    have hbW := hb1.trans (hb.mono (by omega))
    have hTw := hq.below hT hbW
    refine (each_doc q hq [] v (linesL [] t) 0 w1 hTw hL (fun g hv => hq.new hT hbW (by have := hg g hv; omega)) (by omega) (by omega) (by simp; omega)).mono ?_
    rintro e w' ⟨rfl, ⟨S, s1, s2⟩, K⟩
    exact ⟨rfl, ⟨S, _, s1, s2⟩, (hq.kt hT hbW).trans (K.mono hbW.size), K.block _ (by have := hb.size; omega) (by simp) (hq.new hT hbW (Nat.le_refl _))⟩
  have HK : Hid (∀ w' : World, w'.heap[W.heap.size]? = W1.heap[W.heap.size]? → w'.cell? ⟨W.heap.size, 0, none⟩ = some (.func (.func q.kd) #[] #[.pointer (some ⟨q.bd, 0, none⟩)]) ∧ w'.cell? ⟨W.heap.size, 1, none⟩ = some (.func (.func q.kl) #[] #[.pointer (some ⟨q.bl, 0, none⟩)])) := fun w' h => cells2 (h.trans x1)
  obtain ⟨k1, k2⟩ := cells2 x1
  generalize blocksAt 3 (linesL [] t) = bs at HC ⊢
  have z3 : W.heap.size < W1.heap.size := by omega
  clear hT e1 ht2 hll hq x1 hb1 z1 c1
  go_enter Tryz.func60, Tryz.ntmps60
  go_wp2
  go_region_held3 (fun w' => w'.cell? ⟨W.heap.size, 0, none⟩ = some (.func (.func q.kd) #[] #[.pointer (some ⟨q.bd, 0, none⟩)]) ∧ w'.cell? ⟨W.heap.size, 1, none⟩ = some (.func (.func q.kl) #[] #[.pointer (some ⟨q.bl, 0, none⟩)])) (first | exact HK.out _ (E2.trans (B1.block _ z3)) | exact HK.out _ (B1.block _ z3) | exact HK.out _ (hB0.block _ z3)) (first | (go_at_call 84; refine c2.mono ?_; rintro e w1 ⟨p, ln, cp, rfl, hL, hg, b1⟩; have B1 : Below W1.heap.size W1 w1 := hB0.trans b1) | (go_at_call 83; refine (HC.out w1 _ hL hg B1).mono ?_; rintro e w2 ⟨rfl, T2, K2, E2⟩))
  go_wp2
  go_end0
  exact ⟨rfl, T2, K2⟩

end Go.Proofs.YtljcljipppjnoaaGreatDoor

namespace Go.Proofs.YtljcljipppjnoaaGreatDoor
open Go.RowKit Go.Shelf

/-! What package pulling gathers: the steps of a text. -/
def stpCells : Stp → List Value
  | .ev e => [.int .i64 e.kind, .bool e.fin, .int .i64 e.level, .string ⟨e.text.toArray⟩, .int .i64 0, .int .i64 0]
  | .leaf t x y => [.int .i64 8, .bool false, .int .i64 0, .string ⟨t.toArray⟩, .int .i64 x, .int .i64 y]
def stpCs (S : List Stp) : List Value := S.flatMap stpCells
theorem stp_len (s : Stp) : (stpCells s).length = 6 := by cases s <;> rfl
theorem stpCs_app (a b : List Stp) : stpCs (a ++ b) = stpCs a ++ stpCs b := by simp [stpCs]
theorem stpCs_one (s : Stp) : stpCs [s] = stpCells s := by simp [stpCs]
theorem stpCs_len (S : List Stp) : (stpCs S).length = S.length * 6 := by
  induction S with
  | nil => rfl
  | cons s S ih =>
    show (stpCells s ++ stpCs S).length = _
    rw [List.length_append, stp_len, ih, List.length_cons]
    omega
theorem stp_one (s : Stp) : ∀ u ∈ stpCells s, u.oneCell' = true := by
  intro u hu
  cases s <;> (simp [stpCells] at hu; rcases hu with rfl | rfl | rfl | rfl | rfl | rfl <;> rfl)
theorem stp_cell (w : World) (s : Stp) {n : Nat} (hn : n = w.heap.size) : ∀ j u, (stpCells s)[j]? = some u → (w.alloc (.cells (stpCells s).toArray 166)).cell? ((⟨n, 0, none⟩ : Addr).add j) = some u := by
  subst hn
  intro j u hj
  rw [Addr.add_lit, Nat.zero_add]
  have h := heap_alloc_new w (.cells (stpCells s).toArray 166)
  simp only [World.cell?, h]
  simpa using hj
theorem Tryz.infoStep : (Tryz.prog.info? 166).map (fun i => (i.zero, i.size, i.bytes)) = some (some (.agg #[.int .i64 0, .bool false, .int .i64 0, .string ⟨#[]⟩, .int .i64 0, .int .i64 0]), 6, 56) := by kernel_rfl

/-- The steps that are gathered: the variable, the row that it holds, the map. -/
def PTold (be bm : Nat) (S : List Stp) (W : World) : Prop :=
  (∃ v, W.heap[be]? = some (.cells #[v, .int .i64 0, .map (some bm)] 130 (0, 0)) ∧ W.ownsRow (be + 1) 166 6 v S.length (stpCs S)) ∧ W.heap[bm]? = some (.map #[] 0)
def POwn (be bm : Nat) (W : World) (b : Nat) : Prop := b = be ∨ b = bm ∨ ∃ v c d, W.heap[be]? = some (.cells #[v, c, d] 130 (0, 0)) ∧ v.ownBlock = some b

theorem three_inj {v u c d c' d' : Value} {t : TypeId} (h : some (Obj.cells #[v, c, d] t (0, 0)) = some (Obj.cells #[u, c', d'] t (0, 0))) : v = u := by
  injection h with h
  injection h with h _
  have := congrArg (fun a => a[0]?) h
  simpa using this

/-- One who is told, for package pulling. -/
def telP (be bm : Nat) : Tel where
  kd := 110
  kl := 111
  bd := be
  bl := be
  Own := POwn be bm
  Told := PTold be bm

set_option maxRecDepth 100000 in
set_option maxHeartbeats 2000000 in
/-- Gathering one event. -/
theorem pdo_any (be bm : Nat) (acc : List Stp) (ev : Ev) (W : World) (hT : PTold be bm acc W) (hlen : acc.length ≤ 1099511627776) :
    Calls Tryz.prog 110 #[evV ev, .pointer (some ⟨be, 0, none⟩)] W fun e w' => e = .returned (.tuple #[]) ∧ PTold be bm (acc ++ [.ev ev]) w' ∧ Kt (telP be bm) none W.heap.size W w' := by
  obtain ⟨j0, hj, hy0, hy1, hy2⟩ := info_parts Tryz.infoStep
  obtain ⟨⟨v, hv, hown⟩, hm⟩ := hT
  have hlt := lt_of_block hv
  obtain ⟨hcell, _, _⟩ := cells3 hv
  have hfree := row_free (i := 0) hv
  have hne : some be ≠ v.ownBlock := by
    intro h
    have := (hown.lt be h.symm).1
    omega
  have hmlt : bm < W.heap.size := by
    rcases Nat.lt_or_ge bm W.heap.size with h | h
    · exact h
    · rw [Array.getElem?_eq_none h] at hm; cases hm
  have hnm : some bm ≠ v.ownBlock := by
    intro h
    rcases hown.2 with ⟨h0, _⟩ | ⟨g, cap, cur, hvv, _, hh, _⟩
    · rw [h0] at h; cases h
    · rw [hvv] at h
      injection h with h
      have h2 : bm = g := h
      rw [← h2, hm] at hh
      cases hh
  have hmb : bm ≠ be := fun h => by rw [h, hv] at hm; cases hm
  unfold evV
  go_enter Tryz.func110, Tryz.ntmps110
  go_wp2_with (at_builtin; refine wpList_append_at _ rfl _ _ 127 rfl (be + 1) 166 j0 (.agg #[.int .i64 0, .bool false, .int .i64 0, .string ⟨#[]⟩, .int .i64 0, .int .i64 0]) 6 56 Tryz.underlying127 hj hy0 hy1 hy2 rfl (by decide) _ _ _ rfl ((hown.alloc _).alloc _) ⟨W.heap.size + 1, 0, none⟩ 1 1 (by decide) (stpCells (.ev ev)) rfl rfl ?c1 (stp_one _) ?c3 ?c4 ?c5 ?_)
  case c1 => exact stp_cell _ (.ev ev) (by simp)
  case c3 => unfold maxLen; omega
  case c4 => omega
  case c5 => simp; omega
  intro v' w1 own' grow' at'
  rcases Joins.ownsRow_forms own' with ⟨rfl, h0⟩ | ⟨g', cap', rfl⟩
  · omega
  have hv1 : w1.heap[be]? = some (.cells #[v, .int .i64 0, .map (some bm)] 130 (0, 0)) := by
    rw [grow'.block be (by simp; omega) hne, Below.heap_alloc _ _ _ (by simp; omega), Below.heap_alloc _ _ _ hlt]
    exact hv
  have hm1 : w1.heap[bm]? = some (.map #[] 0) := by
    rw [grow'.block bm (by simp; omega) hnm, Below.heap_alloc _ _ _ (by simp; omega), Below.heap_alloc _ _ _ hmlt]
    exact hm
  obtain ⟨hc1, _, _⟩ := cells3 hv1
  have hf1 := row_free (i := 0) hv1
  have HV : Hid _ := hv1
  have HM : Hid _ := hm1
  clear hm1 hm
  go_wp2
  go_end0
  have hs1 : ∀ x, (w1.setCell ⟨be, 0, none⟩ x).heap[be]? = some (.cells #[x, .int .i64 0, .map (some bm)] 130 (0, 0)) := fun x => set_row HV.out
  refine ⟨rfl, ⟨⟨_, hs1 _, ?_⟩, ?_⟩, ?_⟩
  · rw [List.length_append, stpCs_app, stpCs_one]
    exact ownsRow_setCell_below own' (Nat.lt_succ_self _) _
  · rw [Below.heap_setCell _ _ _ _ hmb]
    exact HM.out
  · have g0 := grow'.size
    simp at g0
    refine ⟨grow'.os, grow'.tape, grow'.output, by simp; omega, ?_, ?_⟩
    · intro b hb _ ho
      have h0 : b ≠ be := fun h => ho (Or.inl h)
      rw [Below.heap_setCell _ _ _ _ h0, grow'.block b (by simp; omega) (fun h => ho (Or.inr (Or.inr ⟨v, _, _, hv, h.symm⟩))), Below.heap_alloc _ _ _ (by simp; omega), Below.heap_alloc _ _ _ hb]
    · intro b hb ho
      rcases ho with h | h | ⟨u, c, d, hu, hub⟩
      · exact Or.inl h
      · exact Or.inr (Or.inl h)
      · rw [hs1] at hu
        rw [← three_inj hu] at hub
        rcases at' with h | h
        · exact Or.inr (Or.inr ⟨v, _, _, hv, by rw [← h]; exact hub⟩)
        · rw [h] at hub
          injection hub with hub
          omega

set_option maxRecDepth 100000 in
set_option maxHeartbeats 2000000 in
/-- Gathering a leaf. -/
theorem plf_any (be bm : Nat) (acc : List Stp) (t : List UInt8) (x y : Nat) (W : World) (hT : PTold be bm acc W) (hlen : acc.length ≤ 1099511627776) :
    Calls Tryz.prog 111 #[.string ⟨t.toArray⟩, .agg #[.int .i64 x, .int .i64 y], .pointer (some ⟨be, 0, none⟩)] W fun e w' => e = .returned (.tuple #[]) ∧ PTold be bm (acc ++ [.leaf t x y]) w' ∧ Kt (telP be bm) none W.heap.size W w' := by
  obtain ⟨j0, hj, hy0, hy1, hy2⟩ := info_parts Tryz.infoStep
  obtain ⟨⟨v, hv, hown⟩, hm⟩ := hT
  have hlt := lt_of_block hv
  obtain ⟨hcell, _, _⟩ := cells3 hv
  have hfree := row_free (i := 0) hv
  have hne : some be ≠ v.ownBlock := by
    intro h
    have := (hown.lt be h.symm).1
    omega
  have hmlt : bm < W.heap.size := by
    rcases Nat.lt_or_ge bm W.heap.size with h | h
    · exact h
    · rw [Array.getElem?_eq_none h] at hm; cases hm
  have hnm : some bm ≠ v.ownBlock := by
    intro h
    rcases hown.2 with ⟨h0, _⟩ | ⟨g, cap, cur, hvv, _, hh, _⟩
    · rw [h0] at h; cases h
    · rw [hvv] at h
      injection h with h
      have h2 : bm = g := h
      rw [← h2, hm] at hh
      cases hh
  have hmb : bm ≠ be := fun h => by rw [h, hv] at hm; cases hm
  skip
  go_enter Tryz.func111, Tryz.ntmps111
  go_wp2_with (at_builtin; refine wpList_append_at _ rfl _ _ 127 rfl (be + 1) 166 j0 (.agg #[.int .i64 0, .bool false, .int .i64 0, .string ⟨#[]⟩, .int .i64 0, .int .i64 0]) 6 56 Tryz.underlying127 hj hy0 hy1 hy2 rfl (by decide) _ _ _ rfl ((hown.alloc _).alloc _) ⟨W.heap.size + 1, 0, none⟩ 1 1 (by decide) (stpCells (.leaf t x y)) rfl rfl ?c1 (stp_one _) ?c3 ?c4 ?c5 ?_)
  case c1 => exact stp_cell _ (.leaf t x y) (by simp)
  case c3 => unfold maxLen; omega
  case c4 => omega
  case c5 => simp; omega
  intro v' w1 own' grow' at'
  rcases Joins.ownsRow_forms own' with ⟨rfl, h0⟩ | ⟨g', cap', rfl⟩
  · omega
  have hv1 : w1.heap[be]? = some (.cells #[v, .int .i64 0, .map (some bm)] 130 (0, 0)) := by
    rw [grow'.block be (by simp; omega) hne, Below.heap_alloc _ _ _ (by simp; omega), Below.heap_alloc _ _ _ hlt]
    exact hv
  have hm1 : w1.heap[bm]? = some (.map #[] 0) := by
    rw [grow'.block bm (by simp; omega) hnm, Below.heap_alloc _ _ _ (by simp; omega), Below.heap_alloc _ _ _ hmlt]
    exact hm
  obtain ⟨hc1, _, _⟩ := cells3 hv1
  have hf1 := row_free (i := 0) hv1
  have HV : Hid _ := hv1
  have HM : Hid _ := hm1
  clear hm1 hm
  go_wp2
  go_end0
  have hs1 : ∀ x, (w1.setCell ⟨be, 0, none⟩ x).heap[be]? = some (.cells #[x, .int .i64 0, .map (some bm)] 130 (0, 0)) := fun x => set_row HV.out
  refine ⟨rfl, ⟨⟨_, hs1 _, ?_⟩, ?_⟩, ?_⟩
  · rw [List.length_append, stpCs_app, stpCs_one]
    exact ownsRow_setCell_below own' (Nat.lt_succ_self _) _
  · rw [Below.heap_setCell _ _ _ _ hmb]
    exact HM.out
  · have g0 := grow'.size
    simp at g0
    refine ⟨grow'.os, grow'.tape, grow'.output, by simp; omega, ?_, ?_⟩
    · intro b hb _ ho
      have h0 : b ≠ be := fun h => ho (Or.inl h)
      rw [Below.heap_setCell _ _ _ _ h0, grow'.block b (by simp; omega) (fun h => ho (Or.inr (Or.inr ⟨v, _, _, hv, h.symm⟩))), Below.heap_alloc _ _ _ (by simp; omega), Below.heap_alloc _ _ _ hb]
    · intro b hb ho
      rcases ho with h | h | ⟨u, c, d, hu, hub⟩
      · exact Or.inl h
      · exact Or.inr (Or.inl h)
      · rw [hs1] at hu
        rw [← three_inj hu] at hub
        rcases at' with h | h
        · exact Or.inr (Or.inr ⟨v, _, _, hv, by rw [← h]; exact hub⟩)
        · rw [h] at hub
          injection hub with hub
          omega

theorem telP_ok (be bm : Nat) : (telP be bm).Ok where
  ed := enters_of Tryz.func110 (by kernel_rfl) rfl
  el := enters_of Tryz.func111 (by kernel_rfl) rfl
  lt := fun acc W hT b hb => by
    obtain ⟨⟨v, hv, hown⟩, hm⟩ := hT
    rcases hb with rfl | rfl | ⟨u, c, d, hu, hub⟩
    · exact lt_of_block hv
    · rcases Nat.lt_or_ge b W.heap.size with h | h
      · exact h
      · rw [Array.getElem?_eq_none h] at hm; cases hm
    · rw [hv] at hu
      rw [← three_inj hu] at hub
      exact (hown.lt b hub).2
  keep := fun acc W w' hT hk => by
    obtain ⟨⟨v, hv, hown⟩, hm⟩ := hT
    have h0 : w'.heap[be]? = W.heap[be]? := hk be (Or.inl rfl)
    refine ⟨⟨⟨v, h0.trans hv, hown.1, ?_⟩, (hk bm (Or.inr (Or.inl rfl))).trans hm⟩, fun b ho => ?_⟩
    · rcases hown.2 with h | ⟨g, cap, cur, hvv, hg, hh, r⟩
      · exact Or.inl h
      · exact Or.inr ⟨g, cap, cur, hvv, hg, (hk g (Or.inr (Or.inr ⟨v, _, _, hv, by rw [hvv]; rfl⟩))).trans hh, r⟩
    · rcases ho with h | h | ⟨u, c, d, hu, hub⟩
      · exact Or.inl h
      · exact Or.inr (Or.inl h)
      · exact Or.inr (Or.inr ⟨u, c, d, by rw [← h0]; exact hu, hub⟩)
  typ := fun acc W hT b hb => by
    obtain ⟨⟨v, hv, hown⟩, hm⟩ := hT
    rcases hb with rfl | rfl | ⟨u, c, d, hu, hub⟩
    · exact ⟨_, hv, fun c T fz h => by injection h with _ h _; subst h; exact ⟨by decide, by decide⟩⟩
    · exact ⟨_, hm, fun c T fz h => by cases h⟩
    · rw [hv] at hu
      rw [← three_inj hu] at hub
      rcases hown.2 with ⟨h0, _⟩ | ⟨g, cap, cur, hvv, _, hh, _⟩
      · rw [h0] at hub; cases hub
      · rw [hvv] at hub
        injection hub with hub
        have hub : g = b := hub
        subst hub
        exact ⟨_, hh, fun c T fz h => by injection h with _ h _; subst h; exact ⟨by decide, by decide⟩⟩
  doc := fun acc ev W hT hlen => pdo_any be bm acc ev W hT hlen
  lfc := fun acc t x y W hT _ hlen => plf_any be bm acc t x y W hT hlen

end Go.Proofs.YtljcljipppjnoaaGreatDoor
