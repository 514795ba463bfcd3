import Derived.Test.YtljcljipppjnoaaGreatDoorPlainEv
import Derived.OneCell
import Derived.Shelf.Abstract
namespace Go.Proofs.YtljcljipppjnoaaGreatDoor
open Go.RowKit

/-- Appending to an owned row, and where the row lies then. -/
theorem run_append_at {P : Program} (w : World) (base : Nat) (t ty e : TypeId) (i : TypeInfo) (z : Value) (size bytes : Nat) (ht : P.underlying t = some (.slice e)) (hi : P.info? e = some i) (hz : i.zero = some z)
    (hsize : i.size = size) (hby : i.bytes = bytes) (hzs : z.cells.size = size) (hsz : 0 < size)
    (v : Value) (n : Nat) (xs : List Value) (hown : w.ownsRow base e size v n xs)
    (a : Addr) (m c : Nat) (hm : 0 < m) (news : List Value) (hl : news.length = m * size) (hnews : ∀ j u, news[j]? = some u → w.cell? (a.add j) = some u) (h1 : ∀ u ∈ news, u.oneCell' = true)
    (h63 : n + m ≤ maxLen) (hbytes : (n + m) * bytes ≤ 140737488355328) (hbase : base ≤ w.heap.size) :
    ∃ v' w', (Builtin.append_ #[t, t] ty #[v, .slice (some a) m c]).run P w = .ok v' w' ∧ w'.ownsRow base e size v' (n + m) (xs ++ news) ∧ w.grownBy w' v.ownBlock ∧ (v'.ownBlock = v.ownBlock ∨ v'.ownBlock = some w.heap.size) := by
  obtain ⟨v', w', hr, h2, h3, _⟩ := run_append_own (P := P) w base t ty e i z size bytes ht hi hz hsize hby hzs hsz v n xs hown a m c news hl hnews h1 h63 hbytes hbase
  refine ⟨v', w', hr, h2, h3, ?_⟩
  subst hsize
  subst hby
  have hsmall : n + m ≤ 9223372036854775807 := by simp only [maxLen] at h63; omega
  rcases hown.2 with ⟨rfl, rfl⟩ | ⟨g, cap, cur, rfl, hbg, hg, hnc, hcm, hcs, htake⟩
  · have hr2 := run_append_nil (P := P) w t ty e i z ht hi hz a m c news hl hnews (by omega) (by omega) (by have hb := hbytes; simp only [Nat.zero_add] at hb; omega)
    rw [hr2] at hr
    injection hr with h _
    right
    rw [← h]
    rfl
  · by_cases hroom : n + m ≤ cap
    · have hfit : n * i.size + news.length ≤ cur.size := by rw [hl, hcs, ← Nat.add_mul]; exact Nat.mul_le_mul_right _ hroom
      have hr2 := run_append_room (P := P) w t ty e i ht hi g n cap cur hg a m c news hl hnews h1 hroom hfit
      rw [hr2] at hr
      injection hr with h _
      left
      rw [← h]
      rfl
    · have holds : ∀ j u, xs[j]? = some u → w.cell? ((⟨g, 0, none⟩ : Addr).add j) = some u := hown.cells (g := g) rfl
      have hr2 := run_append_grow (P := P) w t ty e i z ht hi hz ⟨g, 0, none⟩ n cap xs hown.1 holds a m c news hl hnews (by omega) (by omega) (growslice_fits (by omega) hbytes)
      rw [hr2] at hr
      injection hr with h _
      right
      rw [← h]
      rfl
theorem wpList_append_at {P : Program} (w : World) {ops : Array Oper} {rest : List Oper} {o : Oper} {a : Act} {Q : Exit → Act → World → Prop} (hgd : o.guard = none) (s x : Operand) (t : TypeId)
    (ho : o.op = .call { callee := .builtin .append, args := #[s, x], argTypes := #[t, t] })
    (base : Nat) (e : TypeId) (i : TypeInfo) (z : Value) (size bytes : Nat) (ht : P.underlying t = some (.slice e)) (hi : P.info? e = some i) (hz : i.zero = some z)
    (hsize : i.size = size) (hby : i.bytes = bytes) (hzs : z.cells.size = size) (hsz : 0 < size)
    (v : Value) (n : Nat) (xs : List Value) (hs : a.eval s = v) (hown : w.ownsRow base e size v n xs)
    (ad : Addr) (m c : Nat) (hm : 0 < m) (news : List Value) (hx : a.eval x = .slice (some ad) m c) (hl : news.length = m * size) (hnews : ∀ j u, news[j]? = some u → w.cell? (ad.add j) = some u) (h1 : ∀ u ∈ news, u.oneCell' = true)
    (h63 : n + m ≤ maxLen) (hbytes : (n + m) * bytes ≤ 140737488355328) (hbase : base ≤ w.heap.size)
    (h : ∀ v' w', w'.ownsRow base e size v' (n + m) (xs ++ news) → w.grownBy w' v.ownBlock → (v'.ownBlock = v.ownBlock ∨ v'.ownBlock = some w.heap.size) → wpList P ops Q rest (a.put o.dst v') w') : wpList P ops Q (o :: rest) a w := by
  refine wpList_plain hgd fun _ hK => ?_
  obtain ⟨v', w', hr, h2, h3, h4⟩ := run_append_at (P := P) w base t o.type e i z size bytes ht hi hz hsize hby hzs hsz v n xs hown ad m c hm news hl hnews h1 h63 hbytes hbase
  unfold Oper.wp execOp
  simp only [ho, resolve, invoke, builtin, Sem.run_bind, Sem.run_pure, Result.andThen_ok, List.map_toArray, List.map_cons, List.map_nil, hs, hx, hr]
  exact hK _ _ (h v' w' h2 h3 h4)

theorem one_inj {v u : Value} {t : TypeId} (h : some (Obj.cells #[v] t (0, 0)) = some (Obj.cells #[u] t (0, 0))) : v = u := by
  injection h with h
  injection h with h _
  simpa using h
/-- Which blocks are the teller's own: the variable, and the row that it holds. -/
def Own (b0 : Nat) (W : World) (b : Nat) : Prop := b = b0 ∨ ∃ v, W.heap[b0]? = some (.cells #[v] 75 (0, 0)) ∧ v.ownBlock = some b

/-- What stays as it was: all below B but x and what is the teller's own. -/
structure Kp (b0 : Nat) (x : Option Nat) (B : Nat) (W w' : World) : Prop where
  os : w'.os = W.os
  tape : w'.tape = W.tape
  output : w'.output = W.output
  size : W.heap.size ≤ w'.heap.size
  block : ∀ b, b < B → some b ≠ x → ¬ Own b0 W b → w'.heap[b]? = W.heap[b]?
  own : ∀ b, b < B → Own b0 w' b → Own b0 W b

/-- What has been told. -/
def Told (b0 : Nat) (acc : List Ev) (W : World) : Prop := ∃ v, W.heap[b0]? = some (.cells #[v] 75 (0, 0)) ∧ W.ownsRow (b0 + 1) 92 4 v acc.length (evCs acc)

theorem Kp.refl (b0 : Nat) (x : Option Nat) (B : Nat) (W : World) : Kp b0 x B W W := ⟨rfl, rfl, rfl, Nat.le_refl _, fun _ _ _ _ => rfl, fun _ _ h => h⟩
theorem Kp.trans {b0 B : Nat} {x : Option Nat} {a b c : World} (h : Kp b0 x B a b) (k : Kp b0 x B b c) : Kp b0 x B a c :=
  ⟨k.os.trans h.os, k.tape.trans h.tape, k.output.trans h.output, Nat.le_trans h.size k.size, fun i hi hx ho => (k.block i hi hx fun ho' => ho (h.own i hi ho')).trans (h.block i hi hx ho), fun i hi ho => h.own i hi (k.own i hi ho)⟩
theorem Kp.mono {b0 B B' : Nat} {x : Option Nat} {a b : World} (h : Kp b0 x B a b) (hB : B' ≤ B) : Kp b0 x B' a b :=
  ⟨h.os, h.tape, h.output, h.size, fun i hi => h.block i (by omega), fun i hi => h.own i (by omega)⟩
theorem Kp.weak {b0 B : Nat} {x : Option Nat} {a b : World} (h : Kp b0 none B a b) : Kp b0 x B a b :=
  ⟨h.os, h.tape, h.output, h.size, fun i hi _ => h.block i hi (by simp), h.own⟩
/-- The excepted block lies beyond. -/
theorem Kp.past {b0 B g : Nat} {a b : World} (h : Kp b0 (some g) B a b) (hg : B ≤ g) : Kp b0 none B a b :=
  ⟨h.os, h.tape, h.output, h.size, fun i hi _ => h.block i hi (by intro he; injection he with he; omega), h.own⟩
theorem Own.same {b0 : Nat} {W w' : World} (h : w'.heap[b0]? = W.heap[b0]?) (b : Nat) : Own b0 w' b ↔ Own b0 W b := by
  unfold Own
  rw [h]
theorem Kp.below {b0 B : Nat} {x : Option Nat} {a b : World} (h : Below B a b) (h0 : b0 < B) : Kp b0 x B a b :=
  ⟨h.os, h.tape, h.output, h.size, fun i hi _ _ => h.block i hi, fun i _ ho => (Own.same (h.block b0 h0) i).1 ho⟩
theorem Told.lt {b0 : Nat} {acc : List Ev} {W : World} (h : Told b0 acc W) : b0 < W.heap.size := by
  obtain ⟨v, hv, _⟩ := h
  exact lt_of_block hv
theorem Told.own_lt {b0 : Nat} {acc : List Ev} {W : World} (h : Told b0 acc W) {b : Nat} (hb : Own b0 W b) : b < W.heap.size := by
  obtain ⟨v, hv, ho⟩ := h
  rcases hb with rfl | ⟨v', hv', hb⟩
  · exact lt_of_block hv
  · rw [hv] at hv'
    have := one_inj hv'
    subst this
    exact (ho.lt b hb).2
/-- As long as what is the teller's own stays, what has been told stays. -/
theorem Told.keep {b0 : Nat} {acc : List Ev} {W w' : World} (h : Told b0 acc W) (hk : ∀ b, Own b0 W b → w'.heap[b]? = W.heap[b]?) : Told b0 acc w' := by
  obtain ⟨v, hv, ho⟩ := h
  refine ⟨v, (hk b0 (Or.inl rfl)).trans hv, ho.1, ?_⟩
  rcases ho.2 with h0 | ⟨g, cap, cur, hvv, hg, hh, r⟩
  · exact Or.inl h0
  · exact Or.inr ⟨g, cap, cur, hvv, hg, (hk g (Or.inr ⟨v, hv, by rw [hvv]; rfl⟩)).trans hh, r⟩
theorem Told.below {b0 : Nat} {acc : List Ev} {W w' : World} (h : Told b0 acc W) (hb : Below W.heap.size W w') : Told b0 acc w' :=
  h.keep fun b ho => hb.block b (h.own_lt ho)
theorem Told.alloc {b0 : Nat} {acc : List Ev} {W : World} (h : Told b0 acc W) (o : Obj) : Told b0 acc (W.alloc o) :=
  h.keep fun b ho => Below.heap_alloc W o b (h.own_lt ho)
theorem Told.drew {b0 : Nat} {acc : List Ev} {W : World} (h : Told b0 acc W) : Told b0 acc W.drew := h
theorem Told.set {b0 : Nat} {acc : List Ev} {W : World} (h : Told b0 acc W) {a : Addr} (ha : ¬ Own b0 W a.block) (u : Value) : Told b0 acc (W.setCell a u) :=
  h.keep fun b ho => Below.heap_setCell W a u b fun he => ha (he ▸ ho)
theorem Told.grown {b0 : Nat} {acc : List Ev} {W w' : World} (h : Told b0 acc W) {row : Option Nat} (hg : W.grownBy w' row) (hr : ∀ g, row = some g → ¬ Own b0 W g) : Told b0 acc w' :=
  h.keep fun b ho => hg.block b (h.own_lt ho) fun he => hr b he.symm ho
/-- A block that is not the teller's own stays so. -/
theorem Kp.off {b0 B g : Nat} {x : Option Nat} {a b : World} (h : Kp b0 x B a b) (hg : g < B) (ho : ¬ Own b0 a g) : ¬ Own b0 b g := fun h' => ho (h.own g hg h')

theorem Told.own_type {b0 : Nat} {acc : List Ev} {W : World} (h : Told b0 acc W) {b : Nat} (hb : Own b0 W b) : ∃ c T fz, W.heap[b]? = some (.cells c T fz) ∧ (T = 75 ∨ T = 92) := by
  obtain ⟨v, hv, ho⟩ := h
  rcases hb with rfl | ⟨v', hv', hb⟩
  · exact ⟨_, _, _, hv, Or.inl rfl⟩
  · rw [hv] at hv'
    have := one_inj hv'
    subst this
    rcases ho.2 with ⟨h0, _⟩ | ⟨g, cap, cur, hvv, _, hh, _⟩
    · rw [h0] at hb; cases hb
    · rw [hvv] at hb
      cases hb
      exact ⟨_, _, _, hh, Or.inr rfl⟩
/-- A block of another kind is not the list's own. -/
theorem Told.off {b0 : Nat} {acc : List Ev} {W : World} (h : Told b0 acc W) {b : Nat} {c : Array Value} {T : TypeId} {fz : Nat × Nat} (hb : W.heap[b]? = some (.cells c T fz)) (h1 : T ≠ 75) (h2 : T ≠ 92) : ¬ Own b0 W b := fun ho => by
  obtain ⟨c', T', fz', hh, hT⟩ := h.own_type ho
  rw [hb] at hh
  injection hh with hh
  injection hh with _ hh _
  subst hh
  exact hT.elim h1 h2

def evV (e : Ev) : Value := .agg #[.int .i64 e.kind, .bool e.fin, .int .i64 e.level, .string ⟨e.text.toArray⟩]
theorem Tryz.infoApi : (Tryz.prog.info? 92).map (fun i => (i.zero, i.size, i.bytes)) = some (some (.agg #[.int .i64 0, .bool false, .int .i64 0, .string ⟨#[]⟩]), 4, 40) := by kernel_rfl

/-- What a closure does that gathers events in a variable. -/
def DoC (kd : Nat) : Prop := (∀ args w, (callFunc kd args).run Tryz.prog w = .ok (.enter kd args) w) ∧ ∀ (b0 : Nat) (acc : List Ev) (ev : Ev) (W : World), Told b0 acc W → acc.length ≤ 1099511627776 →
    Calls Tryz.prog kd #[evV ev, .pointer (some ⟨b0, 0, none⟩)] W fun e w' => e = .returned (.tuple #[]) ∧ Told b0 (acc ++ [ev]) w' ∧ Kp b0 none W.heap.size W w'

set_option maxRecDepth 100000 in
set_option maxHeartbeats 1000000 in
/-- Telling one event. -/
theorem do_any (b0 : Nat) (acc : List Ev) (ev : Ev) (W : World) (hT : Told b0 acc W) (hlen : acc.length ≤ 1099511627776) :
    Calls Tryz.prog 82 #[evV ev, .pointer (some ⟨b0, 0, none⟩)] W fun e w' => e = .returned (.tuple #[]) ∧ Told b0 (acc ++ [ev]) w' ∧ Kp b0 none W.heap.size W w' := by
  obtain ⟨j0, hj, hy0, hy1, hy2⟩ := info_parts Tryz.infoApi
  obtain ⟨v, hv, hown⟩ := hT
  have hlt := lt_of_block hv
  have hcell := cell_of_one hv
  have hfree := free_of_one hv
  unfold evV
  go_enter Tryz.func82, Tryz.ntmps82
  go_wp2_with (at_builtin; refine wpList_append_at _ rfl _ _ 75 rfl (b0 + 1) 92 j0 (.agg #[.int .i64 0, .bool false, .int .i64 0, .string ⟨#[]⟩]) 4 40 Tryz.underlying75 hj hy0 hy1 hy2 rfl (by decide) _ _ _ rfl ((hown.alloc _).alloc _) ⟨W.heap.size + 1, 0, none⟩ 1 1 (by decide) (evCells ev) rfl rfl ?c1 (ev_one _) ?c3 ?c4 ?c5 ?_)
  case c1 => exact ev_cell _ _ _ (by simp)
  case c3 => unfold maxLen; omega
  case c4 => omega
  case c5 => simp; omega
  intro v' w1 own' grow' at'
  rcases Joins.ownsRow_forms own' with ⟨rfl, h0⟩ | ⟨g', cap', rfl⟩
  · omega
  have hne : some b0 ≠ v.ownBlock := by
    intro h
    have := (hown.lt b0 h.symm).1
    omega
  have hv1 : w1.heap[b0]? = some (.cells #[v] 75 (0, 0)) := by
    rw [grow'.block b0 (by simp; omega) hne, Below.heap_alloc _ _ _ (by simp; omega), Below.heap_alloc _ _ _ hlt]
    exact hv
  have hc1 := cell_of_one hv1
  have hf1 := free_of_one hv1
  go_wp2
  go_end0
  refine ⟨rfl, ⟨_, one_setCell hv1, ?_⟩, ?_⟩
  · rw [List.length_append, evCs_append, evCs_one]
    exact ownsRow_setCell_below own' (Nat.lt_succ_self _) _
  · have g0 := grow'.size
    simp at g0
    refine ⟨grow'.os, grow'.tape, grow'.output, by simp; omega, ?_, ?_⟩
    · intro b hb _ ho
      have h0 : b ≠ b0 := fun h => ho (Or.inl h)
      rw [Below.heap_setCell _ _ _ _ h0, grow'.block b (by simp; omega) (fun h => ho (Or.inr ⟨v, hv, h.symm⟩)), Below.heap_alloc _ _ _ (by simp; omega), Below.heap_alloc _ _ _ hb]
    · intro b hb ho
      rcases ho with h | ⟨u, hu, hub⟩
      · exact Or.inl h
      · rw [one_setCell hv1] at hu
        rw [← one_inj hu] at hub
        rcases at' with h | h
        · exact Or.inr ⟨v, hv, by rw [← h]; exact hub⟩
        · rw [h] at hub
          injection hub with hub
          omega
theorem do_listed : DoC 82 := ⟨enters_of Tryz.func82 (by kernel_rfl) rfl, do_any⟩

set_option maxRecDepth 100000 in
set_option maxHeartbeats 1000000 in
/-- Telling one event. -/
theorem do_any2 (b0 : Nat) (acc : List Ev) (ev : Ev) (W : World) (hT : Told b0 acc W) (hlen : acc.length ≤ 1099511627776) :
    Calls Tryz.prog 112 #[evV ev, .pointer (some ⟨b0, 0, none⟩)] W fun e w' => e = .returned (.tuple #[]) ∧ Told b0 (acc ++ [ev]) w' ∧ Kp b0 none W.heap.size W w' := by
  obtain ⟨j0, hj, hy0, hy1, hy2⟩ := info_parts Tryz.infoApi
  obtain ⟨v, hv, hown⟩ := hT
  have hlt := lt_of_block hv
  have hcell := cell_of_one hv
  have hfree := free_of_one hv
  unfold evV
  go_enter Tryz.func112, Tryz.ntmps112
  go_wp2_with (at_builtin; refine wpList_append_at _ rfl _ _ 75 rfl (b0 + 1) 92 j0 (.agg #[.int .i64 0, .bool false, .int .i64 0, .string ⟨#[]⟩]) 4 40 Tryz.underlying75 hj hy0 hy1 hy2 rfl (by decide) _ _ _ rfl ((hown.alloc _).alloc _) ⟨W.heap.size + 1, 0, none⟩ 1 1 (by decide) (evCells ev) rfl rfl ?c1 (ev_one _) ?c3 ?c4 ?c5 ?_)
  case c1 => exact ev_cell _ _ _ (by simp)
  case c3 => unfold maxLen; omega
  case c4 => omega
  case c5 => simp; omega
  intro v' w1 own' grow' at'
  rcases Joins.ownsRow_forms own' with ⟨rfl, h0⟩ | ⟨g', cap', rfl⟩
  · omega
  have hne : some b0 ≠ v.ownBlock := by
    intro h
    have := (hown.lt b0 h.symm).1
    omega
  have hv1 : w1.heap[b0]? = some (.cells #[v] 75 (0, 0)) := by
    rw [grow'.block b0 (by simp; omega) hne, Below.heap_alloc _ _ _ (by simp; omega), Below.heap_alloc _ _ _ hlt]
    exact hv
  have hc1 := cell_of_one hv1
  have hf1 := free_of_one hv1
  go_wp2
  go_end0
  refine ⟨rfl, ⟨_, one_setCell hv1, ?_⟩, ?_⟩
  · rw [List.length_append, evCs_append, evCs_one]
    exact ownsRow_setCell_below own' (Nat.lt_succ_self _) _
  · have g0 := grow'.size
    simp at g0
    refine ⟨grow'.os, grow'.tape, grow'.output, by simp; omega, ?_, ?_⟩
    · intro b hb _ ho
      have h0 : b ≠ b0 := fun h => ho (Or.inl h)
      rw [Below.heap_setCell _ _ _ _ h0, grow'.block b (by simp; omega) (fun h => ho (Or.inr ⟨v, hv, h.symm⟩)), Below.heap_alloc _ _ _ (by simp; omega), Below.heap_alloc _ _ _ hb]
    · intro b hb ho
      rcases ho with h | ⟨u, hu, hub⟩
      · exact Or.inl h
      · rw [one_setCell hv1] at hu
        rw [← one_inj hu] at hub
        rcases at' with h | h
        · exact Or.inr ⟨v, hv, by rw [← h]; exact hub⟩
        · rw [h] at hub
          injection hub with hub
          omega
theorem do_stands : DoC 112 := ⟨enters_of Tryz.func112 (by kernel_rfl) rfl, do_any2⟩

end Go.Proofs.YtljcljipppjnoaaGreatDoor
