import Derived.Test.YtljcljipppjnoaaGreatDoorRefFence
import Derived.Deep.AppendSrc
import Derived.Lib.SmallJoins
namespace Go.Proofs.YtljcljipppjnoaaGreatDoor
open Go.RowKit

theorem grown_refl (w : World) (r : Option Nat) : w.grownBy w r := ⟨rfl, rfl, rfl, Nat.le_refl _, fun _ _ _ => rfl⟩

/-- Appending a row that is owned (or nil) to one that is owned (or nil). -/
theorem run_append_row {P : Program} (w : World) (base base2 : Nat) (t ty e : TypeId) (i : TypeInfo) (z : Value) (size bytes : Nat) (ht : P.underlying t = some (.slice e)) (hi : P.info? e = some i) (hz : i.zero = some z)
    (hsize : i.size = size) (hby : i.bytes = bytes) (hzs : z.cells.size = size) (hsz : 0 < size)
    (v : Value) (n : Nat) (xs : List Value) (hown : w.ownsRow base e size v n xs)
    (u : Value) (m : Nat) (news : List Value) (hu : w.ownsRow base2 e size u m news) (h1 : ∀ c ∈ news, c.oneCell' = true)
    (h63 : n + m ≤ maxLen) (hbytes : (n + m) * bytes ≤ 140737488355328) (hbase : base ≤ w.heap.size) :
    ∃ v' w', (Builtin.append_ #[t, t] ty #[v, u]).run P w = .ok v' w' ∧ w'.ownsRow base e size v' (n + m) (xs ++ news) ∧ w.grownBy w' v.ownBlock := by
  rcases Joins.ownsRow_forms hu with ⟨rfl, rfl⟩ | ⟨g2, cap2, rfl⟩
  · have hn : news = [] := List.eq_nil_of_length_eq_zero (by simpa using hu.1)
    subst hn
    rw [Nat.add_zero, List.append_nil]
    rcases Joins.ownsRow_forms hown with ⟨rfl, rfl⟩ | ⟨g, cap, rfl⟩
    · refine ⟨.slice none 0 0, w, ?_, hown, grown_refl _ _⟩
      simp [Builtin.append_, run_underlying ht, sizeOf, typeInfo, hi, Builtin.lenOf, Builtin.firstCells]
    · have hnc : n ≤ cap := by
        rcases hown.2 with ⟨hh, _⟩ | ⟨g', cap', cur, hv, _, _, hnc, _⟩
        · cases hh
        · cases hv; exact hnc
      have hr := run_append_room_src (P := P) w t t ty e i ht hi g 0 n cap (.slice none 0 0) 0 [] (Src.ofNil w ht 0) (by omega) (fun j hj => absurd hj (by simp)) (fun j hj => absurd hj (by simp))
      exact ⟨_, _, hr, hown, grown_refl _ _⟩
  · obtain ⟨v', w', hr, h2, h3, _⟩ := run_append_own (P := P) w base t ty e i z size bytes ht hi hz hsize hby hzs hsz v n xs hown ⟨g2, 0, none⟩ m cap2 news hu.1 (hu.cells (g := g2) rfl) h1 h63 hbytes hbase
    exact ⟨v', w', hr, h2, h3⟩

theorem wpList_append_row {P : Program} (w : World) {ops : Array Oper} {rest : List Oper} {o : Oper} {a : Act} {Q : Exit → Act → World → Prop} (hgd : o.guard = none) (s x : Operand) (t : TypeId)
    (ho : o.op = .call { callee := .builtin .append, args := #[s, x], argTypes := #[t, t] })
    (base base2 : Nat) (e : TypeId) (i : TypeInfo) (z : Value) (size bytes : Nat) (ht : P.underlying t = some (.slice e)) (hi : P.info? e = some i) (hz : i.zero = some z)
    (hsize : i.size = size) (hby : i.bytes = bytes) (hzs : z.cells.size = size) (hsz : 0 < size)
    (v : Value) (n : Nat) (xs : List Value) (hs : a.eval s = v) (hown : w.ownsRow base e size v n xs)
    (u : Value) (m : Nat) (news : List Value) (hx : a.eval x = u) (hu : w.ownsRow base2 e size u m news) (h1 : ∀ c ∈ news, c.oneCell' = true)
    (h63 : n + m ≤ maxLen) (hbytes : (n + m) * bytes ≤ 140737488355328) (hbase : base ≤ w.heap.size)
    (h : ∀ v' w', w'.ownsRow base e size v' (n + m) (xs ++ news) → w.grownBy w' v.ownBlock → wpList P ops Q rest (a.put o.dst v') w') : wpList P ops Q (o :: rest) a w := by
  refine wpList_plain hgd fun _ hK => ?_
  obtain ⟨v', w', hr, h2, h3⟩ := run_append_row (P := P) w base base2 t o.type e i z size bytes ht hi hz hsize hby hzs hsz v n xs hown u m news hu h1 h63 hbytes hbase
  unfold Oper.wp execOp
  simp only [ho, resolve, invoke, builtin, Sem.run_bind, Sem.run_pure, Result.andThen_ok, List.map_toArray, List.map_cons, List.map_nil, hs, hx, hr]
  exact hK _ _ (h v' w' h2 h3)

theorem evCs_one' (l : List Ev) : ∀ c ∈ evCs l, c.oneCell' = true := by
  intro c hc
  simp only [evCs, List.mem_flatMap] at hc
  obtain ⟨e, _, he⟩ := hc
  exact ev_one e c he
theorem strCs_one (l : List (List UInt8)) : ∀ c ∈ strCs l, c.oneCell' = true := by
  intro c hc
  simp only [strCs, List.mem_map] at hc
  obtain ⟨e, _, rfl⟩ := hc
  rfl
theorem strCs_length (l : List (List UInt8)) : (strCs l).length = l.length * 1 := by simp [strCs]

/-- Lines as a value: nothing, or a piece of memory. -/
def LinesV (v : Value) (ls : List (List UInt8)) (w : World) : Prop :=
  (ls = [] ∧ v = .slice none 0 0) ∨ ∃ g o cap, v = .slice (some ⟨g, o, none⟩) ls.length cap ∧ Strs g o cap ls w

theorem lines_own {w : World} {base : Nat} {t : TypeId} {v : Value} {ls : List (List UInt8)} (h : w.ownsRow base t 1 v ls.length (strCs ls)) : LinesV v ls w := by
  rcases h.2 with ⟨hv, h0⟩ | ⟨g, cap, cur, hv, hb, hg, hnc, hcm, hcs, ht⟩
  · exact Or.inl ⟨List.eq_nil_of_length_eq_zero h0, hv⟩
  · refine Or.inr ⟨g, 0, cap, hv, hnc, by simp only [maxLen] at hcm; omega, ?_, ?_⟩
    · rcases Nat.lt_or_ge g w.heap.size with hlt | hge
      · exact hlt
      · rw [Array.getElem?_eq_none hge] at hg; cases hg
    · intro j l hj
      have hc := h.cells (g := g) (by rw [hv]; rfl) j (.string ⟨l.toArray⟩) (by simp [strCs, hj])
      rw [Addr.add_lit] at hc
      exact hc

theorem Strs.drop {g o cap : Nat} {ls : List (List UInt8)} {w : World} (h : Strs g o cap ls w) (n : Nat) (hn : n ≤ ls.length) : Strs g (o + n) (cap - n) (ls.drop n) w := by
  have hf := h.fits
  have hm := h.max
  refine ⟨by rw [List.length_drop]; omega, by omega, h.lt, ?_⟩
  intro j l hj
  rw [List.getElem?_drop] at hj
  have := h.cell (n + j) l hj
  rw [← Nat.add_assoc] at this
  exact this

theorem Small.drop {M : Nat} {ls : List (List UInt8)} (h : Small M ls) (n : Nat) : Small M (ls.drop n) :=
  ⟨by have := h.1; rw [List.length_drop]; omega, fun l hl => h.2 l (List.mem_of_mem_drop hl)⟩

end Go.Proofs.YtljcljipppjnoaaGreatDoor
