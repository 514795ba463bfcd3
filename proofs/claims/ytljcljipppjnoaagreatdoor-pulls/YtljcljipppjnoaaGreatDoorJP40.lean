import Derived.Test.YtljcljipppjnoaaGreatDoorJP03
import Derived.Test.YtljcljipppjnoaaGreatDoorJP07
import Derived.Test.YtljcljipppjnoaaGreatDoorJP11
import Derived.Test.YtljcljipppjnoaaGreatDoorJP39
namespace Go.Proofs.YtljcljipppjnoaaGreatDoor
open Go.RowKit

theorem leaf_text (k v : Int) (t : List UInt8) (M : Nat) (h : t.length ≤ M) : ∀ e ∈ leafS k v t, e.text.length ≤ M := by
  intro e he
  unfold leafS at he
  simp only [List.mem_append, List.mem_singleton] at he
  rcases he with (rfl | he) | rfl
  · simp
  · split at he
    · cases he
    · simp at he
      subst he
      exact h
  · simp
theorem items_text (inner : List (List UInt8) → List Ev) (hI : ∀ ls, ∀ e ∈ inner ls, e.text.length ≤ tot ls) (ls : List (List UInt8)) (n : Nat) (hn : n < ls.length) : ∀ e ∈ (itemsAt inner ls n).1, e.text.length ≤ tot ls := by
  induction hm : ls.length - n using Nat.strongRecOn generalizing n with
  | _ m ih =>
    have hev : ∀ e ∈ itemEv inner ls n, e.text.length ≤ tot ls := by
      intro e he
      simp only [itemEv, List.mem_append, List.mem_singleton] at he
      rcases he with (rfl | he) | rfl
      · simp
      · exact Nat.le_trans (hI _ e he) (tot_item ls n hn)
      · simp
    have hge := behind_ge ls (moreAt ls (n + 1)).2
    have hmg := more_ge ls (n + 1)
    by_cases h : behindS ls (moreAt ls (n + 1)).2 < ls.length
    · cases h2 : itemL ls[behindS ls (moreAt ls (n + 1)).2] with
      | true =>
        rw [items_go inner ls n _ rfl h h2]
        intro e he
        simp only [List.mem_append] at he
        rcases he with he | he
        · exact hev e he
        · exact ih _ (by omega) _ h rfl e he
      | false => rw [items_no inner ls n _ rfl h h2]; exact hev
    · rw [items_end inner ls n _ rfl h]; exact hev
theorem step_text (inner : List (List UInt8) → List Ev) (hI : ∀ ls, ∀ e ∈ inner ls, e.text.length ≤ tot ls) (depth : Int) (l : List UInt8) (r : List (List UInt8)) : (∀ e ∈ (stepS inner depth l (l :: r)).1, e.text.length ≤ tot (l :: r)) ∧ ∀ e, (stepS inner depth l (l :: r)).1.head? = some e → e.kind ≠ 8 := by
  have hlh : ∀ k v t (e : Ev), k ≠ 8 → (leafS k v t).head? = some e → e.kind ≠ 8 := by
    intro k v t e hk he
    simp [leafS] at he
    subst he
    exact hk
  unfold stepS
  split
  · refine ⟨leaf_text _ _ _ _ ?_, fun e he => hlh _ _ _ e (by decide) he⟩
    rw [fencedT, codeOf_len]
    exact Nat.le_trans (tot_drop _ _) (tot_take _ _)
  split
  · refine ⟨leaf_text _ _ _ _ ?_, fun e he => hlh _ _ _ e (by decide) he⟩
    have h1 := trimL_le (l.drop (levelL l))
    rw [List.length_drop] at h1
    rw [tot_cons]
    omega
  split
  · refine ⟨fun e he => ?_, fun e he => ?_⟩
    · simp only [quoteS, List.mem_append, List.mem_singleton] at he
      rcases he with (rfl | he) | rfl
      · simp
      · exact Nat.le_trans (hI _ e he) (tot_quote _)
      · simp
    · simp [quoteS] at he
      subst he
      decide
  split
  · refine ⟨fun e he => ?_, fun e he => ?_⟩
    · simp only [listS, List.mem_append, List.mem_singleton] at he
      rcases he with (rfl | he) | rfl
      · simp
      · exact items_text inner hI _ 0 (by simp) e he
      · simp
    · simp [listS] at he
      subst he
      decide
  · refine ⟨leaf_text _ _ _ _ ?_, fun e he => hlh _ _ _ e (by decide) he⟩
    exact Nat.le_trans (joinT_len _) (tot_take _ _)
theorem blocks_text (inner : List (List UInt8) → List Ev) (hI : ∀ ls, ∀ e ∈ inner ls, e.text.length ≤ tot ls) (depth : Int) (ls : List (List UInt8)) : (∀ e ∈ blocksF inner depth ls, e.text.length ≤ tot ls) ∧ ∀ e, (blocksF inner depth ls).head? = some e → e.kind ≠ 8 := by
  induction hm : ls.length using Nat.strongRecOn generalizing ls with
  | _ m ih =>
    cases ls with
    | nil => simp [blocksF]
    | cons l r =>
      rw [blocksF]
      rw [List.length_cons] at hm
      split
      · obtain ⟨i1, i2⟩ := ih r.length (by omega) r rfl
        exact ⟨fun e he => by have := i1 e he; rw [tot_cons]; omega, i2⟩
      · obtain ⟨s1, s2⟩ := step_text inner hI depth l r
        have hne : (stepS inner depth l (l :: r)).1 ≠ [] := by
          unfold stepS
          split
          · simp [leafS]
          split
          · simp [leafS]
          split
          · simp [quoteS]
          split
          · simp [listS]
          · simp [leafS]
        generalize stepS inner depth l (l :: r) = X at s1 s2 hne
        have hd : (r.drop (X.2 - 1)).length ≤ r.length := by rw [List.length_drop]; omega
        obtain ⟨i1, i2⟩ := ih (r.drop (X.2 - 1)).length (by omega) _ rfl
        refine ⟨fun e he => ?_, fun e he => ?_⟩
        · rcases List.mem_append.1 he with he | he
          · exact s1 e he
          · have := i1 e he
            have := tot_drop r (X.2 - 1)
            rw [tot_cons]
            omega
        · have hh : (X.1 ++ blocksF inner depth (r.drop (X.2 - 1))).head? = X.1.head? := by
            cases h : X.1 with
            | nil => exact absurd h hne
            | cons a b => rfl
          rw [hh] at he
          exact s2 e he
theorem blocksAt_text (d : Nat) (ls : List (List UInt8)) : (∀ e ∈ blocksAt d ls, e.text.length ≤ tot ls) ∧ ∀ e, (blocksAt d ls).head? = some e → e.kind ≠ 8 := by
  induction d generalizing ls with
  | zero => exact blocks_text (fun _ => []) (fun _ e he => by cases he) 3 ls
  | succ d ih => exact blocks_text (blocksAt d) (fun ls => (ih ls).1) (2 - (d : Int)) ls

/-- In place of a leaf's text: what stands in it. -/
def evAt (l : List Ev) (i : Nat) : List Ev :=
  match l[i]? with
  | some e => if e.kind = 8 ∧ l[i - 1]?.map (fun x => x.kind) ≠ some 5 then inlineS e.text false else [e]
  | none => []
def evUpto (l : List Ev) (k : Nat) : List Ev := (List.range k).flatMap (evAt l)
theorem evUpto_succ (l : List Ev) (k : Nat) : evUpto l (k + 1) = evUpto l k ++ evAt l k := by
  simp [evUpto, List.range_succ]
/-- The events of a regular text. -/
def eventsS (t : List UInt8) : List Ev := evUpto (blocksAt 3 (linesL [] t)) (blocksAt 3 (linesL [] t)).length

end Go.Proofs.YtljcljipppjnoaaGreatDoor

namespace Go.Proofs.YtljcljipppjnoaaGreatDoor
open Go.RowKit

theorem evAt_len (l : List Ev) (M : Nat) (h : ∀ e ∈ l, e.text.length ≤ M) (i : Nat) : (evAt l i).length ≤ 2 * M + 1 := by
  unfold evAt
  cases hi : l[i]? with
  | none => simp
  | some e =>
    simp only
    split
    · have h1 := (inlF_facts (e.text.length + 1)).1 e.text false
      have h2 := h e (List.mem_of_getElem? hi)
      unfold inlineS
      omega
    · simp
theorem evUpto_len (l : List Ev) (M : Nat) (h : ∀ e ∈ l, e.text.length ≤ M) (k : Nat) : (evUpto l k).length ≤ (2 * M + 1) * k := by
  induction k with
  | zero => simp [evUpto]
  | succ k ih =>
    rw [evUpto_succ, List.length_append, Nat.mul_succ]
    have := evAt_len l M h k
    omega

set_option maxRecDepth 100000 in
set_option maxHeartbeats 4000000 in
theorem revents_any (t : List UInt8) (w : World) (ht : t.length ≤ 8192) :
    Calls Tryz.prog 51 #[.string ⟨t.toArray⟩] w fun e w' => ∃ v, e = .returned v ∧ w'.ownsRow w.heap.size 83 4 v (eventsS t).length (evCs (eventsS t)) ∧ Below w.heap.size w w' := by
  obtain ⟨j0, hj, hy0, hy1, hy2⟩ := info_parts Tryz.infoEv
  have c1 := fun w => rlines_any ⟨t.toArray⟩ w (by rw [size_of]; omega)
  have e1 : (⟨t.toArray⟩ : ByteArray).data.toList = t := rfl
  rw [e1] at c1
  have htl := tot_lines t
  have hll := tot_len (linesL [] t)
  have c2 := fun v w (h : LinesV v (linesL [] t) w) => rblocks_doc v (linesL [] t) w h (tot_small (by omega))
  have hbl := blocksAt_le 3 (linesL [] t)
  obtain ⟨hbt, hbh⟩ := blocksAt_text 3 (linesL [] t)
  unfold eventsS
  generalize blocksAt 3 (linesL [] t) = bl at c2 hbl hbt hbh ⊢
  have hbn : bl.length ≤ 131088 := by omega
  have hbt2 : ∀ e ∈ bl, e.text.length ≤ 8193 := fun e he => by have := hbt e he; omega
  have hup := evUpto_len bl 8193 hbt2
  generalize linesL [] t = ls at c1 c2 hbl htl hll hbt
  obtain ⟨R, hR⟩ : ∃ R, evUpto bl bl.length = R := ⟨_, rfl⟩
  rw [hR]
  have HR : Hid (evUpto bl bl.length = R) := hR
  have HBT : Hid (∀ e ∈ bl, e.text.length ≤ 8193) := hbt2
  have HBH : Hid (∀ e, bl.head? = some e → e.kind ≠ 8) := hbh
  have HUP : Hid (∀ k, (evUpto bl k).length ≤ (2 * 8193 + 1) * k) := hup
  clear e1 htl hll hbl hbt hbh hbt2 hup hR
  have c3 : ∀ v w, LinesV v ls w → Calls Tryz.prog 15 #[v, .int .i64 0] w fun e w' => ∃ a cap, e = .returned (.slice a bl.length cap) ∧ (∀ (j : Nat) u, (evCs bl)[j]? = some u → ∃ g, a = some ⟨g, 0, none⟩ ∧ g < w'.heap.size ∧ w'.cell? ⟨g, j, none⟩ = some u) ∧ Below w.heap.size w w' := by
    intro v w h
    refine (c2 v w h).mono ?_
    rintro e w' ⟨vb, rfl, own, b⟩
    rcases Joins.ownsRow_forms own with ⟨rfl, h0⟩ | ⟨g, cap, rfl⟩
    · refine ⟨none, 0, by rw [h0], fun j u hu => ?_, b⟩
      have : bl = [] := List.eq_nil_of_length_eq_zero h0
      subst this
      simp [evCs] at hu
    · refine ⟨some ⟨g, 0, none⟩, cap, rfl, fun j u hu => ⟨g, rfl, (own.lt g rfl).2, ?_⟩, b⟩
      have := own.cells (g := g) rfl j u hu
      rw [Addr.add_lit] at this
      simpa using this
  clear c2
  go_enter Tryz.func51, Tryz.ntmps51
  go_wp2_with (first | (go_at_call 14; refine (c1 _).mono ?_; rintro e w1 ⟨v1, rfl, own1, b1⟩) | (go_at_call 15; refine (c3 v1 _ (lines_own own1)).mono ?_; rintro e w2 ⟨a, cap, rfl, hcells, b2⟩))
  have s1 := b1.size
  have s2 := b2.size
  have HB2 : Hid (Below w.heap.size w w2) := b1.trans (b2.mono s1)
  have HCL : Hid _ := hcells
  clear c1 c3 own1 b1 b2 hcells
  go_loopw [5, 6] (fun v5 v6 wr => ∃ k : Nat, k ≤ bl.length ∧ v6 = .int .i64 k ∧ wr.ownsRow w2.heap.size 83 4 v5 (evUpto bl k).length (evCs (evUpto bl k)) ∧ Below w2.heap.size w2 wr) (fun _ v6 _ => bl.length - (intOf v6).toNat)
  case atStart => exact ⟨0, Nat.zero_le _, rfl, by simpa [evCs, evUpto] using World.ownsRow_nil _ _ _ _, Below.refl _ _⟩
  case round =>
    obtain ⟨k, hk, rfl, hown, hbel⟩ := hrel
    have hbs := hbel.size
    have hlk := HUP.out k
    have hlk2 : (2 * 8193 + 1) * k ≤ (2 * 8193 + 1) * 131088 := Nat.mul_le_mul_left _ (by omega)
    by_cases hlt : k < bl.length
    · obtain ⟨ev, hev⟩ : ∃ ev, bl[k]? = some ev := ⟨bl[k], List.getElem?_eq_getElem hlt⟩
      obtain ⟨q0, q1, q2, q3⟩ := evCs_at bl k ev hev
      obtain ⟨g, rfl, hg, c0⟩ := HCL.out _ _ q0
      have cc : ∀ j u, (evCs bl)[j]? = some u → wr.cell? ⟨g, j, none⟩ = some u := fun j u hu => by
        obtain ⟨g', he, _, hc⟩ := HCL.out j u hu
        cases he
        exact (hbel.cell (p := ⟨g, j, none⟩) hg).trans hc
      replace c0 := cc _ _ q0
      have c1 := cc _ _ q1
      have c2 := cc _ _ q2
      have c3 := cc _ _ q3
      have htx := HBT.out ev (List.mem_of_getElem? hev)
      have hsu := evUpto_succ bl k
      have hea : evAt bl k = if ev.kind = 8 ∧ bl[k - 1]?.map (fun x => x.kind) ≠ some 5 then inlineS ev.text false else [ev] := by unfold evAt; rw [hev]
      have hlen3 : (evUpto bl k).length ≤ 2148139056 := by omega
      clear hlk hlk2
      by_cases h8 : ev.kind = 8
      · have hk0 : k ≠ 0 := by
          intro h
          subst h
          exact HBH.out ev (by rw [List.head?_eq_getElem?]; exact hev) h8
        obtain ⟨k', rfl⟩ : ∃ k', k = k' + 1 := ⟨k - 1, by omega⟩
        obtain ⟨pv, hpv⟩ : ∃ pv, bl[k']? = some pv := ⟨bl[k'], List.getElem?_eq_getElem (by omega)⟩
        have p0 := cc _ _ (evCs_at bl k' pv hpv).1
        rw [Nat.add_sub_cancel, hpv] at hea
        rw [h8] at c0
        by_cases h5 : pv.kind = 5
        · rw [if_neg (by simp [h5])] at hea
          have HU : Hid (evUpto bl (k' + 1 + 1) = evUpto bl (k' + 1) ++ [ev]) := by show _ = _; rw [hsu, hea]
          have c0' : wr.cell? ⟨g, (k' + 1) * 4, none⟩ = some (.int .i64 ev.kind) := by rw [h8]; exact c0
          rw [h5] at p0
          have hg5 : ((5 : Int) != 5) = false := rfl
          rw [← h8] at c0
          clear hsu hea hev hpv q0 q1 q2 q3 cc c0' HCL
          have hk8 : (ev.kind == 8) = true := by rw [h8]; rfl
          clear h8
          go_wp2_with (at_builtin; refine wpList_append_own _ rfl _ _ 27 rfl w2.heap.size 83 j0 (.agg #[.int .i64 0, .bool false, .int .i64 0, .string ⟨#[]⟩]) 4 40 Tryz.underlying27 hj hy0 hy1 hy2 rfl (by decide) _ _ _ rfl (hown.alloc _) ⟨wr.heap.size, 0, none⟩ 1 1 (evCells ev) rfl rfl (ev_cell _ _ _ rfl) (ev_one _) (by unfold maxLen; omega) (by omega) (by simp; omega) ?_; intro v' w3 own3 grow3 _)
          go_roundw
          case rel =>
            refine ⟨k' + 1 + 1, by omega, by go_num, ?_, (hbel.alloc hbs _).grown grow3 (by simp; omega) (fun b hb => (hown.lt b hb).1)⟩
            rw [HU.out, List.length_append, evCs_append, evCs_one]
            exact own3
          case measure => simp [intOf]; omega
        · rw [if_pos (by simpa [h8] using h5)] at hea
          have HU : Hid (evUpto bl (k' + 1 + 1) = evUpto bl (k' + 1) ++ inlineS ev.text false) := by show _ = _; rw [hsu, hea]
          have hg5 : (pv.kind != 5) = true := by rw [bne, beq_eq_false_iff_ne.2 h5]; rfl
          have ci := fun W => rinl_doc ⟨ev.text.toArray⟩ false W (by rw [size_of]; omega)
          have hil := (inlF_facts (ev.text.length + 1)).1 ev.text false
          have he1 : inlineS (⟨ev.text.toArray⟩ : ByteArray).data.toList false = inlineS ev.text false := rfl
          rw [he1] at ci
          have hil2 : (inlineS ev.text false).length ≤ 2 * ev.text.length := hil
          generalize inlineS ev.text false = ei at HU ci hil2
          clear hsu hea hev hpv q0 q1 q2 q3 cc HCL h8 h5 hil he1
          go_wp2_with (first | (go_at_call 57; refine (ci _).mono ?_; rintro e w3 ⟨vi, rfl, owni, b3⟩; have s3 := b3.size; have own3 := own_below hown b3 (Nat.le_refl _)) | (at_builtin; refine wpList_append_row _ rfl _ _ 27 rfl w2.heap.size wr.heap.size 83 j0 (.agg #[.int .i64 0, .bool false, .int .i64 0, .string ⟨#[]⟩]) 4 40 Tryz.underlying27 hj hy0 hy1 hy2 rfl (by decide) _ _ _ rfl own3 _ _ _ rfl owni (evCs_one' _) (by unfold maxLen; omega) (by omega) (by omega) ?_; intro v' w4 own4 grow4))
          go_roundw
          case rel =>
            refine ⟨k' + 1 + 1, by omega, by go_num, ?_, (hbel.trans (b3.mono hbs)).grown grow4 (by omega) (fun b hb => (own3.lt b hb).1)⟩
            rw [HU.out, List.length_append, evCs_append]
            exact own4
          case measure => simp [intOf]; omega
      · rw [if_neg (fun h => h8 h.1)] at hea
        have HU : Hid (evUpto bl (k + 1) = evUpto bl k ++ [ev]) := by show _ = _; rw [hsu, hea]
        have hk8 : (ev.kind == 8) = false := by rw [beq_eq_false_iff_ne]; exact h8
        clear hsu hea hev q0 q1 q2 q3 cc HCL h8
        go_wp2_with (at_builtin; refine wpList_append_own _ rfl _ _ 27 rfl w2.heap.size 83 j0 (.agg #[.int .i64 0, .bool false, .int .i64 0, .string ⟨#[]⟩]) 4 40 Tryz.underlying27 hj hy0 hy1 hy2 rfl (by decide) _ _ _ rfl (hown.alloc _) ⟨wr.heap.size, 0, none⟩ 1 1 (evCells ev) rfl rfl (ev_cell _ _ _ rfl) (ev_one _) (by unfold maxLen; omega) (by omega) (by simp; omega) ?_; intro v' w3 own3 grow3 _)
        go_roundw
        case rel =>
          refine ⟨k + 1, by omega, by go_num, ?_, (hbel.alloc hbs _).grown grow3 (by simp; omega) (fun b hb => (hown.lt b hb).1)⟩
          rw [HU.out, List.length_append, evCs_append, evCs_one]
          exact own3
        case measure => simp [intOf]; omega
    · have hke : k = bl.length := by omega
      subst hke
      rw [HR.out] at hown
      go_wp2
      go_ret
      exact ⟨_, rfl, Joins.ownsRow_le hown HB2.out.size, HB2.out.trans (hbel.mono HB2.out.size)⟩

end Go.Proofs.YtljcljipppjnoaaGreatDoor

namespace Go.Proofs.YtljcljipppjnoaaGreatDoor
open Go.RowKit

/-! What begins ends, the inner first: in plain words. -/
/-- How many quotes and items stand open. -/
def deepS (st : List Ev) : Nat := (st.filter fun e => decide (e.kind = 2 ∨ e.kind = 4)).length
/-- What stands open last. -/
def topK (st : List Ev) : Int := match st.getLast? with
  | some e => e.kind
  | none => -1
/-- May something of a kind begin within these? -/
def insideS (st : List Ev) (k : Int) : Bool :=
  if (k = 6 ∨ k = 7) ∧ ∃ e ∈ st, e.kind = k then false
  else if k = 4 then decide (topK st = 3 ∧ deepS st < 3)
  else if k = 6 ∨ k = 7 then decide (topK st = 0 ∨ topK st = 1 ∨ topK st = 6 ∨ topK st = 7)
  else if k = 2 ∨ k = 3 then decide ((topK st = -1 ∨ topK st = 2 ∨ topK st = 4) ∧ deepS st < 3)
  else decide (topK st = -1 ∨ topK st = 2 ∨ topK st = 4)
/-- One event: what stands open behind it. -/
def nest1 (st : List Ev) (prev : Int) (e : Ev) : Option (List Ev) :=
  if 8 ≤ e.kind then
    if st = [] ∨ e.fin = true ∨ e.level ≠ 0 ∨ (e.kind = 8 ∧ (e.text = [] ∨ prev = 8)) ∨ (2 ≤ topK st ∧ topK st ≤ 4) then none else some st
  else if e.fin = true then
    match st.getLast? with
    | some o => if o.kind = e.kind ∧ o.level = e.level then some st.dropLast else none
    | none => none
  else if ((e.kind = 1) ↔ 0 < e.level) ∧ e.level ≤ 3 ∧ 0 ≤ e.level ∧ insideS st e.kind = true then some (st ++ [e]) else none
/-- Some events: what stands open behind them. -/
def nestS (st : List Ev) (prev : Int) : List Ev → Option (List Ev)
  | [] => some st
  | e :: r => match nest1 st prev e with
    | some st' => nestS st' e.kind r
    | none => none
/-- The kind of the last one, or what was ahead. -/
def lastK (prev : Int) (l : List Ev) : Int := match l.getLast? with
  | some e => e.kind
  | none => prev

theorem last_cons (prev : Int) (e : Ev) (l : List Ev) : lastK prev (e :: l) = lastK e.kind l := by
  unfold lastK
  cases l with
  | nil => rfl
  | cons a b =>
    rw [List.getLast?_cons_cons]
    cases h : (a :: b).getLast? with
    | none => simp at h
    | some x => rfl
theorem last_app (prev : Int) (a b : List Ev) : lastK prev (a ++ b) = lastK (lastK prev a) b := by
  induction a generalizing prev with
  | nil => rfl
  | cons e a ih => rw [List.cons_append, last_cons, last_cons, ih]
theorem last_snoc' (prev : Int) (a : List Ev) (e : Ev) : lastK prev (a ++ [e]) = e.kind := by rw [last_app]; rfl
theorem nest_app (a b : List Ev) (st st' : List Ev) (prev : Int) (h : nestS st prev a = some st') : nestS st prev (a ++ b) = nestS st' (lastK prev a) b := by
  induction a generalizing st prev with
  | nil =>
    simp only [nestS, Option.some.injEq] at h
    subst h
    rfl
  | cons e a ih =>
    rw [List.cons_append, nestS, last_cons]
    rw [nestS] at h
    cases h1 : nest1 st prev e with
    | none => rw [h1] at h; cases h
    | some s1 =>
      rw [h1] at h
      exact ih s1 e.kind h
theorem nest_one (st st' : List Ev) (prev : Int) (e : Ev) (h : nest1 st prev e = some st') : nestS st prev [e] = some st' := by
  simp only [nestS, h]
theorem top_snoc (st : List Ev) (e : Ev) : topK (st ++ [e]) = e.kind := by simp [topK]
theorem deep_snoc (st : List Ev) (e : Ev) : deepS (st ++ [e]) = deepS st + if e.kind = 2 ∨ e.kind = 4 then 1 else 0 := by
  unfold deepS
  rw [List.filter_append, List.length_append]
  congr 1
  by_cases h : e.kind = 2 ∨ e.kind = 4
  · simp [h]
  · simp [h]
/-- Something with its beginning and end. -/
theorem nest_within (st : List Ev) (prev : Int) (k v : Int) (t : List UInt8) (mid : List Ev) (hk : k < 8) (hv : ((k = 1) ↔ 0 < v) ∧ v ≤ 3 ∧ 0 ≤ v) (hi : insideS st k = true) (hm : nestS (st ++ [⟨k, false, v, t⟩]) k mid = some (st ++ [⟨k, false, v, t⟩])) :
    nestS st prev ([⟨k, false, v, t⟩] ++ mid ++ [⟨k, true, v, []⟩]) = some st := by
  have h1 : nestS st prev [⟨k, false, v, t⟩] = some (st ++ [⟨k, false, v, t⟩]) := by
    apply nest_one
    unfold nest1
    rw [if_neg (by show ¬ (8 : Int) ≤ k; omega), if_neg (by simp), if_pos ⟨hv.1, hv.2.1, hv.2.2, hi⟩]
  have h2 : nestS st prev ([⟨k, false, v, t⟩] ++ mid) = some (st ++ [⟨k, false, v, t⟩]) := by rw [nest_app _ _ _ _ _ h1]; exact hm
  rw [nest_app _ _ _ _ _ h2]
  apply nest_one
  unfold nest1
  rw [if_neg (by show ¬ (8 : Int) ≤ k; omega), if_pos rfl]
  simp
theorem nest_snoc (a : List Ev) (e : Ev) (st st' : List Ev) (prev : Int) (h : nestS st prev (a ++ [e]) = some st') : ∃ s1, nestS st prev a = some s1 ∧ nest1 s1 (lastK prev a) e = some st' := by
  induction a generalizing st prev with
  | nil =>
    refine ⟨st, rfl, ?_⟩
    show nest1 st prev e = some st'
    rw [List.nil_append, nestS] at h
    cases h1 : nest1 st prev e with
    | none => rw [h1] at h; cases h
    | some s1 =>
      rw [h1] at h
      simp only [nestS] at h
      exact h
  | cons x a ih =>
    rw [List.cons_append, nestS] at h
    cases h1 : nest1 st prev x with
    | none => rw [h1] at h; cases h
    | some s1 =>
      rw [h1] at h
      obtain ⟨s2, h2, h3⟩ := ih s1 x.kind h
      refine ⟨s2, ?_, ?_⟩
      · rw [nestS, h1]; exact h2
      · rw [last_cons]; exact h3

/-! Within a leaf. -/
theorem nest_lone (st : List Ev) (prev : Int) (k : Int) (t : List UInt8) (hk : 8 ≤ k) (hst : topK st = 0 ∨ topK st = 1 ∨ topK st = 6 ∨ topK st = 7 ∨ topK st = 5) (ht : k = 8 → t ≠ [] ∧ prev ≠ 8) : nest1 st prev ⟨k, false, 0, t⟩ = some st := by
  have hne : st ≠ [] := fun h => by rw [h] at hst; simp [topK] at hst
  unfold nest1
  rw [if_pos hk, if_neg]
  rintro (h | h | h | h | h)
  · exact hne h
  · cases h
  · exact h rfl
  · rcases h.2 with h2 | h2
    · exact (ht h.1).1 h2
    · exact (ht h.1).2 h2
  · omega
theorem nest_add (st : List Ev) (prev : Int) (acc : List Ev) (t : List UInt8) (hst : topK st = 0 ∨ topK st = 1 ∨ topK st = 6 ∨ topK st = 7 ∨ topK st = 5) (ht : t ≠ []) (hp : prev ≠ 8) (h : nestS st prev acc = some st) : nestS st prev (addS acc t) = some st := by
  rcases List.eq_nil_or_concat acc with rfl | ⟨pre, e, rfl⟩
  · rw [add_nil]
    exact nest_one _ _ _ _ (nest_lone st prev 8 t (by decide) hst (fun _ => ⟨ht, hp⟩))
  · rw [List.concat_eq_append] at h ⊢
    rw [add_last]
    by_cases hk : e.kind = 8
    · rw [if_pos hk]
      obtain ⟨s1, h1, h2⟩ := nest_snoc pre e st st prev h
      rw [nest_app _ _ _ _ _ h1]
      apply nest_one
      unfold nest1 at h2 ⊢
      have h8 : (8 : Int) ≤ e.kind := by omega
      rw [if_pos h8] at h2
      simp only
      rw [if_pos h8]
      by_cases hc : s1 = [] ∨ e.fin = true ∨ e.level ≠ 0 ∨ (e.kind = 8 ∧ (e.text = [] ∨ lastK prev pre = 8)) ∨ (2 ≤ topK s1 ∧ topK s1 ≤ 4)
      · rw [if_pos hc] at h2; cases h2
      · rw [if_neg hc] at h2
        rw [if_neg]
        · exact h2
        · rintro (g | g | g | g | g)
          · exact hc (Or.inl g)
          · exact hc (Or.inr (Or.inl g))
          · exact hc (Or.inr (Or.inr (Or.inl g)))
          · rcases g.2 with g2 | g2
            · exact ht (List.append_eq_nil_iff.1 g2).2
            · exact hc (Or.inr (Or.inr (Or.inr (Or.inl ⟨hk, Or.inr g2⟩))))
          · exact hc (Or.inr (Or.inr (Or.inr (Or.inr g))))
    · rw [if_neg hk, nest_app _ _ _ _ _ h, last_snoc']
      exact nest_one _ _ _ _ (nest_lone st e.kind 8 t (by decide) hst (fun _ => ⟨ht, hk⟩))
/-- What is asked of what stands open around a part of a leaf. -/
structure Fit (st : List Ev) (l : List UInt8) (ins : Bool) : Prop where
  top : topK st = 0 ∨ topK st = 1 ∨ topK st = 6 ∨ topK st = 7
  emp : ins = false → ∀ e ∈ st, e.kind ≠ 6
  lnk : (∃ e ∈ st, e.kind = 7) → (91 : UInt8) ∉ l
theorem mem_cut (l : List UInt8) (a b : Nat) (c : UInt8) (h : c ∈ cut l a b) : c ∈ l := List.mem_of_mem_drop (List.mem_of_mem_take h)
theorem cut_free (l : List UInt8) (c : UInt8) (a b : Nat) (h : ¬ nextAt l c a < b) : c ∉ cut l a b := by
  intro hm
  unfold nextAt at h
  unfold cut at hm
  have hle : b - a ≤ ((l.drop a).takeWhile fun x => !(x == c)).length := by omega
  have hp : (l.drop a).take (b - a) = (((l.drop a).takeWhile fun x => !(x == c))).take (b - a) := by
    have h1 : (l.drop a) = ((l.drop a).takeWhile fun x => !(x == c)) ++ ((l.drop a).dropWhile fun x => !(x == c)) := List.takeWhile_append_dropWhile.symm
    conv => lhs; rw [h1]
    rw [List.take_append_of_le_length hle]
  rw [hp] at hm
  have h2 := List.mem_of_mem_take hm
  have : ∀ (p : UInt8 → Bool) (m : List UInt8) (x : UInt8), x ∈ m.takeWhile p → p x = true := by
    intro p m x hx
    induction m with
    | nil => simp at hx
    | cons y m ih =>
      rw [List.takeWhile_cons] at hx
      split at hx
      · rcases List.mem_cons.1 hx with rfl | hx
        · assumption
        · exact ih hx
      · cases hx
  have h3 := this _ _ _ h2
  simp at h3
theorem link_free (l : List UInt8) (i : Nat) (x : Nat × Nat) (h : linkS l i = some x) : (91 : UInt8) ∉ cut l (i + 1) x.1 := by
  unfold linkS at h
  split at h
  · next hc =>
    cases h
    exact cut_free l 91 (i + 1) _ hc.2.1
  · cases h
theorem nest_five (st : List Ev) (l : List UInt8) (ins : Bool) (h : Fit st l ins) : topK st = 0 ∨ topK st = 1 ∨ topK st = 6 ∨ topK st = 7 ∨ topK st = 5 := by
  rcases h.top with h | h | h | h
  · exact Or.inl h
  · exact Or.inr (Or.inl h)
  · exact Or.inr (Or.inr (Or.inl h))
  · exact Or.inr (Or.inr (Or.inr (Or.inl h)))
theorem inside67 (st : List Ev) (l : List UInt8) (ins : Bool) (h : Fit st l ins) (k : Int) (hk : k = 6 ∨ k = 7) (hn : ∀ e ∈ st, e.kind ≠ k) : insideS st k = true := by
  unfold insideS
  rw [if_neg (fun hh => by obtain ⟨e, he, hek⟩ := hh.2; exact hn e he hek), if_neg (by omega), if_pos hk]
  simpa using h.top
/-- What begins at a place of a leaf. -/
theorem nest_step (inner : List UInt8 → Bool → List Ev) (hI : ∀ l ins st prev, Fit st l ins → prev ≠ 8 → nestS st prev (inner l ins) = some st) (st : List Ev) (prev : Int) (l : List UInt8) (ins : Bool) (i : Nat) (acc : List Ev) (hf : Fit st l ins) (hp : prev ≠ 8) (h : nestS st prev acc = some st) (hz : (oneS inner l i ins).2 ≠ 0) : nestS st prev (glue acc (oneS inner l i ins).1) = some st := by
  have h5 := nest_five st l ins hf
  have hlone : ∀ k t, 8 ≤ k → k ≠ 8 → nestS st prev (glue acc [⟨k, false, 0, t⟩]) = some st := by
    intro k t h8 hk
    have : glue acc [⟨k, false, 0, t⟩] = acc ++ [⟨k, false, 0, t⟩] := by simp [glue, hk]
    rw [this, nest_app _ _ _ _ _ h]
    exact nest_one _ _ _ _ (nest_lone st _ k t h8 h5 (fun hh => absurd hh hk))
  have hmany : ∀ m : List Ev, 2 ≤ m.length → nestS st (lastK prev acc) m = some st → nestS st prev (glue acc m) = some st := by
    intro m hm hn
    have : glue acc m = acc ++ m := by
      unfold glue
      split
      · simp at hm
      · rfl
    rw [this, nest_app _ _ _ _ _ h]
    exact hn
  unfold oneS at hz ⊢
  by_cases c1 : l[i]? = some 92
  · rw [if_pos c1] at hz ⊢
    by_cases d1 : l[i + 1]? = some 10
    · rw [if_pos d1]
      exact hlone 11 [] (by decide) (by decide)
    · rw [if_neg d1] at hz ⊢
      by_cases d2 : l[i + 1]?.map signS = some true
      · rw [if_pos d2]
        show nestS st prev (glue acc [⟨8, false, 0, cut l (i + 1) (i + 2)⟩]) = some st
        have hlt : i + 1 < l.length := by
          cases hh : l[i + 1]? with
          | none => rw [hh] at d2; cases d2
          | some c => exact (List.getElem?_eq_some_iff.1 hh).1
        have hne : cut l (i + 1) (i + 2) ≠ [] := fun h0 => by
          have := cut_len l (i + 1) (i + 2) (by omega)
          rw [h0] at this
          simp at this
        have hg : glue acc [⟨8, false, 0, cut l (i + 1) (i + 2)⟩] = addS acc (cut l (i + 1) (i + 2)) := by simp [glue]
        rw [hg]
        exact nest_add st prev acc _ h5 hne hp h
      · rw [if_neg d2] at hz
        exact absurd rfl hz
  rw [if_neg c1] at hz ⊢
  by_cases c2 : l[i]? = some 10
  · rw [if_pos c2]
    exact hlone 10 [] (by decide) (by decide)
  rw [if_neg c2] at hz ⊢
  by_cases c3 : l[i]? = some 96
  · rw [if_pos c3] at hz ⊢
    by_cases d1 : nextAt l 96 (i + 1) < l.length
    · rw [if_pos d1]
      exact hlone 9 _ (by decide) (by decide)
    · rw [if_neg d1] at hz
      exact absurd rfl hz
  rw [if_neg c3] at hz ⊢
  by_cases c4 : l[i]? = some 91
  · rw [if_pos c4] at hz ⊢
    have hno7 : ∀ e ∈ st, e.kind ≠ 7 := fun e he hk => hf.lnk ⟨e, he, hk⟩ (List.mem_of_getElem? c4)
    cases hl : linkS l i with
    | none => rw [hl] at hz; exact absurd rfl hz
    | some x =>
      simp only
      refine hmany _ (by simp) (nest_within st _ 7 0 _ _ (by decide) ⟨by decide, by decide, by decide⟩ (inside67 st l ins hf 7 (Or.inr rfl) hno7) ?_)
      refine hI _ ins _ 7 ⟨?_, ?_, ?_⟩ (by decide)
      · rw [top_snoc]; exact Or.inr (Or.inr (Or.inr rfl))
      · intro hi e he
        rcases List.mem_append.1 he with he | he
        · exact hf.emp hi e he
        · simp at he; subst he; show (7 : Int) ≠ 6; decide
      · intro _
        exact link_free l i x hl
  rw [if_neg c4] at hz ⊢
  by_cases c5 : l[i]? = some 42
  · rw [if_pos c5] at hz ⊢
    cases ins with
    | true => exact absurd rfl hz
    | false =>
      rw [if_neg (by simp)] at hz ⊢
      cases hpn : partnerS l i with
      | none => rw [hpn] at hz; exact absurd rfl hz
      | some j =>
        simp only
        refine hmany _ (by simp) (nest_within st _ 6 0 _ _ (by decide) ⟨by decide, by decide, by decide⟩ (inside67 st l false hf 6 (Or.inl rfl) (hf.emp rfl)) ?_)
        refine hI _ true _ 6 ⟨?_, ?_, ?_⟩ (by decide)
        · rw [top_snoc]; exact Or.inr (Or.inr (Or.inl rfl))
        · intro hi; cases hi
        · rintro ⟨e, he, hk⟩ hm
          rcases List.mem_append.1 he with he | he
          · exact hf.lnk ⟨e, he, hk⟩ (mem_cut l _ _ _ hm)
          · simp at he; subst he; exact absurd hk (by show (6 : Int) ≠ 7; decide)
  rw [if_neg c5] at hz
  exact absurd rfl hz
theorem nest_from (inner : List UInt8 → Bool → List Ev) (hI : ∀ l ins st prev, Fit st l ins → prev ≠ 8 → nestS st prev (inner l ins) = some st) (st : List Ev) (prev : Int) (l : List UInt8) (ins : Bool) (i : Nat) (acc : List Ev) (hf : Fit st l ins) (hp : prev ≠ 8) (h : nestS st prev acc = some st) : nestS st prev (inlFrom inner l ins i acc) = some st := by
  induction hm : l.length - i using Nat.strongRecOn generalizing i acc with
  | _ m ih =>
    rw [inlFrom]
    by_cases hi : i < l.length
    · rw [dif_pos hi]
      by_cases hz : (oneS inner l i ins).2 = 0
      · rw [if_pos hz]
        have hne : cut l i (i + 1) ≠ [] := fun h0 => by
          have := cut_len l i (i + 1) (by omega)
          rw [h0] at this
          simp at this
        exact ih _ (by omega) _ _ (nest_add st prev acc _ (nest_five st l ins hf) hne hp h) rfl
      · rw [if_neg hz]
        exact ih _ (by omega) _ _ (nest_step inner hI st prev l ins i acc hf hp h hz) rfl
    · rw [dif_neg hi]
      exact h
theorem nest_inl (f : Nat) : ∀ l ins st prev, Fit st l ins → prev ≠ 8 → nestS st prev (inlineF f l ins) = some st := by
  induction f with
  | zero => intro l ins st prev _ _; rfl
  | succ f ih => intro l ins st prev hf hp; exact nest_from (inlineF f) ih st prev l ins 0 [] hf hp rfl

/-! Blocks, with what stands in their leaves. -/
def expS (p : Option Int) : List Ev → List Ev
  | [] => []
  | e :: r => (if e.kind = 8 ∧ p ≠ some 5 then inlineS e.text false else [e]) ++ expS (some e.kind) r
def lastO (p : Option Int) (l : List Ev) : Option Int := match l.getLast? with
  | some e => some e.kind
  | none => p
theorem lastO_cons (p : Option Int) (e : Ev) (l : List Ev) : lastO p (e :: l) = lastO (some e.kind) l := by
  unfold lastO
  cases l with
  | nil => rfl
  | cons a b =>
    rw [List.getLast?_cons_cons]
    cases h : (a :: b).getLast? with
    | none => simp at h
    | some x => rfl
theorem exp_app (p : Option Int) (a b : List Ev) : expS p (a ++ b) = expS p a ++ expS (lastO p a) b := by
  induction a generalizing p with
  | nil => rfl
  | cons e a ih => rw [List.cons_append, expS, expS, lastO_cons, ih, List.append_assoc]
theorem exp_ne (p : Option Int) (e : Ev) (r : List Ev) (h : e.kind ≠ 8) : expS p (e :: r) = e :: expS (some e.kind) r := by
  rw [expS, if_neg (fun x => h x.1)]
  rfl
theorem evAt_exp (a b : List Ev) (e : Ev) (h : a ≠ [] ∨ True) : evAt (a ++ e :: b) a.length = if e.kind = 8 ∧ lastO none a ≠ some 5 then inlineS e.text false else [e] := by
  have hat : (a ++ e :: b)[a.length]? = some e := by simp
  unfold evAt
  rw [hat]
  simp only
  rcases List.eq_nil_or_concat a with rfl | ⟨pre, x, rfl⟩
  · have h0 : lastO none ([] : List Ev) = none := rfl
    rw [h0]
    by_cases hk : e.kind = 8
    · rw [if_pos ⟨hk, by simp [hk]⟩, if_pos ⟨hk, by simp⟩]
    · rw [if_neg (fun hh => hk hh.1), if_neg (fun hh => hk hh.1)]
  · rw [List.concat_eq_append]
    have h1 : lastO none (pre ++ [x]) = some x.kind := by simp [lastO]
    have h2 : (pre ++ [x] ++ e :: b)[(pre ++ [x]).length - 1]? = some x := by simp
    rw [h1, h2]
    rfl
theorem range_exp (b a : List Ev) : (List.range' a.length b.length).flatMap (evAt (a ++ b)) = expS (lastO none a) b := by
  induction b generalizing a with
  | nil => rfl
  | cons e b ih =>
    rw [List.length_cons, List.range'_succ, List.flatMap_cons, evAt_exp a b e (Or.inr trivial), expS]
    have h1 := ih (a ++ [e])
    rw [List.length_append, List.length_singleton, List.append_assoc, List.singleton_append] at h1
    rw [h1]
    congr 2
    simp [lastO]
theorem events_exp (t : List UInt8) : eventsS t = expS none (blocksAt 3 (linesL [] t)) := by
  have h := range_exp (blocksAt 3 (linesL [] t)) []
  rw [List.nil_append, List.length_nil] at h
  unfold eventsS evUpto
  rw [List.range_eq_range']
  exact h

/-- These blocks stand well within what stands open. -/
def Good (st : List Ev) (l : List Ev) : Prop := ∀ p prev, nestS st prev (expS p l) = some st
theorem good_nil (st : List Ev) : Good st [] := fun _ _ => rfl
theorem good_app {st a b : List Ev} (ha : Good st a) (hb : Good st b) : Good st (a ++ b) := fun p prev => by
  rw [exp_app, nest_app _ _ _ _ _ (ha p prev)]
  exact hb _ _
theorem good_within (st : List Ev) (k v : Int) (mid : List Ev) (hk : k < 8) (hv : ((k = 1) ↔ 0 < v) ∧ v ≤ 3 ∧ 0 ≤ v) (hi : insideS st k = true) (hm : Good (st ++ [⟨k, false, v, []⟩]) mid) : Good st ([⟨k, false, v, []⟩] ++ mid ++ [⟨k, true, v, []⟩]) := by
  intro p prev
  have hk8 : k ≠ 8 := by omega
  have e1 : expS p ([⟨k, false, v, []⟩] ++ mid ++ [⟨k, true, v, []⟩]) = [⟨k, false, v, []⟩] ++ expS (some k) mid ++ [⟨k, true, v, []⟩] := by
    rw [List.append_assoc, List.singleton_append, exp_ne _ _ _ hk8, exp_app, exp_ne _ _ _ hk8]
    rfl
  rw [e1]
  exact nest_within st prev k v [] _ hk hv hi (hm _ _)
theorem good_leaf (st : List Ev) (k v : Int) (t : List UInt8) (hk : k = 0 ∨ k = 1 ∨ k = 5) (hv : ((k = 1) ↔ 0 < v) ∧ v ≤ 3 ∧ 0 ≤ v) (hi : insideS st k = true) (hno : ∀ e ∈ st, e.kind ≠ 6 ∧ e.kind ≠ 7) : Good st (leafS k v t) := by
  intro p prev
  have hk8 : k ≠ 8 := by omega
  unfold leafS
  by_cases ht : t = []
  · rw [if_pos ht, List.append_nil]
    have e1 : expS p ([⟨k, false, v, []⟩] ++ [⟨k, true, v, []⟩]) = [⟨k, false, v, []⟩] ++ [] ++ [⟨k, true, v, []⟩] := by
      rw [List.singleton_append, exp_ne _ _ _ hk8, exp_ne _ _ _ hk8]
      rfl
    rw [e1]
    exact nest_within st prev k v [] [] (by omega) hv hi rfl
  · rw [if_neg ht]
    by_cases h5 : k = 5
    · have e1 : expS p ([⟨k, false, v, []⟩] ++ [⟨8, false, 0, t⟩] ++ [⟨k, true, v, []⟩]) = [⟨k, false, v, []⟩] ++ [⟨8, false, 0, t⟩] ++ [⟨k, true, v, []⟩] := by
        rw [List.append_assoc, List.singleton_append, exp_ne _ _ _ hk8, List.singleton_append, expS, if_neg (fun h => h.2 (by rw [h5])), exp_ne _ _ _ hk8]
        rfl
      rw [e1]
      refine nest_within st prev k v [] _ (by omega) hv hi (nest_one _ _ _ _ (nest_lone _ _ 8 t (by decide) ?_ (fun _ => ⟨ht, hk8⟩)))
      rw [top_snoc]
      exact Or.inr (Or.inr (Or.inr (Or.inr h5)))
    · have e1 : expS p ([⟨k, false, v, []⟩] ++ [⟨8, false, 0, t⟩] ++ [⟨k, true, v, []⟩]) = [⟨k, false, v, []⟩] ++ inlineS t false ++ [⟨k, true, v, []⟩] := by
        rw [List.append_assoc, List.singleton_append, exp_ne _ _ _ hk8, List.singleton_append, expS, if_pos ⟨rfl, fun h => h5 (Option.some.inj h)⟩, exp_ne _ _ _ hk8, List.append_assoc]
        rfl
      rw [e1]
      refine nest_within st prev k v [] _ (by omega) hv hi (nest_inl _ t false _ k ⟨?_, ?_, ?_⟩ hk8)
      · rw [top_snoc]
        rcases hk with h | h | h
        · exact Or.inl h
        · exact Or.inr (Or.inl h)
        · exact absurd h h5
      · intro _ e he
        rcases List.mem_append.1 he with he | he
        · exact (hno e he).1
        · simp at he; subst he; show k ≠ 6; omega
      · rintro ⟨e, he, hk7⟩
        rcases List.mem_append.1 he with he | he
        · exact absurd hk7 (hno e he).2
        · simp at he; subst he; exact absurd hk7 (by show k ≠ 7; omega)
/-- What is asked of what stands open around blocks with d levels left. -/
structure Room (st : List Ev) (d : Nat) : Prop where
  top : topK st = -1 ∨ topK st = 2 ∨ topK st = 4
  deep : deepS st + d ≤ 3
  no : ∀ e ∈ st, e.kind ≠ 6 ∧ e.kind ≠ 7
theorem room_leaf (st : List Ev) (d : Nat) (h : Room st d) (k : Int) (hk : k = 0 ∨ k = 1 ∨ k = 5) : insideS st k = true := by
  unfold insideS
  rw [if_neg (fun x => by omega), if_neg (by omega), if_neg (by omega), if_neg (by omega)]
  simpa using h.top
theorem room_two (st : List Ev) (d : Nat) (h : Room st (d + 1)) (k : Int) (hk : k = 2 ∨ k = 3) : insideS st k = true := by
  unfold insideS
  rw [if_neg (fun x => by omega), if_neg (by omega), if_neg (by omega), if_pos hk]
  have := h.deep
  simp only [decide_eq_true_eq]
  exact ⟨h.top, by omega⟩
theorem good_items (inner : List (List UInt8) → List Ev) (st : List Ev) (d : Nat) (hr : Room st (d + 1)) (hI : ∀ s ls, Room s d → Good s (inner ls)) (ls : List (List UInt8)) (n : Nat) : Good (st ++ [⟨3, false, 0, []⟩]) (itemsAt inner ls n).1 := by
  induction hm : ls.length - n using Nat.strongRecOn generalizing n with
  | _ m ih =>
    have hdeep := hr.deep
    have hev : Good (st ++ [⟨3, false, 0, []⟩]) (itemEv inner ls n) := by
      have h3 : deepS (st ++ [⟨3, false, 0, []⟩]) = deepS st := by rw [deep_snoc]; simp
      refine good_within _ 4 0 _ (by decide) ⟨by decide, by decide, by decide⟩ ?_ (hI _ _ ⟨?_, ?_, ?_⟩)
      · unfold insideS
        rw [if_neg (fun x => by omega), if_pos rfl]
        simp only [decide_eq_true_eq]
        rw [top_snoc, h3]
        exact ⟨rfl, by omega⟩
      · rw [top_snoc]; exact Or.inr (Or.inr rfl)
      · rw [deep_snoc, h3]; simp; omega
      · intro e he
        rcases List.mem_append.1 he with he | he
        · rcases List.mem_append.1 he with he | he
          · exact hr.no e he
          · simp at he; subst he; exact ⟨by decide, by decide⟩
        · simp at he; subst he; exact ⟨by decide, by decide⟩
    have hge := behind_ge ls (moreAt ls (n + 1)).2
    have hmg := more_ge ls (n + 1)
    by_cases h : behindS ls (moreAt ls (n + 1)).2 < ls.length
    · cases h2 : itemL ls[behindS ls (moreAt ls (n + 1)).2] with
      | true =>
        rw [items_go inner ls n _ rfl h h2]
        exact good_app hev (ih _ (by omega) _ rfl)
      | false => rw [items_no inner ls n _ rfl h h2]; exact hev
    · rw [items_end inner ls n _ rfl h]; exact hev
theorem starts_deep (s : ByteArray) (depth : Int) (h : startsS s depth = 4 ∨ startsS s depth = 5) : depth < 3 := by
  unfold startsS at h
  by_cases c1 : beginsS s ⟨#[96, 96, 96]⟩ = true
  · rw [if_pos c1] at h; omega
  rw [if_neg c1] at h
  by_cases c2 : 0 < levelS s
  · rw [if_pos c2] at h; omega
  rw [if_neg c2] at h
  by_cases c3 : beginsS s ⟨#[62]⟩ = true ∧ depth < 3
  · exact c3.2
  rw [if_neg c3] at h
  by_cases c4 : itemS s = true ∧ depth < 3
  · exact c4.2
  rw [if_neg c4] at h
  omega
theorem starts_level (s : ByteArray) (depth : Int) (h : startsS s depth = 3) : 0 < levelS s := by
  unfold startsS at h
  by_cases c1 : beginsS s ⟨#[96, 96, 96]⟩ = true
  · rw [if_pos c1] at h; omega
  rw [if_neg c1] at h
  by_cases c2 : 0 < levelS s
  · exact c2
  rw [if_neg c2] at h
  by_cases c3 : beginsS s ⟨#[62]⟩ = true ∧ depth < 3
  · rw [if_pos c3] at h; omega
  rw [if_neg c3] at h
  by_cases c4 : itemS s = true ∧ depth < 3
  · rw [if_pos c4] at h; omega
  rw [if_neg c4] at h
  omega
theorem level_three (s : ByteArray) : levelS s ≤ 3 := by
  unfold levelS
  split <;> omega
/-- One block. -/
theorem good_step (inner : List (List UInt8) → List Ev) (st : List Ev) (d : Nat) (depth : Int) (hd : depth + (d : Int) = 3) (hr : Room st d) (hI : ∀ d', d = d' + 1 → ∀ s ls, Room s d' → Good s (inner ls)) (l : List UInt8) (r : List (List UInt8)) : Good st (stepS inner depth l (l :: r)).1 := by
  have z0 : (((0 : Int) = 1) ↔ (0 : Int) < 0) ∧ (0 : Int) ≤ 3 ∧ (0 : Int) ≤ 0 := ⟨by decide, by decide, by decide⟩
  unfold stepS
  by_cases c2 : startsS ⟨l.toArray⟩ depth = 2
  · rw [if_pos c2]
    exact good_leaf st 5 0 _ (Or.inr (Or.inr rfl)) ⟨by decide, by decide, by decide⟩ (room_leaf st d hr 5 (Or.inr (Or.inr rfl))) hr.no
  rw [if_neg c2]
  by_cases c3 : startsS ⟨l.toArray⟩ depth = 3
  · rw [if_pos c3]
    have h1 := starts_level _ _ c3
    have h2 := level_three ⟨l.toArray⟩
    exact good_leaf st 1 (levelL l) _ (Or.inr (Or.inl rfl)) ⟨⟨fun _ => by unfold levelL; omega, fun _ => rfl⟩, by unfold levelL; omega, by omega⟩ (room_leaf st d hr 1 (Or.inr (Or.inl rfl))) hr.no
  rw [if_neg c3]
  by_cases c4 : startsS ⟨l.toArray⟩ depth = 4
  · rw [if_pos c4]
    have hlt := starts_deep _ _ (Or.inl c4)
    obtain ⟨d', rfl⟩ : ∃ d', d = d' + 1 := ⟨d - 1, by omega⟩
    have hdeep := hr.deep
    refine good_within st 2 0 _ (by decide) ⟨by decide, by decide, by decide⟩ (room_two st d' hr 2 (Or.inl rfl)) (hI d' rfl _ _ ⟨?_, ?_, ?_⟩)
    · rw [top_snoc]; exact Or.inr (Or.inl rfl)
    · rw [deep_snoc]; simp; omega
    · intro e he
      rcases List.mem_append.1 he with he | he
      · exact hr.no e he
      · simp at he; subst he; exact ⟨by decide, by decide⟩
  rw [if_neg c4]
  by_cases c5 : startsS ⟨l.toArray⟩ depth = 5
  · rw [if_pos c5]
    have hlt := starts_deep _ _ (Or.inr c5)
    obtain ⟨d', rfl⟩ : ∃ d', d = d' + 1 := ⟨d - 1, by omega⟩
    exact good_within st 3 0 _ (by decide) ⟨by decide, by decide, by decide⟩ (room_two st d' hr 3 (Or.inr rfl)) (good_items inner st d' hr (hI d' rfl) _ 0)
  rw [if_neg c5]
  exact good_leaf st 0 0 _ (Or.inl rfl) z0 (room_leaf st d hr 0 (Or.inl rfl)) hr.no
theorem good_blocks (inner : List (List UInt8) → List Ev) (st : List Ev) (d : Nat) (depth : Int) (hd : depth + (d : Int) = 3) (hr : Room st d) (hI : ∀ d', d = d' + 1 → ∀ s ls, Room s d' → Good s (inner ls)) (ls : List (List UInt8)) : Good st (blocksF inner depth ls) := by
  induction hm : ls.length using Nat.strongRecOn generalizing ls with
  | _ m ih =>
    cases ls with
    | nil => rw [blocksF]; exact good_nil st
    | cons l r =>
      rw [blocksF]
      rw [List.length_cons] at hm
      split
      · exact ih r.length (by omega) r rfl
      · have s1 := good_step inner st d depth hd hr hI l r
        generalize stepS inner depth l (l :: r) = X at s1
        have hdl : (r.drop (X.2 - 1)).length ≤ r.length := by rw [List.length_drop]; omega
        exact good_app s1 (ih (r.drop (X.2 - 1)).length (by omega) _ rfl)
theorem good_at (d : Nat) (hd : d ≤ 3) (st : List Ev) (ls : List (List UInt8)) (hr : Room st d) : Good st (blocksAt d ls) := by
  induction d generalizing st ls with
  | zero => exact good_blocks (fun _ => []) st 0 3 (by decide) hr (fun d' h => by omega) ls
  | succ d ih =>
    exact good_blocks (blocksAt d) st (d + 1) (2 - (d : Int)) (by omega) hr (fun d' h s ls hs => by
      have : d' = d := by omega
      subst this
      exact ih (by omega) s ls hs) ls
/-- The document's events nest. -/
theorem nest_events (t : List UInt8) : nestS [] (-1) (eventsS t) = some [] := by
  rw [events_exp]
  exact good_at 3 (Nat.le_refl _) [] _ ⟨Or.inl rfl, by decide, fun e he => by cases he⟩ none (-1)

end Go.Proofs.YtljcljipppjnoaaGreatDoor

namespace Go.Proofs.YtljcljipppjnoaaGreatDoor
open Go.RowKit

/-! How many events a text has at most. -/
def cost (l : List Ev) : Nat := (l.map fun e => 1 + 2 * e.text.length).sum
theorem cost_app (a b : List Ev) : cost (a ++ b) = cost a + cost b := by simp [cost]
theorem cost_cons (e : Ev) (r : List Ev) : cost (e :: r) = 1 + 2 * e.text.length + cost r := by simp [cost]
theorem cost_exp (p : Option Int) (l : List Ev) : (expS p l).length ≤ cost l := by
  induction l generalizing p with
  | nil => exact Nat.le_refl _
  | cons e r ih =>
    rw [expS, List.length_append, cost_cons]
    have h1 := ih (some e.kind)
    have h2 := (inlF_facts (e.text.length + 1)).1 e.text false
    have h3 : (if e.kind = 8 ∧ p ≠ some 5 then inlineS e.text false else [e]).length ≤ 1 + 2 * e.text.length := by
      split
      · unfold inlineS; omega
      · simp
    omega
theorem cost_leaf (k v : Int) (t : List UInt8) : cost (leafS k v t) ≤ 3 + 2 * t.length := by
  unfold leafS
  split <;> simp [cost] <;> omega
theorem tot_more2 (ls : List (List UInt8)) (n : Nat) (hn : n ≤ ls.length) : tot (moreAt ls n).1 + tot (ls.drop (moreAt ls n).2) ≤ tot (ls.drop n) := by
  induction hm : ls.length - n using Nat.strongRecOn generalizing n with
  | _ m ih =>
    have hge := behind_ge ls n
    by_cases h : behindS ls n < ls.length
    · cases h2 : two ls[behindS ls n] with
      | true =>
        have a := ih (ls.length - (behindS ls n + 1)) (by omega) (behindS ls n + 1) (by omega) rfl
        rw [more_go ls n _ rfl h h2, tot_append, tot_rep, tot_cons]
        generalize behindS ls n = k at h a hge ⊢
        have e1 : ls.drop n = (ls.drop n).take (k - n) ++ ls[k] :: ls.drop (k + 1) := by
          have := List.take_append_drop (k - n) (ls.drop n)
          rw [List.drop_drop, show n + (k - n) = k by omega, List.drop_eq_getElem_cons h] at this
          exact this.symm
        rw [e1, tot_append, tot_cons]
        have h3 := tot_len ((ls.drop n).take (k - n))
        rw [List.length_take, List.length_drop] at h3
        have h4 : (ls[k].drop 2).length ≤ ls[k].length := by rw [List.length_drop]; omega
        simp only
        omega
      | false =>
        rw [more_no ls n _ rfl h h2]
        simp [tot_nil]
    · rw [more_end ls n _ rfl h]
      simp [tot_nil]
theorem tot_drops (ls : List (List UInt8)) {j k : Nat} (h : j ≤ k) : tot (ls.drop k) ≤ tot (ls.drop j) := by
  have e : ls.drop k = (ls.drop j).drop (k - j) := by rw [List.drop_drop, show j + (k - j) = k by omega]
  rw [e]
  exact tot_drop _ _
theorem item_some {l : List UInt8} (h : itemL l = true) : 1 ≤ l.length := by
  cases l with
  | nil => exact absurd (show itemS ⟨#[]⟩ = true from h) (by decide +kernel)
  | cons c r => simp
theorem tot_item2 (ls : List (List UInt8)) (n : Nat) (hn : n < ls.length) (hi : itemL ls[n] = true) : tot (itemIn ls n) + 1 + tot (ls.drop (moreAt ls (n + 1)).2) ≤ tot (ls.drop n) := by
  have h1 := tot_more2 ls (n + 1) (by omega)
  have h2 := item_some hi
  rw [List.drop_eq_getElem_cons hn, tot_cons]
  rw [itemIn, tot_cons, List.getElem?_eq_getElem hn, Option.getD_some, List.length_drop]
  omega
theorem cost_items (inner : List (List UInt8) → List Ev) (hI : ∀ ls, cost (inner ls) ≤ 4 * tot ls) (ls : List (List UInt8)) (n : Nat) (hn : n < ls.length) (hi : itemL ls[n] = true) : cost (itemsAt inner ls n).1 + 2 + 4 * tot (ls.drop (itemsAt inner ls n).2) ≤ 4 * tot (ls.drop n) := by
  induction hm : ls.length - n using Nat.strongRecOn generalizing n with
  | _ m ih =>
    have hev : cost (itemEv inner ls n) ≤ 2 + 4 * tot (itemIn ls n) := by
      have := hI (itemIn ls n)
      rw [itemEv, cost_app, cost_app]
      simp [cost] at *
      omega
    have hti := tot_item2 ls n hn hi
    have hge := behind_ge ls (moreAt ls (n + 1)).2
    have hmg := more_ge ls (n + 1)
    by_cases h : behindS ls (moreAt ls (n + 1)).2 < ls.length
    · cases h2 : itemL ls[behindS ls (moreAt ls (n + 1)).2] with
      | true =>
        have a := ih _ (by omega) _ h h2 rfl
        have b := tot_drops ls hge
        rw [items_go inner ls n _ rfl h h2]
        simp only [cost_app]
        omega
      | false => rw [items_no inner ls n _ rfl h h2]; simp only; omega
    · rw [items_end inner ls n _ rfl h]; simp only; omega
theorem blank_some {l : List UInt8} (h : ¬ blankL l = true) : 1 ≤ l.length := by
  cases l with
  | nil => exact absurd rfl h
  | cons c r => simp
theorem q_some {l : List UInt8} (h : isQ l = true) : (unq l).length + 1 ≤ l.length := by
  cases l with
  | nil => exact absurd h (by decide)
  | cons c r =>
    show (unq1 r).length + 1 ≤ r.length + 1
    cases r with
    | nil => exact Nat.le_refl _
    | cons d s =>
      show (if d == 32 then s else d :: s).length + 1 ≤ _
      split <;> simp
theorem tot_unq (ls : List (List UInt8)) (h : ∀ l ∈ ls, isQ l = true) : tot (ls.map unq) + ls.length ≤ tot ls := by
  induction ls with
  | nil => exact Nat.le_refl _
  | cons l r ih =>
    rw [List.map_cons, tot_cons, tot_cons, List.length_cons]
    have h1 := q_some (h l (by simp))
    have h2 := ih (fun l hl => h l (by simp [hl]))
    omega
theorem tot_quote2 (ls : List (List UInt8)) : tot (quoteIn ls) + quoteN ls ≤ tot (ls.take (quoteN ls)) := by
  have hq : quoteN ls = (ls.takeWhile isQ).length := by simp [quoteN, scan]
  have ht : ls.take (quoteN ls) = ls.takeWhile isQ := by
    rw [hq]
    have h := List.takeWhile_append_dropWhile (p := isQ) (l := ls)
    generalize List.takeWhile isQ ls = a at h
    rw [← h, List.take_left' rfl]
  unfold quoteIn
  rw [ht, hq]
  exact tot_unq _ (fun l hl => by have := List.all_takeWhile (p := isQ) (l := ls); exact List.all_eq_true.1 this l hl)
theorem cost_step (inner : List (List UInt8) → List Ev) (hI : ∀ ls, cost (inner ls) ≤ 4 * tot ls) (depth : Int) (l : List UInt8) (r : List (List UInt8)) (hb : ¬ blankL l = true) : cost (stepS inner depth l (l :: r)).1 + 4 * tot ((l :: r).drop (stepS inner depth l (l :: r)).2) ≤ 4 * tot (l :: r) := by
  have hl := blank_some hb
  unfold stepS
  split
  · have h1 := cost_leaf 5 0 (fencedT (l :: r))
    have h0 : (fencedT (l :: r)).length = tot (((l :: r).take (shutAt (l :: r) 1)).drop 1) := by rw [fencedT, codeOf_len]
    rw [h0] at h1
    have h2 : tot (((l :: r).take (shutAt (l :: r) 1)).drop 1) + 1 ≤ tot ((l :: r).take (shutAt (l :: r) 1)) := by
      have : 1 ≤ shutAt (l :: r) 1 := by unfold shutAt; omega
      obtain ⟨k, hk⟩ : ∃ k, shutAt (l :: r) 1 = k + 1 := ⟨shutAt (l :: r) 1 - 1, by omega⟩
      rw [hk, List.take_succ_cons, List.drop_succ_cons, List.drop_zero, tot_cons]
      omega
    have h3 : tot ((l :: r).drop (fencedN (l :: r))) ≤ tot ((l :: r).drop (shutAt (l :: r) 1)) := by
      unfold fencedN
      split
      · exact tot_drops _ (by omega)
      · rw [List.drop_length]; exact Nat.zero_le _
    have h4 := tot_split (l :: r) (shutAt (l :: r) 1)
    simp only
    omega
  split
  · have h1 := cost_leaf 1 (levelL l) (trimL (l.drop (levelL l)))
    have h2 := trimL_le (l.drop (levelL l))
    rw [List.length_drop] at h2
    simp only [List.drop_succ_cons, List.drop_zero]
    rw [tot_cons]
    omega
  split
  · rename_i h4
    have h1 := hI (quoteIn (l :: r))
    have h2 := tot_quote2 (l :: r)
    have h3 := tot_split (l :: r) (quoteN (l :: r))
    have h5 : 1 ≤ quoteN (l :: r) := by
      have hq := begins_q l (starts4 _ _ h4).1
      simp [quoteN, scan, hq]
    have h6 : cost (quoteS inner (l :: r)) ≤ 2 + cost (inner (quoteIn (l :: r))) := by
      rw [quoteS, cost_app, cost_app]
      simp [cost]
      omega
    simp only
    omega
  split
  · rename_i h5
    have h1 := cost_items inner hI (l :: r) 0 (by simp) (by simpa [itemL] using (starts5 _ _ h5).1)
    have h6 : cost (listS inner (l :: r)) ≤ 2 + cost (itemsAt inner (l :: r) 0).1 := by
      rw [listS, cost_app, cost_app]
      simp [cost]
      omega
    rw [List.drop_zero] at h1
    simp only [listN]
    omega
  · have h1 := cost_leaf 0 0 (joinT ((l :: r).take (paraFrom (l :: r) depth 1)))
    have h2 := joinT_len ((l :: r).take (paraFrom (l :: r) depth 1))
    have h3 := tot_split (l :: r) (paraFrom (l :: r) depth 1)
    have h4 : 2 ≤ tot ((l :: r).take (paraFrom (l :: r) depth 1)) := by
      obtain ⟨k, hk⟩ : ∃ k, paraFrom (l :: r) depth 1 = k + 1 := ⟨paraFrom (l :: r) depth 1 - 1, by unfold paraFrom; omega⟩
      rw [hk, List.take_succ_cons, tot_cons]
      omega
    simp only
    omega
theorem cost_blocks (inner : List (List UInt8) → List Ev) (c : Nat) (hc : ∀ ls, (inner ls).length ≤ c * ls.length) (hI : ∀ ls, cost (inner ls) ≤ 4 * tot ls) (depth : Int) (ls : List (List UInt8)) : cost (blocksF inner depth ls) ≤ 4 * tot ls := by
  induction hm : ls.length using Nat.strongRecOn generalizing ls with
  | _ m ih =>
    cases ls with
    | nil => simp [blocksF, cost]
    | cons l r =>
      rw [blocksF]
      rw [List.length_cons] at hm
      split
      · have := ih r.length (by omega) r rfl
        rw [tot_cons]
        omega
      · rename_i hb
        have h1 := cost_step inner hI depth l r hb
        have h2 := (step_facts inner c depth hc l r).1
        generalize stepS inner depth l (l :: r) = X at h1 h2
        have hd : (r.drop (X.2 - 1)).length ≤ r.length := by rw [List.length_drop]; omega
        have h3 := ih (r.drop (X.2 - 1)).length (by omega) _ rfl
        have e : (l :: r).drop X.2 = r.drop (X.2 - 1) := by
          obtain ⟨k, hk⟩ : ∃ k, X.2 = k + 1 := ⟨X.2 - 1, by omega⟩
          rw [hk, List.drop_succ_cons]
          rfl
        rw [e] at h1
        rw [cost_app]
        omega
theorem cost_at (d : Nat) (ls : List (List UInt8)) : cost (blocksAt d ls) ≤ 4 * tot ls := by
  induction d generalizing ls with
  | zero => exact cost_blocks (fun _ => []) 0 (fun _ => by simp) (fun _ => by simp [cost]) 3 ls
  | succ d ih => exact cost_blocks (blocksAt d) _ (fun ls => blocksAt_le d ls) ih (2 - (d : Int)) ls
theorem events_len (t : List UInt8) : (eventsS t).length ≤ 4 * (t.length + 1) := by
  rw [events_exp]
  have h1 := cost_exp none (blocksAt 3 (linesL [] t))
  have h2 := cost_at 3 (linesL [] t)
  have h3 := tot_lines t
  omega

end Go.Proofs.YtljcljipppjnoaaGreatDoor
