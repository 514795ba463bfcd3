import Derived.Test.YtljcljipppjnoaaGreatDoorJW01
import Derived.Deep.AppendSrc
import Derived.Lib.SmallJoins
namespace Go.Proofs.YtljcljipppjnoaaGreatDoor
open Go.RowKit

theorem grown_refl (w : World) (r : Option Nat) : w.grownBy w r := ⟨rfl, rfl, rfl, Nat.le_refl _, fun _ _ _ => rfl⟩

/-- Appending a row that is owned (or nil) to one that is owned (or nil). -/
theorem run_append_row {P : Program} (w : World) (base base2 : Nat) (t ty e : TypeId) (i : TypeInfo) (z : Value) (size bytes : Nat) (ht : P.underlying t = some (.slice e)) (hi : P.info? e = some i) (hz : i.zero = some z)
    (hsize : i.size = size) (hby : i.bytes = bytes) (hzs : z.cells.size = size) (hsz : 0 < size)
    (v : Value) (n : Nat) (xs : List Value) (hown : w.ownsRow base e size v n xs)
    (u : Value) (m : Nat) (news : List Value) (hu : w.ownsRow base2 e size u m news) (h1 : ∀ c ∈ news, c.oneCell' = true)
    (h63 : n + m ≤ maxLen) (hbytes : (n + m) * bytes ≤ 140737488355328) (hbase : base ≤ w.heap.size) :
    ∃ v' w', (Builtin.append_ #[t, t] ty #[v, u]).run P w = .ok v' w' ∧ w'.ownsRow base e size v' (n + m) (xs ++ news) ∧ w.grownBy w' v.ownBlock := by
  rcases Joins.ownsRow_forms hu with ⟨rfl, rfl⟩ | ⟨g2, cap2, rfl⟩
  · have hn : news = [] := List.eq_nil_of_length_eq_zero (by simpa using hu.1)
    subst hn
    rw [Nat.add_zero, List.append_nil]
    rcases Joins.ownsRow_forms hown with ⟨rfl, rfl⟩ | ⟨g, cap, rfl⟩
    · refine ⟨.slice none 0 0, w, ?_, hown, grown_refl _ _⟩
      simp [Builtin.append_, run_underlying ht, sizeOf, typeInfo, hi, Builtin.lenOf, Builtin.firstCells]
    · have hnc : n ≤ cap := by
        rcases hown.2 with ⟨hh, _⟩ | ⟨g', cap', cur, hv, _, _, hnc, _⟩
        · cases hh
        · cases hv; exact hnc
      have hr := run_append_room_src (P := P) w t t ty e i ht hi g 0 n cap (.slice none 0 0) 0 [] (Src.ofNil w ht 0) (by omega) (fun j hj => absurd hj (by simp)) (fun j hj => absurd hj (by simp))
      exact ⟨_, _, hr, hown, grown_refl _ _⟩
  · obtain ⟨v', w', hr, h2, h3, _⟩ := run_append_own (P := P) w base t ty e i z size bytes ht hi hz hsize hby hzs hsz v n xs hown ⟨g2, 0, none⟩ m cap2 news hu.1 (hu.cells (g := g2) rfl) h1 h63 hbytes hbase
    exact ⟨v', w', hr, h2, h3⟩

theorem wpList_append_row {P : Program} (w : World) {ops : Array Oper} {rest : List Oper} {o : Oper} {a : Act} {Q : Exit → Act → World → Prop} (hgd : o.guard = none) (s x : Operand) (t : TypeId)
    (ho : o.op = .call { callee := .builtin .append, args := #[s, x], argTypes := #[t, t] })
    (base base2 : Nat) (e : TypeId) (i : TypeInfo) (z : Value) (size bytes : Nat) (ht : P.underlying t = some (.slice e)) (hi : P.info? e = some i) (hz : i.zero = some z)
    (hsize : i.size = size) (hby : i.bytes = bytes) (hzs : z.cells.size = size) (hsz : 0 < size)
    (v : Value) (n : Nat) (xs : List Value) (hs : a.eval s = v) (hown : w.ownsRow base e size v n xs)
    (u : Value) (m : Nat) (news : List Value) (hx : a.eval x = u) (hu : w.ownsRow base2 e size u m news) (h1 : ∀ c ∈ news, c.oneCell' = true)
    (h63 : n + m ≤ maxLen) (hbytes : (n + m) * bytes ≤ 140737488355328) (hbase : base ≤ w.heap.size)
    (h : ∀ v' w', w'.ownsRow base e size v' (n + m) (xs ++ news) → w.grownBy w' v.ownBlock → wpList P ops Q rest (a.put o.dst v') w') : wpList P ops Q (o :: rest) a w := by
  refine wpList_plain hgd fun _ hK => ?_
  obtain ⟨v', w', hr, h2, h3⟩ := run_append_row (P := P) w base base2 t o.type e i z size bytes ht hi hz hsize hby hzs hsz v n xs hown u m news hu h1 h63 hbytes hbase
  unfold Oper.wp execOp
  simp only [ho, resolve, invoke, builtin, Sem.run_bind, Sem.run_pure, Result.andThen_ok, List.map_toArray, List.map_cons, List.map_nil, hs, hx, hr]
  exact hK _ _ (h v' w' h2 h3)

theorem evCs_one' (l : List Ev) : ∀ c ∈ evCs l, c.oneCell' = true := by
  intro c hc
  simp only [evCs, List.mem_flatMap] at hc
  obtain ⟨e, _, he⟩ := hc
  exact ev_one e c he
theorem strCs_one (l : List (List UInt8)) : ∀ c ∈ strCs l, c.oneCell' = true := by
  intro c hc
  simp only [strCs, List.mem_map] at hc
  obtain ⟨e, _, rfl⟩ := hc
  rfl
theorem strCs_length (l : List (List UInt8)) : (strCs l).length = l.length * 1 := by simp [strCs]

/-- Lines as a value: nothing, or a piece of memory. -/
def LinesV (v : Value) (ls : List (List UInt8)) (w : World) : Prop :=
  (ls = [] ∧ v = .slice none 0 0) ∨ ∃ g o cap, v = .slice (some ⟨g, o, none⟩) ls.length cap ∧ Strs g o cap ls w

theorem lines_own {w : World} {base : Nat} {t : TypeId} {v : Value} {ls : List (List UInt8)} (h : w.ownsRow base t 1 v ls.length (strCs ls)) : LinesV v ls w := by
  rcases h.2 with ⟨hv, h0⟩ | ⟨g, cap, cur, hv, hb, hg, hnc, hcm, hcs, ht⟩
  · exact Or.inl ⟨List.eq_nil_of_length_eq_zero h0, hv⟩
  · refine Or.inr ⟨g, 0, cap, hv, hnc, by simp only [maxLen] at hcm; omega, ?_, ?_⟩
    · rcases Nat.lt_or_ge g w.heap.size with hlt | hge
      · exact hlt
      · rw [Array.getElem?_eq_none hge] at hg; cases hg
    · intro j l hj
      have hc := h.cells (g := g) (by rw [hv]; rfl) j (.string ⟨l.toArray⟩) (by simp [strCs, hj])
      rw [Addr.add_lit] at hc
      exact hc

theorem Strs.drop {g o cap : Nat} {ls : List (List UInt8)} {w : World} (h : Strs g o cap ls w) (n : Nat) (hn : n ≤ ls.length) : Strs g (o + n) (cap - n) (ls.drop n) w := by
  have hf := h.fits
  have hm := h.max
  refine ⟨by rw [List.length_drop]; omega, by omega, h.lt, ?_⟩
  intro j l hj
  rw [List.getElem?_drop] at hj
  have := h.cell (n + j) l hj
  rw [← Nat.add_assoc] at this
  exact this

theorem Small.drop {M : Nat} {ls : List (List UInt8)} (h : Small M ls) (n : Nat) : Small M (ls.drop n) :=
  ⟨by have := h.1; rw [List.length_drop]; omega, fun l hl => h.2 l (List.mem_of_mem_drop hl)⟩

end Go.Proofs.YtljcljipppjnoaaGreatDoor

namespace Go.Proofs.YtljcljipppjnoaaGreatDoor
open Go.RowKit

/-- From n on, the first that is not such a one. -/
def scan (p : List UInt8 → Bool) (ls : List (List UInt8)) (n : Nat) : Nat := n + ((ls.drop n).takeWhile p).length
theorem scan_lt (p : List UInt8 → Bool) (ls : List (List UInt8)) (n : Nat) (h : n < ls.length) (hb : p ls[n] = true) : scan p ls n = scan p ls (n + 1) := by
  unfold scan
  rw [List.drop_eq_getElem_cons h, List.takeWhile_cons, if_pos hb]
  simp
  omega
theorem scan_at (p : List UInt8 → Bool) (ls : List (List UInt8)) (n : Nat) (h : n < ls.length) (hb : p ls[n] = false) : scan p ls n = n := by
  unfold scan
  rw [List.drop_eq_getElem_cons h, List.takeWhile_cons, if_neg (by simp [hb])]
  rfl
theorem scan_end (p : List UInt8 → Bool) (ls : List (List UInt8)) (n : Nat) (h : n = ls.length) : scan p ls n = n := by
  unfold scan
  rw [List.drop_eq_nil_iff.2 (by omega)]
  rfl

def isQ : List UInt8 → Bool
  | [] => false
  | c :: _ => c == 62
def unq1 : List UInt8 → List UInt8
  | [] => []
  | c :: r => if c == 32 then r else c :: r
def unq (l : List UInt8) : List UInt8 := unq1 (l.drop 1)
def quoteN (ls : List (List UInt8)) : Nat := scan isQ ls 0
def quoteIn (ls : List (List UInt8)) : List (List UInt8) := (ls.take (quoteN ls)).map unq
def quoteS (inner : List (List UInt8) → List Ev) (ls : List (List UInt8)) : List Ev := [⟨2, false, 0, []⟩] ++ inner (quoteIn ls) ++ [⟨2, true, 0, []⟩]

/-- What Blocks does with some lines, at a depth. -/
def BlocksC (d : Int) (inner : List (List UInt8) → List Ev) : Prop :=
  ∀ (v : Value) (ls : List (List UInt8)) (w : World), LinesV v ls w → Small 1073741824 ls → Calls Tryz.prog 15 #[v, .int .i64 d] w fun e w' => ∃ v', e = .returned v' ∧ w'.ownsRow w.heap.size 83 4 v' (inner ls).length (evCs (inner ls)) ∧ Below w.heap.size w w'

theorem own_below {w w' : World} {base B size n : Nat} {e : TypeId} {v : Value} {xs : List Value} (h : w.ownsRow base e size v n xs) (hb : Below B w w') (hB : w.heap.size ≤ B) : w'.ownsRow base e size v n xs := by
  refine ⟨h.1, ?_⟩
  rcases h.2 with h0 | ⟨g, cap, cur, hv, hg, hh, r⟩
  · exact Or.inl h0
  · refine Or.inr ⟨g, cap, cur, hv, hg, ?_, r⟩
    rw [hb.block g, hh]
    have : g < w.heap.size := by
      rcases Nat.lt_or_ge g w.heap.size with hlt | hge
      · exact hlt
      · rw [Array.getElem?_eq_none hge] at hh; cases hh
    omega

theorem bytes_of (b : ByteArray) (l : List UInt8) (h : b.data.toList = l) : b = ⟨l.toArray⟩ := by
  apply ByteArray.ext
  apply Array.ext'
  simpa using h

theorem unq_le (l : List UInt8) : (unq l).length ≤ l.length := by
  unfold unq
  have h : (l.drop 1).length ≤ l.length := by rw [List.length_drop]; omega
  cases hd : l.drop 1 with
  | nil => simp [unq1]
  | cons c r =>
    rw [hd, List.length_cons] at h
    simp only [unq1]
    split
    · omega
    · simp only [List.length_cons]; omega

theorem quote_small {M : Nat} {ls : List (List UInt8)} (h : Small M ls) (k : Nat) : Small M ((ls.take k).map unq) := by
  refine ⟨by have := h.1; rw [List.length_map, List.length_take]; omega, ?_⟩
  intro l hl
  obtain ⟨x, hx, rfl⟩ := List.mem_map.1 hl
  have := h.2 x (List.mem_of_mem_take hx)
  have := unq_le x
  omega

theorem quote_len (inner : List (List UInt8) → List Ev) (ls : List (List UInt8)) : (quoteS inner ls).length = 1 + (inner (quoteIn ls)).length + 1 := by
  simp [quoteS]; omega
theorem quote_cells (inner : List (List UInt8) → List Ev) (ls : List (List UInt8)) : evCs (quoteS inner ls) = evCs [⟨2, false, 0, []⟩] ++ (evCs (inner (quoteIn ls)) ++ evCells ⟨2, true, 0, []⟩) := by
  rw [quoteS, evCs_append, evCs_append, evCs_one ⟨2, true, 0, []⟩, List.append_assoc]

set_option maxRecDepth 100000 in
set_option maxHeartbeats 4000000 in
theorem rquoted_any (inner : List (List UInt8) → List Ev) (depth : Int) (hd : 0 ≤ depth ∧ depth < 3) (hB : BlocksC (depth + 1) inner) (hI : ∀ ls, (inner ls).length ≤ 16 * ls.length)
    (g o cap : Nat) (ls : List (List UInt8)) (w : World) (hS : Strs g o cap ls w) (hM : Small 1073741824 ls) :
    Calls Tryz.prog 42 #[.slice (some ⟨g, o, none⟩) ls.length cap, .int .i64 depth] w fun e w' =>
      ∃ v, e = .returned (.tuple #[v, .int .i64 (quoteN ls)]) ∧ w'.ownsRow w.heap.size 83 4 v (quoteS inner ls).length (evCs (quoteS inner ls)) ∧ Below w.heap.size w w' := by
  have hlen := hM.1
  have HM : Hid (Small 1073741824 ls) := hM
  have HS : Hid (Strs g o cap ls w) := hS
  have hglt := hS.lt
  have HI : Hid (∀ ls, (inner ls).length ≤ 16 * ls.length) := hI
  have HB : Hid (BlocksC (depth + 1) inner) := hB
  clear hM hS hI hB
  obtain ⟨hd1, hd2⟩ := hd
  obtain ⟨i0, hi, hz0, hz1, hz2⟩ := info_parts Tryz.infoStr
  obtain ⟨j0, hj, hy0, hy1, hy2⟩ := info_parts Tryz.infoEv
  go_enter Tryz.func42, Tryz.ntmps42
  go_wp2
  go_loopw [6, 7] (fun v i wr => ∃ k : Nat, k ≤ ls.length ∧ i = .int .i64 k ∧ wr.ownsRow w.heap.size 9 1 v k (strCs ((ls.take k).map unq)) ∧ Below w.heap.size w wr ∧ Hid (scan isQ ls k = quoteN ls)) (fun _ i _ => ls.length - (intOf i).toNat)
  case atStart => exact ⟨0, Nat.zero_le _, rfl, (by simpa [strCs] using World.ownsRow_nil _ _ _ _), Below.refl _ _, (by show _ = _; rfl)⟩
  case round =>
    obtain ⟨k, hk, rfl, hown, hbel, hP⟩ := hrel
    have hbs := hbel.size
    have hend : quoteN ls = k → Hid (∀ W v2, w.heap.size ≤ W.heap.size → W.ownsRow w.heap.size 9 1 v2 k (strCs ((ls.take k).map unq)) → Calls Tryz.prog 15 #[v2, .int .i64 (depth + 1)] W fun e w' => ∃ v', e = .returned v' ∧ w'.ownsRow W.heap.size 83 4 v' (inner (quoteIn ls)).length (evCs (inner (quoteIn ls))) ∧ Below W.heap.size W w') := by
      intro hq W v2 hW ho
      have hl : ((ls.take k).map unq).length = k := by rw [List.length_map, List.length_take]; omega
      have := HB.out v2 ((ls.take k).map unq) W (lines_own (by rw [hl]; exact ho)) (quote_small HM.out k)
      rw [quoteIn, hq]
      exact this
    have hbnd : quoteN ls = k → (inner (quoteIn ls)).length ≤ 16 * k := by
      intro hq
      have := HI.out (quoteIn ls)
      rw [quoteIn, hq, List.length_map, List.length_take] at this
      rw [quoteIn, hq]
      omega
    by_cases hlt : k < ls.length
    · obtain ⟨l, hl⟩ : ∃ l, ls[k] = l := ⟨_, rfl⟩
      obtain ⟨b, hb⟩ : ∃ b : ByteArray, b = ⟨l.toArray⟩ := ⟨_, rfl⟩
      have hcell := (HS.out.below hbel hglt).cell k l (by rw [List.getElem?_eq_getElem hlt, hl])
      rw [← hb] at hcell
      have hbl : b.data.toList = l := by rw [hb]
      have hsz : b.size ≤ 1073741824 := by rw [hb, size_of]; exact HM.out.2 l (by rw [← hl]; exact List.getElem_mem hlt)
      have hgo : isQ l = true → Hid (scan isQ ls (k + 1) = quoteN ls) := by
        intro hq
        show _ = _
        rw [← scan_lt isQ ls k hlt (by rw [hl]; exact hq), hP.out]
      have hst : isQ l = false → quoteN ls = k := by
        intro hq
        rw [← hP.out]
        exact scan_at isQ ls k hlt (by rw [hl]; exact hq)
      have htk : Hid (strCs ((ls.take (k + 1)).map unq) = strCs ((ls.take k).map unq) ++ [.string ⟨(unq l).toArray⟩]) := by
        show _ = _
        rw [snoc_take ls k hlt, hl]
        simp [strCs]
      by_cases hq : ∃ h0 : 0 < b.size, b[0] = 62
      · obtain ⟨h0, h62⟩ := hq
        have hl1 : l = 62 :: (b.extract 1 b.size).data.toList := by rw [← hbl, ext_tail b h0, h62]
        have HP2 := hgo (by rw [hl1]; rfl)
        have k1 : ((b[0].toNat : Int) == 62) = true := by rw [h62]; rfl
        have hu : unq l = unq1 (b.extract 1 b.size).data.toList := by rw [hl1]; rfl
        have hxs : (b.extract 1 b.size).size = b.size - 1 := by simp
        clear hgo hst hend hbnd hl1 hbl hl h62 hb
        obtain ⟨s, hs⟩ : ∃ s, b.extract 1 b.size = s := ⟨_, rfl⟩
        by_cases hq2 : ∃ h1 : 0 < s.size, s[0] = 32
        · obtain ⟨h1, h32⟩ := hq2
          have HN : Hid (strCs ((ls.take (k + 1)).map unq) = strCs ((ls.take k).map unq) ++ [.string (s.extract 1 s.size)]) := by
            show _ = _
            rw [htk.out]
            have : unq l = (s.extract 1 s.size).data.toList := by
              rw [hu, hs, ext_tail s h1, h32]
              simp [unq1]
            rw [this, ← bytes_of _ _ rfl]
          have k2 : ((s[0].toNat : Int) == 32) = true := by rw [h32]; rfl
          have h1' : 1 < b.size := by rw [hs] at hxs; omega
          clear hu htk h32 hP
          subst hs
          go_wp2_with (at_builtin; refine wpList_append_own _ rfl _ _ 25 rfl w.heap.size 9 i0 (.string ⟨#[]⟩) 1 16 Tryz.underlying25 hi hz0 hz1 hz2 rfl (by decide) _ _ _ rfl (hown.alloc _) ⟨wr.heap.size, 0, none⟩ 1 1 [.string ((b.extract 1 b.size).extract 1 (b.extract 1 b.size).size)] rfl rfl ?c1 ?c2 ?c3 ?c4 ?c5 ?_)
          case c1 =>
            intro j u hj
            match j, hj with
            | 0, hj => simp at hj; subst hj; simp [Addr.add]
          case c2 => intro u hu; simp at hu; subst hu; rfl
          case c3 => unfold maxLen; omega
          case c4 => omega
          case c5 => simp; omega
          intro v' w1 hown' hgrow _
          go_wp2
          go_roundw
          case rel =>
            refine ⟨k + 1, by omega, by go_num, ?_, (hbel.alloc hbs _).grown hgrow (by simp; omega) (fun b hb => (hown.lt b hb).1), HP2⟩
            rw [HN.out]
            simpa [strCs] using hown'
          case measure => simp [intOf]; omega
        · have HN : Hid (strCs ((ls.take (k + 1)).map unq) = strCs ((ls.take k).map unq) ++ [.string s]) := by
            show _ = _
            rw [htk.out]
            have : unq l = s.data.toList := by
              rw [hu, hs]
              by_cases h1 : 0 < s.size
              · rw [ext_tail s h1]
                have : ¬ s[0] = 32 := fun h => hq2 ⟨h1, h⟩
                simp [unq1, this]
              · have : s.data.toList = [] := by
                  rw [← List.length_eq_zero_iff, Array.length_toList]
                  show s.size = 0
                  omega
                rw [this]
                rfl
            rw [this, ← bytes_of _ _ rfl]
          have hz : ∀ h1 : 0 < s.size, ((s[0].toNat : Int) == 32) = false := by
            intro h1
            exact (u8_eq s[0] 32).trans (beq_eq_false_iff_ne.2 fun h => hq2 ⟨h1, h⟩)
          clear hu htk hq2 hP
          by_cases h1 : 0 < s.size
          · have k2 := hz h1
            clear hz
            subst hs
            go_wp2_with (at_builtin; refine wpList_append_own _ rfl _ _ 25 rfl w.heap.size 9 i0 (.string ⟨#[]⟩) 1 16 Tryz.underlying25 hi hz0 hz1 hz2 rfl (by decide) _ _ _ rfl (hown.alloc _) ⟨wr.heap.size, 0, none⟩ 1 1 [.string (b.extract 1 b.size)] rfl rfl ?c1 ?c2 ?c3 ?c4 ?c5 ?_)
            case c1 =>
              intro j u hj
              match j, hj with
              | 0, hj => simp at hj; subst hj; simp [Addr.add]
            case c2 => intro u hu; simp at hu; subst hu; rfl
            case c3 => unfold maxLen; omega
            case c4 => omega
            case c5 => simp; omega
            intro v' w1 hown' hgrow _
            go_wp2
            go_roundw
            case rel =>
              refine ⟨k + 1, by omega, by go_num, ?_, (hbel.alloc hbs _).grown hgrow (by simp; omega) (fun b hb => (hown.lt b hb).1), HP2⟩
              rw [HN.out]
              simpa [strCs] using hown'
            case measure => simp [intOf]; omega
          · clear hz
            subst hs
            go_wp2_with (at_builtin; refine wpList_append_own _ rfl _ _ 25 rfl w.heap.size 9 i0 (.string ⟨#[]⟩) 1 16 Tryz.underlying25 hi hz0 hz1 hz2 rfl (by decide) _ _ _ rfl (hown.alloc _) ⟨wr.heap.size, 0, none⟩ 1 1 [.string (b.extract 1 b.size)] rfl rfl ?c1 ?c2 ?c3 ?c4 ?c5 ?_)
            case c1 =>
              intro j u hj
              match j, hj with
              | 0, hj => simp at hj; subst hj; simp [Addr.add]
            case c2 => intro u hu; simp at hu; subst hu; rfl
            case c3 => unfold maxLen; omega
            case c4 => omega
            case c5 => simp; omega
            intro v' w1 hown' hgrow _
            go_wp2
            go_roundw
            case rel =>
              refine ⟨k + 1, by omega, by go_num, ?_, (hbel.alloc hbs _).grown hgrow (by simp; omega) (fun b hb => (hown.lt b hb).1), HP2⟩
              rw [HN.out]
              simpa [strCs] using hown'
            case measure => simp [intOf]; omega
      · have hqn : quoteN ls = k := hst (by
          cases hc : l with
          | nil => rfl
          | cons c r =>
            show (c == 62) = false
            have h0 : 0 < b.size := by rw [hb, size_of, hc]; simp
            have := ext_tail b h0
            rw [hbl, hc] at this
            injection this with h1 h2
            rw [h1, beq_eq_false_iff_ne]
            exact fun h => hq ⟨h0, h⟩)
        have hEnd := hend hqn
        have hBnd := hbnd hqn
        clear hend hbnd hgo hst htk hbl hl hb hP
        have hq' : ∀ h0 : 0 < b.size, ((b[0].toNat : Int) == 62) = false := by
          intro h0
          exact (u8_eq b[0] 62).trans (beq_eq_false_iff_ne.2 fun h => hq ⟨h0, h⟩)
        clear hq
        by_cases h0 : 0 < b.size
        · have k1 := hq' h0
          clear hq'
          have oL := own_lit wr ⟨2, false, 0, []⟩ 83
          go_wp2_with (first | (go_at_call 15; refine (hEnd.out _ _ (by simp; omega) (hown.alloc _)).mono ?_; rintro e w1 ⟨vb, rfl, ownb, belb⟩) | (at_builtin; refine wpList_append_row _ rfl _ _ 27 rfl w.heap.size w.heap.size 83 j0 (.agg #[.int .i64 0, .bool false, .int .i64 0, .string ⟨#[]⟩]) 4 40 Tryz.underlying27 hj hy0 hy1 hy2 rfl (by decide) _ 1 (evCs [⟨2, false, 0, []⟩]) rfl (Joins.ownsRow_le (own_below oL belb (Nat.le_refl _)) hbs) _ _ _ rfl (Joins.ownsRow_le ownb (by simp; omega)) (evCs_one' _) ?c3 ?c4 ?c5 ?_))
          case c3 => unfold maxLen; omega
          case c4 => omega
          case c5 => have := belb.size; simp at this; omega
          intro v2 w2 own2 grow2
          have z1 := belb.size
          simp at z1
          have b1 : Below w.heap.size w w1 := (hbel.alloc hbs _).trans (belb.mono (by simp; omega))
          have b2 : Below w.heap.size w w2 := b1.grown grow2 (by omega) (fun b hb => (Joins.ownsRow_le (own_below oL belb (Nat.le_refl _)) hbs).lt b hb |>.1)
          have z2 := b2.size
          go_wp2_with (at_builtin; refine wpList_append_own _ rfl _ _ 27 rfl w.heap.size 83 j0 (.agg #[.int .i64 0, .bool false, .int .i64 0, .string ⟨#[]⟩]) 4 40 Tryz.underlying27 hj hy0 hy1 hy2 rfl (by decide) _ _ _ rfl (own2.alloc _) ⟨w2.heap.size, 0, none⟩ 1 1 (evCells ⟨2, true, 0, []⟩) rfl rfl ?d1 (ev_one _) ?d3 ?d4 ?d5 ?_)
          case d1 => exact ev_cell _ _ _ (by simp)
          case d3 => unfold maxLen; omega
          case d4 => omega
          case d5 => simp; omega
          intro v3 w3 own3 grow3 _
          go_wp2
          go_ret2
          refine ⟨v3, by subst hqn; rfl, ?_, (b2.alloc z2 _).grown grow3 (by simp; omega) (fun b hb => (own2.lt b hb).1)⟩
          rw [quote_len, quote_cells]
          first | exact own3 | (simpa only [List.append_assoc] using own3)
        · clear hq'
          have oL := own_lit wr ⟨2, false, 0, []⟩ 83
          go_wp2_with (first | (go_at_call 15; refine (hEnd.out _ _ (by simp; omega) (hown.alloc _)).mono ?_; rintro e w1 ⟨vb, rfl, ownb, belb⟩) | (at_builtin; refine wpList_append_row _ rfl _ _ 27 rfl w.heap.size w.heap.size 83 j0 (.agg #[.int .i64 0, .bool false, .int .i64 0, .string ⟨#[]⟩]) 4 40 Tryz.underlying27 hj hy0 hy1 hy2 rfl (by decide) _ 1 (evCs [⟨2, false, 0, []⟩]) rfl (Joins.ownsRow_le (own_below oL belb (Nat.le_refl _)) hbs) _ _ _ rfl (Joins.ownsRow_le ownb (by simp; omega)) (evCs_one' _) ?c3 ?c4 ?c5 ?_))
          case c3 => unfold maxLen; omega
          case c4 => omega
          case c5 => have := belb.size; simp at this; omega
          intro v2 w2 own2 grow2
          have z1 := belb.size
          simp at z1
          have b1 : Below w.heap.size w w1 := (hbel.alloc hbs _).trans (belb.mono (by simp; omega))
          have b2 : Below w.heap.size w w2 := b1.grown grow2 (by omega) (fun b hb => (Joins.ownsRow_le (own_below oL belb (Nat.le_refl _)) hbs).lt b hb |>.1)
          have z2 := b2.size
          go_wp2_with (at_builtin; refine wpList_append_own _ rfl _ _ 27 rfl w.heap.size 83 j0 (.agg #[.int .i64 0, .bool false, .int .i64 0, .string ⟨#[]⟩]) 4 40 Tryz.underlying27 hj hy0 hy1 hy2 rfl (by decide) _ _ _ rfl (own2.alloc _) ⟨w2.heap.size, 0, none⟩ 1 1 (evCells ⟨2, true, 0, []⟩) rfl rfl ?d1 (ev_one _) ?d3 ?d4 ?d5 ?_)
          case d1 => exact ev_cell _ _ _ (by simp)
          case d3 => unfold maxLen; omega
          case d4 => omega
          case d5 => simp; omega
          intro v3 w3 own3 grow3 _
          go_wp2
          go_ret2
          refine ⟨v3, by subst hqn; rfl, ?_, (b2.alloc z2 _).grown grow3 (by simp; omega) (fun b hb => (own2.lt b hb).1)⟩
          rw [quote_len, quote_cells]
          first | exact own3 | (simpa only [List.append_assoc] using own3)
    · have hqn : quoteN ls = k := by
        rw [← hP.out]
        exact scan_end isQ ls k (by omega)
      have hEnd := hend hqn
      have hBnd := hbnd hqn
      clear hend hbnd hP
      have oL := own_lit wr ⟨2, false, 0, []⟩ 83
      go_wp2_with (first | (go_at_call 15; refine (hEnd.out _ _ (by simp; omega) (hown.alloc _)).mono ?_; rintro e w1 ⟨vb, rfl, ownb, belb⟩) | (at_builtin; refine wpList_append_row _ rfl _ _ 27 rfl w.heap.size w.heap.size 83 j0 (.agg #[.int .i64 0, .bool false, .int .i64 0, .string ⟨#[]⟩]) 4 40 Tryz.underlying27 hj hy0 hy1 hy2 rfl (by decide) _ 1 (evCs [⟨2, false, 0, []⟩]) rfl (Joins.ownsRow_le (own_below oL belb (Nat.le_refl _)) hbs) _ _ _ rfl (Joins.ownsRow_le ownb (by simp; omega)) (evCs_one' _) ?c3 ?c4 ?c5 ?_))
      case c3 => unfold maxLen; omega
      case c4 => omega
      case c5 => have := belb.size; simp at this; omega
      intro v2 w2 own2 grow2
      have z1 := belb.size
      simp at z1
      have b1 : Below w.heap.size w w1 := (hbel.alloc hbs _).trans (belb.mono (by simp; omega))
      have b2 : Below w.heap.size w w2 := b1.grown grow2 (by omega) (fun b hb => (Joins.ownsRow_le (own_below oL belb (Nat.le_refl _)) hbs).lt b hb |>.1)
      have z2 := b2.size
      go_wp2_with (at_builtin; refine wpList_append_own _ rfl _ _ 27 rfl w.heap.size 83 j0 (.agg #[.int .i64 0, .bool false, .int .i64 0, .string ⟨#[]⟩]) 4 40 Tryz.underlying27 hj hy0 hy1 hy2 rfl (by decide) _ _ _ rfl (own2.alloc _) ⟨w2.heap.size, 0, none⟩ 1 1 (evCells ⟨2, true, 0, []⟩) rfl rfl ?d1 (ev_one _) ?d3 ?d4 ?d5 ?_)
      case d1 => exact ev_cell _ _ _ (by simp)
      case d3 => unfold maxLen; omega
      case d4 => omega
      case d5 => simp; omega
      intro v3 w3 own3 grow3 _
      go_wp2
      go_ret2
      refine ⟨v3, by subst hqn; rfl, ?_, (b2.alloc z2 _).grown grow3 (by simp; omega) (fun b hb => (own2.lt b hb).1)⟩
      rw [quote_len, quote_cells]
      first | exact own3 | (simpa only [List.append_assoc] using own3)

end Go.Proofs.YtljcljipppjnoaaGreatDoor

namespace Go.Proofs.YtljcljipppjnoaaGreatDoor
open Go.RowKit

theorem behind_ge (ls : List (List UInt8)) (n : Nat) : n ≤ behindS ls n := by unfold behindS; omega
theorem behind_le (ls : List (List UInt8)) (n : Nat) (h : n ≤ ls.length) : behindS ls n ≤ ls.length := by
  unfold behindS
  have := (List.takeWhile_sublist (l := ls.drop n) blankL).length_le
  rw [List.length_drop] at this
  omega

def two (l : List UInt8) : Bool := beginsS ⟨l.toArray⟩ ⟨#[32, 32]⟩
def itemL (l : List UInt8) : Bool := itemS ⟨l.toArray⟩

/-- What more of an item's lines stands from n on, and where it ends. -/
def moreAt (ls : List (List UInt8)) (n : Nat) : List (List UInt8) × Nat :=
  if h : behindS ls n < ls.length then
    if two ls[behindS ls n] = true then (List.replicate (behindS ls n - n) [] ++ ls[behindS ls n].drop 2 :: (moreAt ls (behindS ls n + 1)).1, (moreAt ls (behindS ls n + 1)).2)
    else ([], n)
  else ([], n)
termination_by ls.length - n
decreasing_by all_goals (have := behind_ge ls n; omega)

theorem more_go (ls : List (List UInt8)) (n k : Nat) (hk : behindS ls n = k) (h : k < ls.length) (h2 : two ls[k] = true) :
    moreAt ls n = (List.replicate (k - n) [] ++ ls[k].drop 2 :: (moreAt ls (k + 1)).1, (moreAt ls (k + 1)).2) := by
  subst hk
  rw [moreAt, dif_pos h, if_pos h2]
theorem more_no (ls : List (List UInt8)) (n k : Nat) (hk : behindS ls n = k) (h : k < ls.length) (h2 : two ls[k] = false) : moreAt ls n = ([], n) := by
  subst hk
  rw [moreAt, dif_pos h, if_neg (by simp [h2])]
theorem more_end (ls : List (List UInt8)) (n k : Nat) (hk : behindS ls n = k) (h : ¬ k < ls.length) : moreAt ls n = ([], n) := by
  subst hk
  rw [moreAt, dif_neg h]

theorem more_facts (ls : List (List UInt8)) (n : Nat) (hn : n ≤ ls.length) : n ≤ (moreAt ls n).2 ∧ (moreAt ls n).2 ≤ ls.length ∧ (moreAt ls n).1.length = (moreAt ls n).2 - n ∧ ∀ M, Small M ls → ∀ l ∈ (moreAt ls n).1, l.length ≤ M := by
  induction hm : ls.length - n using Nat.strongRecOn generalizing n with
  | _ m ih =>
    have hge := behind_ge ls n
    by_cases h : behindS ls n < ls.length
    · cases h2 : two ls[behindS ls n] with
      | true =>
        obtain ⟨a1, a2, a3, a4⟩ := ih (ls.length - (behindS ls n + 1)) (by omega) (behindS ls n + 1) (by omega) rfl
        rw [more_go ls n _ rfl h h2]
        refine ⟨by simp only; omega, a2, ?_, ?_⟩
        · simp only [List.length_append, List.length_replicate, List.length_cons, a3]
          omega
        · intro M hM l hl
          simp only [List.mem_append, List.mem_replicate, List.mem_cons] at hl
          rcases hl with ⟨_, rfl⟩ | rfl | hl
          · simp
          · have := hM.2 ls[behindS ls n] (List.getElem_mem h)
            rw [List.length_drop]
            omega
          · exact a4 M hM l hl
      | false =>
        rw [more_no ls n _ rfl h h2]
        exact ⟨Nat.le_refl _, hn, by simp, fun _ _ l hl => by cases hl⟩
    · rw [more_end ls n _ rfl h]
      exact ⟨Nat.le_refl _, hn, by simp, fun _ _ l hl => by cases hl⟩
theorem more_ge (ls : List (List UInt8)) (n : Nat) : n ≤ (moreAt ls n).2 := by
  by_cases hn : n ≤ ls.length
  · exact (more_facts ls n hn).1
  · have : ¬ behindS ls n < ls.length := by have := behind_ge ls n; omega
    rw [more_end ls n _ rfl this]
    exact Nat.le_refl _

/-- The lines of the item at n. -/
def itemIn (ls : List (List UInt8)) (n : Nat) : List (List UInt8) := (ls[n]?.getD []).drop 2 :: (moreAt ls (n + 1)).1
def itemEv (inner : List (List UInt8) → List Ev) (ls : List (List UInt8)) (n : Nat) : List Ev := [⟨4, false, 0, []⟩] ++ inner (itemIn ls n) ++ [⟨4, true, 0, []⟩]

/-- The items from n on, and where they end. -/
def itemsAt (inner : List (List UInt8) → List Ev) (ls : List (List UInt8)) (n : Nat) : List Ev × Nat :=
  if h : behindS ls (moreAt ls (n + 1)).2 < ls.length then
    if itemL ls[behindS ls (moreAt ls (n + 1)).2] = true then
      (itemEv inner ls n ++ (itemsAt inner ls (behindS ls (moreAt ls (n + 1)).2)).1, (itemsAt inner ls (behindS ls (moreAt ls (n + 1)).2)).2)
    else (itemEv inner ls n, (moreAt ls (n + 1)).2)
  else (itemEv inner ls n, (moreAt ls (n + 1)).2)
termination_by ls.length - n
decreasing_by all_goals (have := behind_ge ls (moreAt ls (n + 1)).2; have := more_ge ls (n + 1); omega)

theorem items_go (inner : List (List UInt8) → List Ev) (ls : List (List UInt8)) (n k : Nat) (hk : behindS ls (moreAt ls (n + 1)).2 = k) (h : k < ls.length) (h2 : itemL ls[k] = true) :
    itemsAt inner ls n = (itemEv inner ls n ++ (itemsAt inner ls k).1, (itemsAt inner ls k).2) := by
  subst hk
  rw [itemsAt, dif_pos h, if_pos h2]
theorem items_no (inner : List (List UInt8) → List Ev) (ls : List (List UInt8)) (n k : Nat) (hk : behindS ls (moreAt ls (n + 1)).2 = k) (h : k < ls.length) (h2 : itemL ls[k] = false) :
    itemsAt inner ls n = (itemEv inner ls n, (moreAt ls (n + 1)).2) := by
  subst hk
  rw [itemsAt, dif_pos h, if_neg (by simp [h2])]
theorem items_end (inner : List (List UInt8) → List Ev) (ls : List (List UInt8)) (n k : Nat) (hk : behindS ls (moreAt ls (n + 1)).2 = k) (h : ¬ k < ls.length) :
    itemsAt inner ls n = (itemEv inner ls n, (moreAt ls (n + 1)).2) := by
  subst hk
  rw [itemsAt, dif_neg h]

theorem item_small (ls : List (List UInt8)) (n : Nat) (hn : n < ls.length) (M : Nat) (hM : Small M ls) : Small M (itemIn ls n) ∧ (itemIn ls n).length = (moreAt ls (n + 1)).2 - n := by
  obtain ⟨a1, a2, a3, a4⟩ := more_facts ls (n + 1) (by omega)
  have hl : (itemIn ls n).length = (moreAt ls (n + 1)).2 - n := by
    rw [itemIn, List.length_cons, a3]
    omega
  refine ⟨⟨by have := hM.1; omega, ?_⟩, hl⟩
  intro l hl
  rw [itemIn, List.mem_cons] at hl
  rcases hl with rfl | hl
  · rw [List.getElem?_eq_getElem hn, Option.getD_some, List.length_drop]
    have := hM.2 ls[n] (List.getElem_mem hn)
    omega
  · exact a4 M hM l hl

theorem items_facts (inner : List (List UInt8) → List Ev) (c : Nat) (hI : ∀ ls, (inner ls).length ≤ c * ls.length) (ls : List (List UInt8)) (n : Nat) (hn : n < ls.length) :
    n < (itemsAt inner ls n).2 ∧ (itemsAt inner ls n).2 ≤ ls.length ∧ (itemsAt inner ls n).1.length ≤ (c + 2) * ((itemsAt inner ls n).2 - n) := by
  induction hm : ls.length - n using Nat.strongRecOn generalizing n with
  | _ m ih =>
    obtain ⟨a1, a2, a3, _⟩ := more_facts ls (n + 1) (by omega)
    have hev : (itemEv inner ls n).length ≤ (c + 2) * ((moreAt ls (n + 1)).2 - n) := by
      have h1 := hI (itemIn ls n)
      have h2 : (itemIn ls n).length = (moreAt ls (n + 1)).2 - n := by rw [itemIn, List.length_cons, a3]; omega
      rw [h2] at h1
      rw [Nat.add_mul]
      simp only [itemEv, List.length_append, List.length_singleton]
      omega
    have hge := behind_ge ls (moreAt ls (n + 1)).2
    by_cases h : behindS ls (moreAt ls (n + 1)).2 < ls.length
    · cases h2 : itemL ls[behindS ls (moreAt ls (n + 1)).2] with
      | true =>
        obtain ⟨b1, b2, b3⟩ := ih (ls.length - behindS ls (moreAt ls (n + 1)).2) (by omega) (behindS ls (moreAt ls (n + 1)).2) h rfl
        rw [items_go inner ls n _ rfl h h2]
        refine ⟨by simp only; omega, b2, ?_⟩
        simp only [List.length_append]
        generalize hx : itemsAt inner ls (behindS ls (moreAt ls (n + 1)).2) = X at b1 b2 b3
        have h3 : (c + 2) * ((moreAt ls (n + 1)).2 - n) + (c + 2) * (X.2 - behindS ls (moreAt ls (n + 1)).2) ≤ (c + 2) * (X.2 - n) := by
          rw [← Nat.mul_add]
          exact Nat.mul_le_mul_left _ (by omega)
        omega
      | false =>
        rw [items_no inner ls n _ rfl h h2]
        exact ⟨by simp only; omega, a2, hev⟩
    · rw [items_end inner ls n _ rfl h]
      exact ⟨by simp only; omega, a2, hev⟩

def listS (inner : List (List UInt8) → List Ev) (ls : List (List UInt8)) : List Ev := [⟨3, false, 0, []⟩] ++ (itemsAt inner ls 0).1 ++ [⟨3, true, 0, []⟩]
def listN (inner : List (List UInt8) → List Ev) (ls : List (List UInt8)) : Nat := (itemsAt inner ls 0).2

end Go.Proofs.YtljcljipppjnoaaGreatDoor
