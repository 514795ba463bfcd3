import Derived.Test.YtljcljipppjnoaaGreatDoorApp
namespace Go.Proofs.YtljcljipppjnoaaGreatDoor
open Go.RowKit

/-- From n on, the first that is not such a one. -/
def scan (p : List UInt8 → Bool) (ls : List (List UInt8)) (n : Nat) : Nat := n + ((ls.drop n).takeWhile p).length
theorem scan_lt (p : List UInt8 → Bool) (ls : List (List UInt8)) (n : Nat) (h : n < ls.length) (hb : p ls[n] = true) : scan p ls n = scan p ls (n + 1) := by
  unfold scan
  rw [List.drop_eq_getElem_cons h, List.takeWhile_cons, if_pos hb]
  simp
  omega
theorem scan_at (p : List UInt8 → Bool) (ls : List (List UInt8)) (n : Nat) (h : n < ls.length) (hb : p ls[n] = false) : scan p ls n = n := by
  unfold scan
  rw [List.drop_eq_getElem_cons h, List.takeWhile_cons, if_neg (by simp [hb])]
  rfl
theorem scan_end (p : List UInt8 → Bool) (ls : List (List UInt8)) (n : Nat) (h : n = ls.length) : scan p ls n = n := by
  unfold scan
  rw [List.drop_eq_nil_iff.2 (by omega)]
  rfl

def isQ : List UInt8 → Bool
  | [] => false
  | c :: _ => c == 62
def unq1 : List UInt8 → List UInt8
  | [] => []
  | c :: r => if c == 32 then r else c :: r
def unq (l : List UInt8) : List UInt8 := unq1 (l.drop 1)
def quoteN (ls : List (List UInt8)) : Nat := scan isQ ls 0
def quoteIn (ls : List (List UInt8)) : List (List UInt8) := (ls.take (quoteN ls)).map unq
def quoteS (inner : List (List UInt8) → List Ev) (ls : List (List UInt8)) : List Ev := [⟨2, false, 0, []⟩] ++ inner (quoteIn ls) ++ [⟨2, true, 0, []⟩]

/-- What Blocks does with some lines, at a depth. -/
def BlocksC (d : Int) (inner : List (List UInt8) → List Ev) : Prop :=
  ∀ (v : Value) (ls : List (List UInt8)) (w : World), LinesV v ls w → Small 1073741824 ls → Calls Tryz.prog 15 #[v, .int .i64 d] w fun e w' => ∃ v', e = .returned v' ∧ w'.ownsRow w.heap.size 83 4 v' (inner ls).length (evCs (inner ls)) ∧ Below w.heap.size w w'

theorem own_below {w w' : World} {base B size n : Nat} {e : TypeId} {v : Value} {xs : List Value} (h : w.ownsRow base e size v n xs) (hb : Below B w w') (hB : w.heap.size ≤ B) : w'.ownsRow base e size v n xs := by
  refine ⟨h.1, ?_⟩
  rcases h.2 with h0 | ⟨g, cap, cur, hv, hg, hh, r⟩
  · exact Or.inl h0
  · refine Or.inr ⟨g, cap, cur, hv, hg, ?_, r⟩
    rw [hb.block g, hh]
    have : g < w.heap.size := by
      rcases Nat.lt_or_ge g w.heap.size with hlt | hge
      · exact hlt
      · rw [Array.getElem?_eq_none hge] at hh; cases hh
    omega

theorem bytes_of (b : ByteArray) (l : List UInt8) (h : b.data.toList = l) : b = ⟨l.toArray⟩ := by
  apply ByteArray.ext
  apply Array.ext'
  simpa using h

theorem unq_le (l : List UInt8) : (unq l).length ≤ l.length := by
  unfold unq
  have h : (l.drop 1).length ≤ l.length := by rw [List.length_drop]; omega
  cases hd : l.drop 1 with
  | nil => simp [unq1]
  | cons c r =>
    rw [hd, List.length_cons] at h
    simp only [unq1]
    split
    · omega
    · simp only [List.length_cons]; omega

theorem quote_small {M : Nat} {ls : List (List UInt8)} (h : Small M ls) (k : Nat) : Small M ((ls.take k).map unq) := by
  refine ⟨by have := h.1; rw [List.length_map, List.length_take]; omega, ?_⟩
  intro l hl
  obtain ⟨x, hx, rfl⟩ := List.mem_map.1 hl
  have := h.2 x (List.mem_of_mem_take hx)
  have := unq_le x
  omega

theorem quote_len (inner : List (List UInt8) → List Ev) (ls : List (List UInt8)) : (quoteS inner ls).length = 1 + (inner (quoteIn ls)).length + 1 := by
  simp [quoteS]; omega
theorem quote_cells (inner : List (List UInt8) → List Ev) (ls : List (List UInt8)) : evCs (quoteS inner ls) = evCs [⟨2, false, 0, []⟩] ++ (evCs (inner (quoteIn ls)) ++ evCells ⟨2, true, 0, []⟩) := by
  rw [quoteS, evCs_append, evCs_append, evCs_one ⟨2, true, 0, []⟩, List.append_assoc]

set_option maxRecDepth 100000 in
set_option maxHeartbeats 4000000 in
theorem rquoted_any (inner : List (List UInt8) → List Ev) (depth : Int) (hd : 0 ≤ depth ∧ depth < 3) (hB : BlocksC (depth + 1) inner) (hI : ∀ ls, (inner ls).length ≤ 16 * ls.length)
    (g o cap : Nat) (ls : List (List UInt8)) (w : World) (hS : Strs g o cap ls w) (hM : Small 1073741824 ls) :
    Calls Tryz.prog 42 #[.slice (some ⟨g, o, none⟩) ls.length cap, .int .i64 depth] w fun e w' =>
      ∃ v, e = .returned (.tuple #[v, .int .i64 (quoteN ls)]) ∧ w'.ownsRow w.heap.size 83 4 v (quoteS inner ls).length (evCs (quoteS inner ls)) ∧ Below w.heap.size w w' := by
  have hlen := hM.1
  have HM : Hid (Small 1073741824 ls) := hM
  have HS : Hid (Strs g o cap ls w) := hS
  have hglt := hS.lt
  have HI : Hid (∀ ls, (inner ls).length ≤ 16 * ls.length) := hI
  have HB : Hid (BlocksC (depth + 1) inner) := hB
  clear hM hS hI hB
  obtain ⟨hd1, hd2⟩ := hd
  obtain ⟨i0, hi, hz0, hz1, hz2⟩ := info_parts Tryz.infoStr
  obtain ⟨j0, hj, hy0, hy1, hy2⟩ := info_parts Tryz.infoEv
  go_enter Tryz.func42, Tryz.ntmps42
  go_wp2
  go_loopw [6, 7] (fun v i wr => ∃ k : Nat, k ≤ ls.length ∧ i = .int .i64 k ∧ wr.ownsRow w.heap.size 9 1 v k (strCs ((ls.take k).map unq)) ∧ Below w.heap.size w wr ∧ Hid (scan isQ ls k = quoteN ls)) (fun _ i _ => ls.length - (intOf i).toNat)
  case atStart => exact ⟨0, Nat.zero_le _, rfl, (by simpa [strCs] using World.ownsRow_nil _ _ _ _), Below.refl _ _, (by show _ = _; rfl)⟩
  case round =>
    obtain ⟨k, hk, rfl, hown, hbel, hP⟩ := hrel
    have hbs := hbel.size
    have hend : quoteN ls = k → Hid (∀ W v2, w.heap.size ≤ W.heap.size → W.ownsRow w.heap.size 9 1 v2 k (strCs ((ls.take k).map unq)) → Calls Tryz.prog 15 #[v2, .int .i64 (depth + 1)] W fun e w' => ∃ v', e = .returned v' ∧ w'.ownsRow W.heap.size 83 4 v' (inner (quoteIn ls)).length (evCs (inner (quoteIn ls))) ∧ Below W.heap.size W w') := by
      intro hq W v2 hW ho
      have hl : ((ls.take k).map unq).length = k := by rw [List.length_map, List.length_take]; omega
      have := HB.out v2 ((ls.take k).map unq) W (lines_own (by rw [hl]; exact ho)) (quote_small HM.out k)
      rw [quoteIn, hq]
      exact this
    have hbnd : quoteN ls = k → (inner (quoteIn ls)).length ≤ 16 * k := by
      intro hq
      have := HI.out (quoteIn ls)
      rw [quoteIn, hq, List.length_map, List.length_take] at this
      rw [quoteIn, hq]
      omega
    by_cases hlt : k < ls.length
    · obtain ⟨l, hl⟩ : ∃ l, ls[k] = l := ⟨_, rfl⟩
      obtain ⟨b, hb⟩ : ∃ b : ByteArray, b = ⟨l.toArray⟩ := ⟨_, rfl⟩
      have hcell := (HS.out.below hbel hglt).cell k l (by rw [List.getElem?_eq_getElem hlt, hl])
      rw [← hb] at hcell
      have hbl : b.data.toList = l := by rw [hb]
      have hsz : b.size ≤ 1073741824 := by rw [hb, size_of]; exact HM.out.2 l (by rw [← hl]; exact List.getElem_mem hlt)
      have hgo : isQ l = true → Hid (scan isQ ls (k + 1) = quoteN ls) := by
        intro hq
        show _ = _
        rw [← scan_lt isQ ls k hlt (by rw [hl]; exact hq), hP.out]
      have hst : isQ l = false → quoteN ls = k := by
        intro hq
        rw [← hP.out]
        exact scan_at isQ ls k hlt (by rw [hl]; exact hq)
      have htk : Hid (strCs ((ls.take (k + 1)).map unq) = strCs ((ls.take k).map unq) ++ [.string ⟨(unq l).toArray⟩]) := by
        show _ = _
        rw [snoc_take ls k hlt, hl]
        simp [strCs]
      by_cases hq : ∃ h0 : 0 < b.size, b[0] = 62
      · obtain ⟨h0, h62⟩ := hq
        have hl1 : l = 62 :: (b.extract 1 b.size).data.toList := by rw [← hbl, ext_tail b h0, h62]
        have HP2 := hgo (by rw [hl1]; rfl)
        have k1 : ((b[0].toNat : Int) == 62) = true := by rw [h62]; rfl
        have hu : unq l = unq1 (b.extract 1 b.size).data.toList := by rw [hl1]; rfl
        have hxs : (b.extract 1 b.size).size = b.size - 1 := by simp
        clear hgo hst hend hbnd hl1 hbl hl h62 hb
        obtain ⟨s, hs⟩ : ∃ s, b.extract 1 b.size = s := ⟨_, rfl⟩
        by_cases hq2 : ∃ h1 : 0 < s.size, s[0] = 32
        · obtain ⟨h1, h32⟩ := hq2
          have HN : Hid (strCs ((ls.take (k + 1)).map unq) = strCs ((ls.take k).map unq) ++ [.string (s.extract 1 s.size)]) := by
            show _ = _
            rw [htk.out]
            have : unq l = (s.extract 1 s.size).data.toList := by
              rw [hu, hs, ext_tail s h1, h32]
              simp [unq1]
            rw [this, ← bytes_of _ _ rfl]
          have k2 : ((s[0].toNat : Int) == 32) = true := by rw [h32]; rfl
          have h1' : 1 < b.size := by rw [hs] at hxs; omega
          clear hu htk h32 hP
          subst hs
          go_wp2_with (at_builtin; refine wpList_append_own _ rfl _ _ 25 rfl w.heap.size 9 i0 (.string ⟨#[]⟩) 1 16 Tryz.underlying25 hi hz0 hz1 hz2 rfl (by decide) _ _ _ rfl (hown.alloc _) ⟨wr.heap.size, 0, none⟩ 1 1 [.string ((b.extract 1 b.size).extract 1 (b.extract 1 b.size).size)] rfl rfl ?c1 ?c2 ?c3 ?c4 ?c5 ?_)
          case c1 =>
            intro j u hj
            match j, hj with
            | 0, hj => simp at hj; subst hj; simp [Addr.add]
          case c2 => intro u hu; simp at hu; subst hu; rfl
          case c3 => unfold maxLen; omega
          case c4 => omega
          case c5 => simp; omega
          intro v' w1 hown' hgrow _
          go_wp2
          go_roundw
          case rel =>
            refine ⟨k + 1, by omega, by go_num, ?_, (hbel.alloc hbs _).grown hgrow (by simp; omega) (fun b hb => (hown.lt b hb).1), HP2⟩
            rw [HN.out]
            simpa [strCs] using hown'
          case measure => simp [intOf]; omega
        · have HN : Hid (strCs ((ls.take (k + 1)).map unq) = strCs ((ls.take k).map unq) ++ [.string s]) := by
            show _ = _
            rw [htk.out]
            have : unq l = s.data.toList := by
              rw [hu, hs]
              by_cases h1 : 0 < s.size
              · rw [ext_tail s h1]
                have : ¬ s[0] = 32 := fun h => hq2 ⟨h1, h⟩
                simp [unq1, this]
              · have : s.data.toList = [] := by
                  rw [← List.length_eq_zero_iff, Array.length_toList]
                  show s.size = 0
                  omega
                rw [this]
                rfl
            rw [this, ← bytes_of _ _ rfl]
          have hz : ∀ h1 : 0 < s.size, ((s[0].toNat : Int) == 32) = false := by
            intro h1
            exact (u8_eq s[0] 32).trans (beq_eq_false_iff_ne.2 fun h => hq2 ⟨h1, h⟩)
          clear hu htk hq2 hP
          by_cases h1 : 0 < s.size
          · have k2 := hz h1
            clear hz
            subst hs
            go_wp2_with (at_builtin; refine wpList_append_own _ rfl _ _ 25 rfl w.heap.size 9 i0 (.string ⟨#[]⟩) 1 16 Tryz.underlying25 hi hz0 hz1 hz2 rfl (by decide) _ _ _ rfl (hown.alloc _) ⟨wr.heap.size, 0, none⟩ 1 1 [.string (b.extract 1 b.size)] rfl rfl ?c1 ?c2 ?c3 ?c4 ?c5 ?_)
            case c1 =>
              intro j u hj
              match j, hj with
              | 0, hj => simp at hj; subst hj; simp [Addr.add]
            case c2 => intro u hu; simp at hu; subst hu; rfl
            case c3 => unfold maxLen; omega
            case c4 => omega
            case c5 => simp; omega
            intro v' w1 hown' hgrow _
            go_wp2
            go_roundw
            case rel =>
              refine ⟨k + 1, by omega, by go_num, ?_, (hbel.alloc hbs _).grown hgrow (by simp; omega) (fun b hb => (hown.lt b hb).1), HP2⟩
              rw [HN.out]
              simpa [strCs] using hown'
            case measure => simp [intOf]; omega
          · clear hz
            subst hs
            go_wp2_with (at_builtin; refine wpList_append_own _ rfl _ _ 25 rfl w.heap.size 9 i0 (.string ⟨#[]⟩) 1 16 Tryz.underlying25 hi hz0 hz1 hz2 rfl (by decide) _ _ _ rfl (hown.alloc _) ⟨wr.heap.size, 0, none⟩ 1 1 [.string (b.extract 1 b.size)] rfl rfl ?c1 ?c2 ?c3 ?c4 ?c5 ?_)
            case c1 =>
              intro j u hj
              match j, hj with
              | 0, hj => simp at hj; subst hj; simp [Addr.add]
            case c2 => intro u hu; simp at hu; subst hu; rfl
            case c3 => unfold maxLen; omega
            case c4 => omega
            case c5 => simp; omega
            intro v' w1 hown' hgrow _
            go_wp2
            go_roundw
            case rel =>
              refine ⟨k + 1, by omega, by go_num, ?_, (hbel.alloc hbs _).grown hgrow (by simp; omega) (fun b hb => (hown.lt b hb).1), HP2⟩
              rw [HN.out]
              simpa [strCs] using hown'
            case measure => simp [intOf]; omega
      · have hqn : quoteN ls = k := hst (by
          cases hc : l with
          | nil => rfl
          | cons c r =>
            show (c == 62) = false
            have h0 : 0 < b.size := by rw [hb, size_of, hc]; simp
            have := ext_tail b h0
            rw [hbl, hc] at this
            injection this with h1 h2
            rw [h1, beq_eq_false_iff_ne]
            exact fun h => hq ⟨h0, h⟩)
        have hEnd := hend hqn
        have hBnd := hbnd hqn
        clear hend hbnd hgo hst htk hbl hl hb hP
        have hq' : ∀ h0 : 0 < b.size, ((b[0].toNat : Int) == 62) = false := by
          intro h0
          exact (u8_eq b[0] 62).trans (beq_eq_false_iff_ne.2 fun h => hq ⟨h0, h⟩)
        clear hq
        by_cases h0 : 0 < b.size
        · have k1 := hq' h0
          clear hq'
          have oL := own_lit wr ⟨2, false, 0, []⟩ 83
          go_wp2_with (first | (go_at_call 15; refine (hEnd.out _ _ (by simp; omega) (hown.alloc _)).mono ?_; rintro e w1 ⟨vb, rfl, ownb, belb⟩) | (at_builtin; refine wpList_append_row _ rfl _ _ 27 rfl w.heap.size w.heap.size 83 j0 (.agg #[.int .i64 0, .bool false, .int .i64 0, .string ⟨#[]⟩]) 4 40 Tryz.underlying27 hj hy0 hy1 hy2 rfl (by decide) _ 1 (evCs [⟨2, false, 0, []⟩]) rfl (Joins.ownsRow_le (own_below oL belb (Nat.le_refl _)) hbs) _ _ _ rfl (Joins.ownsRow_le ownb (by simp; omega)) (evCs_one' _) ?c3 ?c4 ?c5 ?_))
          case c3 => unfold maxLen; omega
          case c4 => omega
          case c5 => have := belb.size; simp at this; omega
          intro v2 w2 own2 grow2
          have z1 := belb.size
          simp at z1
          have b1 : Below w.heap.size w w1 := (hbel.alloc hbs _).trans (belb.mono (by simp; omega))
          have b2 : Below w.heap.size w w2 := b1.grown grow2 (by omega) (fun b hb => (Joins.ownsRow_le (own_below oL belb (Nat.le_refl _)) hbs).lt b hb |>.1)
          have z2 := b2.size
          go_wp2_with (at_builtin; refine wpList_append_own _ rfl _ _ 27 rfl w.heap.size 83 j0 (.agg #[.int .i64 0, .bool false, .int .i64 0, .string ⟨#[]⟩]) 4 40 Tryz.underlying27 hj hy0 hy1 hy2 rfl (by decide) _ _ _ rfl (own2.alloc _) ⟨w2.heap.size, 0, none⟩ 1 1 (evCells ⟨2, true, 0, []⟩) rfl rfl ?d1 (ev_one _) ?d3 ?d4 ?d5 ?_)
          case d1 => exact ev_cell _ _ _ (by simp)
          case d3 => unfold maxLen; omega
          case d4 => omega
          case d5 => simp; omega
          intro v3 w3 own3 grow3 _
          go_wp2
          go_ret2
          refine ⟨v3, by subst hqn; rfl, ?_, (b2.alloc z2 _).grown grow3 (by simp; omega) (fun b hb => (own2.lt b hb).1)⟩
          rw [quote_len, quote_cells]
          first | exact own3 | (simpa only [List.append_assoc] using own3)
        · clear hq'
          have oL := own_lit wr ⟨2, false, 0, []⟩ 83
          go_wp2_with (first | (go_at_call 15; refine (hEnd.out _ _ (by simp; omega) (hown.alloc _)).mono ?_; rintro e w1 ⟨vb, rfl, ownb, belb⟩) | (at_builtin; refine wpList_append_row _ rfl _ _ 27 rfl w.heap.size w.heap.size 83 j0 (.agg #[.int .i64 0, .bool false, .int .i64 0, .string ⟨#[]⟩]) 4 40 Tryz.underlying27 hj hy0 hy1 hy2 rfl (by decide) _ 1 (evCs [⟨2, false, 0, []⟩]) rfl (Joins.ownsRow_le (own_below oL belb (Nat.le_refl _)) hbs) _ _ _ rfl (Joins.ownsRow_le ownb (by simp; omega)) (evCs_one' _) ?c3 ?c4 ?c5 ?_))
          case c3 => unfold maxLen; omega
          case c4 => omega
          case c5 => have := belb.size; simp at this; omega
          intro v2 w2 own2 grow2
          have z1 := belb.size
          simp at z1
          have b1 : Below w.heap.size w w1 := (hbel.alloc hbs _).trans (belb.mono (by simp; omega))
          have b2 : Below w.heap.size w w2 := b1.grown grow2 (by omega) (fun b hb => (Joins.ownsRow_le (own_below oL belb (Nat.le_refl _)) hbs).lt b hb |>.1)
          have z2 := b2.size
          go_wp2_with (at_builtin; refine wpList_append_own _ rfl _ _ 27 rfl w.heap.size 83 j0 (.agg #[.int .i64 0, .bool false, .int .i64 0, .string ⟨#[]⟩]) 4 40 Tryz.underlying27 hj hy0 hy1 hy2 rfl (by decide) _ _ _ rfl (own2.alloc _) ⟨w2.heap.size, 0, none⟩ 1 1 (evCells ⟨2, true, 0, []⟩) rfl rfl ?d1 (ev_one _) ?d3 ?d4 ?d5 ?_)
          case d1 => exact ev_cell _ _ _ (by simp)
          case d3 => unfold maxLen; omega
          case d4 => omega
          case d5 => simp; omega
          intro v3 w3 own3 grow3 _
          go_wp2
          go_ret2
          refine ⟨v3, by subst hqn; rfl, ?_, (b2.alloc z2 _).grown grow3 (by simp; omega) (fun b hb => (own2.lt b hb).1)⟩
          rw [quote_len, quote_cells]
          first | exact own3 | (simpa only [List.append_assoc] using own3)
    · have hqn : quoteN ls = k := by
        rw [← hP.out]
        exact scan_end isQ ls k (by omega)
      have hEnd := hend hqn
      have hBnd := hbnd hqn
      clear hend hbnd hP
      have oL := own_lit wr ⟨2, false, 0, []⟩ 83
      go_wp2_with (first | (go_at_call 15; refine (hEnd.out _ _ (by simp; omega) (hown.alloc _)).mono ?_; rintro e w1 ⟨vb, rfl, ownb, belb⟩) | (at_builtin; refine wpList_append_row _ rfl _ _ 27 rfl w.heap.size w.heap.size 83 j0 (.agg #[.int .i64 0, .bool false, .int .i64 0, .string ⟨#[]⟩]) 4 40 Tryz.underlying27 hj hy0 hy1 hy2 rfl (by decide) _ 1 (evCs [⟨2, false, 0, []⟩]) rfl (Joins.ownsRow_le (own_below oL belb (Nat.le_refl _)) hbs) _ _ _ rfl (Joins.ownsRow_le ownb (by simp; omega)) (evCs_one' _) ?c3 ?c4 ?c5 ?_))
      case c3 => unfold maxLen; omega
      case c4 => omega
      case c5 => have := belb.size; simp at this; omega
      intro v2 w2 own2 grow2
      have z1 := belb.size
      simp at z1
      have b1 : Below w.heap.size w w1 := (hbel.alloc hbs _).trans (belb.mono (by simp; omega))
      have b2 : Below w.heap.size w w2 := b1.grown grow2 (by omega) (fun b hb => (Joins.ownsRow_le (own_below oL belb (Nat.le_refl _)) hbs).lt b hb |>.1)
      have z2 := b2.size
      go_wp2_with (at_builtin; refine wpList_append_own _ rfl _ _ 27 rfl w.heap.size 83 j0 (.agg #[.int .i64 0, .bool false, .int .i64 0, .string ⟨#[]⟩]) 4 40 Tryz.underlying27 hj hy0 hy1 hy2 rfl (by decide) _ _ _ rfl (own2.alloc _) ⟨w2.heap.size, 0, none⟩ 1 1 (evCells ⟨2, true, 0, []⟩) rfl rfl ?d1 (ev_one _) ?d3 ?d4 ?d5 ?_)
      case d1 => exact ev_cell _ _ _ (by simp)
      case d3 => unfold maxLen; omega
      case d4 => omega
      case d5 => simp; omega
      intro v3 w3 own3 grow3 _
      go_wp2
      go_ret2
      refine ⟨v3, by subst hqn; rfl, ?_, (b2.alloc z2 _).grown grow3 (by simp; omega) (fun b hb => (own2.lt b hb).1)⟩
      rw [quote_len, quote_cells]
      first | exact own3 | (simpa only [List.append_assoc] using own3)

end Go.Proofs.YtljcljipppjnoaaGreatDoor
