import Derived.Test.YtkabhbbhliffcaaGreatDoorDevCode
import Derived.Deep.RegionLaw
import Derived.Deep.AppendLies
namespace Go.Proofs.YtkabhbbhliffcaaGreatDoor
open Go.RowKit Go.Shelf

theorem alloc3 (W : World) (x y z : Obj) : (((W.alloc x).alloc y).alloc z).heap[W.heap.size]? = some x ∧ (((W.alloc x).alloc y).alloc z).heap[W.heap.size + 1]? = some y ∧ (((W.alloc x).alloc y).alloc z).heap[W.heap.size + 1 + 1]? = some z ∧ Below W.heap.size W (((W.alloc x).alloc y).alloc z) := by
  have e1 : (W.alloc x).heap.size = W.heap.size + 1 := by simp
  have e2 : ((W.alloc x).alloc y).heap.size = W.heap.size + 1 + 1 := by simp
  refine ⟨?_, ?_, ?_, ?_⟩
  · exact heap_al _ _ (by omega) (heap_al _ _ (by omega) (heap_alloc_new W x))
  · refine heap_al _ _ (by omega) ?_
    have := heap_alloc_new (W.alloc x) y
    rw [e1] at this
    exact this
  · have := heap_alloc_new ((W.alloc x).alloc y) z
    rw [e2] at this
    exact this
  · exact (((Below.refl _ W).alloc (Nat.le_refl _) _).alloc (by omega) _).alloc (by omega) _
theorem str_cell (w : World) (t : ByteArray) {n : Nat} (hn : n = w.heap.size) : ∀ j u, [Value.string t][j]? = some u → (w.alloc (.cells #[.string t] 9)).cell? ((⟨n, 0, none⟩ : Addr).add j) = some u := by
  subst hn
  intro j u hj
  match j, hj with
  | 0, hj => simp at hj; subst hj; simp [Addr.add]
theorem str_one (t : ByteArray) : ∀ u ∈ [Value.string t], u.oneCell' = true := by
  intro u hu
  simp at hu
  subst hu
  rfl

/-- What each does with some lines, at a depth. -/
def EachC (d : Int) (f : List (List UInt8) → List Ev) : Prop :=
  ∀ (b0 : Nat) (acc : List Ev) (v : Value) (ls : List (List UInt8)) (W : World), Told b0 acc W → LinesV v ls W → (∀ g, v.ownBlock = some g → ¬ Own b0 W g) → tot ls ≤ 1073741824 → (acc.length : Int) + 16 * (ls.length : Int) + 4 * (4 - d) ≤ 1099511627776 →
    Calls Tryz.prog 29 #[v, .int .i64 d, .func (.func 28) #[] #[.pointer (some ⟨b0, 0, none⟩)]] W fun e w' => e = .returned (.tuple #[]) ∧ Told b0 (acc ++ f ls) w' ∧ Kp b0 none W.heap.size W w'

set_option maxRecDepth 100000 in
set_option maxHeartbeats 2000000 in
/-- What stands within a quote. -/
theorem inQuote_any (f : List (List UInt8) → List Ev) (d : Int) (hd : 0 ≤ d ∧ d < 3) (hE : EachC (d + 1) f) (b0 : Nat) (acc : List Ev) (bi bd bo : Nat) (v : Value) (ls : List (List UInt8)) (W : World) (hT : Told b0 acc W) (hL : LinesV v ls W) (hO : ∀ g, v.ownBlock = some g → ¬ Own b0 W g) (hM : tot ls ≤ 1073741824) (hlen : (acc.length : Int) + 16 * (ls.length : Int) + 4 * (4 - (d + 1)) ≤ 1099511627776)
    (h1 : W.heap[bi]? = some (.cells #[v] 25 (0, 0))) (h2 : W.heap[bd]? = some (.cells #[.int .i64 d] 3 (0, 0))) (h3 : W.heap[bo]? = some (.cells #[.func (.func 28) #[] #[.pointer (some ⟨b0, 0, none⟩)]] 52 (0, 0))) :
    Calls Tryz.prog 58 #[.pointer (some ⟨bi, 0, none⟩), .pointer (some ⟨bd, 0, none⟩), .pointer (some ⟨bo, 0, none⟩)] W fun e w' => e = .returned (.tuple #[]) ∧ Told b0 (acc ++ f ls) w' ∧ Kp b0 none W.heap.size W w' := by
  have c1 := cell_of_one h1
  have c2 := cell_of_one h2
  have c3 := cell_of_one h3
  have hc := hE b0 acc v ls W hT hL hO hM hlen
  obtain ⟨hd1, hd2⟩ := hd
  clear hE hT hO
  rcases hL with ⟨rfl, rfl⟩ | ⟨g, o, cap, rfl, hS⟩
  all_goals
    go_enter Tryz.func58, Tryz.ntmps58
    go_wp2_with (go_at_call 29; refine hc.mono ?_; rintro e w1 ⟨rfl, T1, K1⟩)
    go_end0
    exact ⟨rfl, T1, K1⟩

theorem own_kp {b0 base size n : Nat} {e : TypeId} {v : Value} {xs : List Value} {W w' : World} (h : W.ownsRow base e size v n xs) (hk : Kp b0 none W.heap.size W w') (ho : ∀ g, v.ownBlock = some g → ¬ Own b0 W g) : w'.ownsRow base e size v n xs := by
  refine ⟨h.1, ?_⟩
  rcases h.2 with h0 | ⟨g, cap, cur, hv, hg, hh, r⟩
  · exact Or.inl h0
  · exact Or.inr ⟨g, cap, cur, hv, hg, (hk.block g (lt_of_block hh) (by simp) (ho g (by rw [hv]; rfl))).trans hh, r⟩

set_option maxRecDepth 100000 in
set_option maxHeartbeats 2000000 in
theorem dquote_any (f : List (List UInt8) → List Ev) (d : Int) (hd : 0 ≤ d ∧ d < 3) (hE : EachC (d + 1) f) (hfl : ∀ ls, (f ls).length ≤ 16 * ls.length) (b0 : Nat) (acc : List Ev) (g o cap : Nat) (ls : List (List UInt8)) (W : World) (hT : Told b0 acc W) (hlen : (acc.length : Int) + 16 * (ls.length : Int) + 4 * (4 - d) ≤ 1099511627776) (hS : Strs g o cap ls W) (hO : ¬ Own b0 W g) (hM : tot ls ≤ 1073741824) :
    Calls Tryz.prog 42 #[.slice (some ⟨g, o, none⟩) ls.length cap, .int .i64 d, .func (.func 28) #[] #[.pointer (some ⟨b0, 0, none⟩)]] W fun e w' =>
      (∃ v, e = .returned v ∧ RestV g (ls.drop (quoteN ls)) w' v) ∧ Told b0 (acc ++ quoteS f ls) w' ∧ Kp b0 none W.heap.size W w' := by
  have hmf : ∀ (fn : Fn) (first cap : Array Value) (w : World), (Instr.makeFunc fn first cap).run Tryz.prog w = .ok (.func fn first cap) w := fun _ _ _ _ => rfl
  obtain ⟨i0, hi, hz0, hz1, hz2⟩ := info_parts Tryz.infoStr
  have hb0 := hT.lt
  have hglt := hS.lt
  have hll := tot_len ls
  have hd1 := hd.1
  have hd2 := hd.2
  have HT : Hid (Told b0 acc W) := hT
  have HM : Hid (tot ls ≤ 1073741824) := hM
  have HO : Hid (¬ Own b0 W g) := hO
  have HE : Hid (EachC (d + 1) f) := hE
  have HFL : Hid (∀ ls, (f ls).length ≤ 16 * ls.length) := hfl
  have HS0 := hS
  obtain ⟨dr, hdr0⟩ : ∃ dr, ls.drop (quoteN ls) = dr := ⟨_, rfl⟩
  rw [hdr0]
  have HD : Hid (ls.drop (quoteN ls) = dr) := hdr0
  clear hT hO hS hE hfl hdr0 hd
  go_enter Tryz.func42, Tryz.ntmps42
  go_wp2
  go_loopg [0] ls.length (fun gk v0 wr => ∃ (k o1 cap1 : Nat) (rs : List (List UInt8)) (v : Value), v0 = .slice (some ⟨g, o1, none⟩) rs.length cap1 ∧ rs.length ≤ gk ∧ Hid (rs = ls.drop k) ∧ Hid (Strs g o1 cap1 rs W) ∧ wr.ownsRow (W.heap.size + 3) 9 1 v k (strCs ((ls.take k).map unq)) ∧ Below W.heap.size W wr ∧ wr.heap[W.heap.size]? = some (.cells #[.int .i64 d] 3 (0, 0)) ∧ wr.heap[W.heap.size + 1]? = some (.cells #[.func (.func 28) #[] #[.pointer (some ⟨b0, 0, none⟩)]] 52 (0, 0)) ∧ wr.heap[W.heap.size + 1 + 1]? = some (.cells #[v] 25 (0, 0)) ∧ Hid (scan isQ ls k = quoteN ls) ∧ rs.length ≤ cap1 ∧ cap1 ≤ 9223372036854775807 ∧ k + rs.length = ls.length)
  case atStart =>
    obtain ⟨a0, a1, a2, a3⟩ := alloc3 W (.cells #[.int .i64 d] 3) (.cells #[.func (.func 28) #[] #[.pointer (some ⟨b0, 0, none⟩)]] 52) (.cells #[.slice none 0 0] 25)
    exact ⟨0, o, cap, ls, .slice none 0 0, rfl, Nat.le_refl _, (by show _ = _; rfl), HS0, (by simpa [strCs] using World.ownsRow_nil _ _ _ _), a3, a0, a1, a2, (by show _ = _; rfl), HS0.fits, HS0.max, by omega⟩
  case round =>
    clear HS0
    obtain ⟨k, o1, cap1, rs, v, rfl, hgk, HR, HS, hown, hbel, hx0, hx1, hx2, HP, hc1, hc2, hkl⟩ := hrel
    have hbs := hbel.size
    have hgwr : g < wr.heap.size := by omega
    have hxc := cell_of_one hx2
    have hxf := free_of_one hx2
    have hfin : quoteN ls = k → Hid (Calls Tryz.prog 57 #[.agg #[.int .i64 2, .bool false, .int .i64 0, .string ⟨#[]⟩], .func (.func 28) #[] #[.pointer (some ⟨b0, 0, none⟩)], .func (.func 58) #[] #[.pointer (some ⟨W.heap.size + 1 + 1, 0, none⟩), .pointer (some ⟨W.heap.size, 0, none⟩), .pointer (some ⟨W.heap.size + 1, 0, none⟩)]] wr fun e w' => e = .returned (.tuple #[]) ∧ Told b0 (acc ++ quoteS f ls) w' ∧ Kp b0 none W.heap.size W w') ∧ Hid (∀ w', Kp b0 none W.heap.size W w' → RestV g dr w' (.slice (some ⟨g, o1, none⟩) rs.length cap1)) := by
      intro hk
      have hw3 := lt_of_block hx2
      have hql : (quoteIn ls).length = k := by rw [quoteIn, hk, List.length_map, List.length_take]; omega
      have hqs : strCs ((ls.take k).map unq) = strCs (quoteIn ls) := by rw [quoteIn, hk]
      have hoff : ∀ b, W.heap.size ≤ b → ¬ Own b0 wr b := fun b hb => own_new HT.out (hbel.block b0 hb0) hb
      have hvo : ∀ g', v.ownBlock = some g' → ¬ Own b0 wr g' := fun g' hg' => hoff g' (by have := (hown.lt g' hg').1; omega)
      have hfl2 := HFL.out (quoteIn ls)
      refine ⟨?_, ?_⟩
      · refine (within_any b0 none acc (f (quoteIn ls)) ⟨2, false, 0, []⟩ 58 #[.pointer (some ⟨W.heap.size + 1 + 1, 0, none⟩), .pointer (some ⟨W.heap.size, 0, none⟩), .pointer (some ⟨W.heap.size + 1, 0, none⟩)] wr (fun _ => True) (enters_of Tryz.func58 (by kernel_rfl) rfl) (HT.out.below hbel) (by omega) (fun g' hg' => by cases hg') ?_ (fun _ _ _ _ => trivial)).mono ?_
        · intro W' hT' hK'
          refine (inQuote_any f d ⟨hd1, hd2⟩ HE.out b0 (acc ++ [⟨2, false, 0, []⟩]) (W.heap.size + 1 + 1) W.heap.size (W.heap.size + 1) v (quoteIn ls) W' hT' ?_ ?_ (Nat.le_trans (tot_quote ls) HM.out) ?_ ?_ ?_ ?_).mono fun e w' h => ⟨h.1, h.2.1, h.2.2, trivial⟩
          · have := own_kp hown hK' hvo
            rw [hqs, ← hql] at this
            exact lines_own this
          · intro g' hg'
            exact hK'.off ((hown.lt g' hg').2) (hvo g' hg')
          · rw [List.length_append, List.length_singleton, hql]; omega
          · exact (hK'.block _ (by omega) (by simp) (hoff _ (by omega))).trans hx2
          · exact (hK'.block _ (by omega) (by simp) (hoff _ (by omega))).trans hx0
          · exact (hK'.block _ (by omega) (by simp) (hoff _ (by omega))).trans hx1
        · rintro e w' ⟨rfl, T, K, _⟩
          refine ⟨rfl, ?_, (Kp.below hbel hb0).trans (K.mono hbs)⟩
          have : acc ++ quoteS f ls = acc ++ [⟨2, false, 0, []⟩] ++ f (quoteIn ls) ++ [evEnd ⟨2, false, 0, []⟩] := by simp [quoteS, evEnd]
          rw [this]
          exact T
      · intro w' hK
        rw [← HD.out, hk, ← HR.out]
        exact ⟨o1, cap1, rfl, HS.out.kept hK hglt (by simp) HO.out⟩
    have hc0 := cell_of_one hx0
    have hc1' := cell_of_one hx1
    cases rs with
    | nil =>
      have hkk : quoteN ls = k := by
        rw [← HP.out]
        exact scan_end isQ ls k (by simp at hkl; omega)
      obtain ⟨HW, HRv⟩ := hfin hkk
      clear hfin hkk hown hx0 hx1 hx2
      go_wp2_with (go_at_call 57; refine HW.out.mono ?_; rintro e w5 ⟨rfl, T5, K5⟩)
      go_ret
      exact ⟨⟨_, rfl, HRv.out w5 K5⟩, T5, K5⟩
    | cons l r =>
      obtain ⟨hlt, hlk, hdr⟩ := drop_facts HR.out
      have hcell := (HS.out.below hbel hglt).cell 0 l rfl
      rw [Nat.add_zero] at hcell
      have hcQ := fun W => dquoted_any ⟨l.toArray⟩ W
      rw [List.length_cons] at hgk hc1 hkl hfin ⊢
      cases hq : beginsS ⟨l.toArray⟩ ⟨#[62]⟩ with
      | true =>
        have hcU := fun W => dunq_any ⟨l.toArray⟩ W hq
        have hun : unq (⟨l.toArray⟩ : ByteArray).data.toList = unq l := rfl
        rw [hun] at hcU
        have HTK : Hid (strCs ((ls.take (k + 1)).map unq) = strCs ((ls.take k).map unq) ++ [.string ⟨(unq l).toArray⟩]) := by
          show _ = _
          rw [snoc_take ls k hlt, hlk]
          simp [strCs]
        have HP2 : Hid (scan isQ ls (k + 1) = quoteN ls) := by
          show _ = _
          rw [← scan_lt isQ ls k hlt (by rw [hlk]; exact begins_q l hq), HP.out]
        generalize unq l = ul at hcU HTK hun
        rw [hq] at hcQ
        clear hq hun hfin
        have HR2 : Hid (r = ls.drop (k + 1)) := hdr.symm
        have hwb0 := lt_of_block hx2
        have HST : Hid (∀ w1 g' cap', (wr.drew.alloc (.cells #[.string ⟨ul.toArray⟩] 9)).grownBy w1 v.ownBlock → w1.ownsRow (W.heap.size + 3) 9 1 (.slice (some ⟨g', 0, none⟩) (k + 1) cap') (k + 1) (strCs ((ls.take k).map unq) ++ [.string ⟨ul.toArray⟩]) →
            (w1.setCell ⟨W.heap.size + 1 + 1, 0, none⟩ (.slice (some ⟨g', 0, none⟩) (k + 1) cap')).ownsRow (W.heap.size + 3) 9 1 (.slice (some ⟨g', 0, none⟩) (k + 1) cap') (k + 1) (strCs ((ls.take (k + 1)).map unq)) ∧ Below W.heap.size W (w1.setCell ⟨W.heap.size + 1 + 1, 0, none⟩ (.slice (some ⟨g', 0, none⟩) (k + 1) cap')) ∧
            (w1.setCell ⟨W.heap.size + 1 + 1, 0, none⟩ (.slice (some ⟨g', 0, none⟩) (k + 1) cap')).heap[W.heap.size]? = some (.cells #[.int .i64 d] 3 (0, 0)) ∧ (w1.setCell ⟨W.heap.size + 1 + 1, 0, none⟩ (.slice (some ⟨g', 0, none⟩) (k + 1) cap')).heap[W.heap.size + 1]? = some (.cells #[.func (.func 28) #[] #[.pointer (some ⟨b0, 0, none⟩)]] 52 (0, 0)) ∧ (w1.setCell ⟨W.heap.size + 1 + 1, 0, none⟩ (.slice (some ⟨g', 0, none⟩) (k + 1) cap')).heap[W.heap.size + 1 + 1]? = some (.cells #[.slice (some ⟨g', 0, none⟩) (k + 1) cap'] 25 (0, 0))) := by
          intro w1 g' cap' gr ow
          have hn : ∀ b, b < W.heap.size + 3 → some b ≠ v.ownBlock := fun b hb h => by have := (hown.lt b h.symm).1; omega
          have hh : ∀ b, b < W.heap.size + 3 → w1.heap[b]? = wr.heap[b]? := fun b hb => (gr.block b (by simp; omega) (hn b hb)).trans (Below.heap_alloc wr.drew _ b (show b < wr.heap.size by omega))
          have hb1 : Below W.heap.size W w1 := (hbel.drew.alloc (show W.heap.size ≤ wr.heap.size by omega) _).grown gr (by simp; omega) (fun b hb => by have := (hown.lt b hb).1; omega)
          refine ⟨?_, hb1.setCell (by show _ ≤ W.heap.size + 1 + 1; omega) _, ?_, ?_, one_setCell ((hh _ (by omega)).trans hx2)⟩
          · rw [HTK.out]
            exact ownsRow_setCell_below ow (by show W.heap.size + 1 + 1 < _; omega) _
          · rw [Below.heap_setCell _ _ _ _ (by show _ ≠ W.heap.size + 1 + 1; omega)]
            exact (hh _ (by omega)).trans hx0
          · rw [Below.heap_setCell _ _ _ _ (by show _ ≠ W.heap.size + 1 + 1; omega)]
            exact (hh _ (by omega)).trans hx1
        go_upto_region 3 with (go_at_call 51; refine (hcQ _).mono ?_; rintro e w' ⟨rfl, hw⟩; rw [hw]; clear hw)
        have hwb := lt_of_block hx2
        have hne1 : ¬ W.heap.size + 1 + 1 = g := by omega
        have hne2 : ¬ g = W.heap.size + 1 + 1 := by omega
        have hne3 : some g ≠ v.ownBlock := fun h => by have := (hown.lt g h.symm).1; omega
        have hne4 : ¬ g = wr.heap.size := by omega
        have hne5 : some (W.heap.size + 1 + 1) ≠ v.ownBlock := fun h => by have := (hown.lt _ h.symm).1; omega
        go_region_law (first | (go_simp; go_at_call 56; refine (hcU _).mono ?_; rintro e w' ⟨rfl, hw⟩; rw [hw]; clear hw; simp only []) | (refine step_append_lies _ rfl _ _ 25 rfl (W.heap.size + 3) 9 i0 (.string ⟨#[]⟩) 1 16 Tryz.underlying25 hi hz0 hz1 hz2 rfl (by decide) _ k (strCs ((ls.take k).map unq)) rfl (hown.alloc _) ⟨wr.heap.size, 0, none⟩ 1 1 [.string ⟨ul.toArray⟩] rfl rfl (str_cell _ _ (by simp)) (str_one _) (by decide) (by unfold maxLen; omega) (by omega) (by simp; omega) (wr.heap.size + 1) (by simp) ?_; intro g' cap' w1 own1 grow1 at1 lt1; have k2 : w1.cell? ⟨g, o1, none⟩ = some (.string ⟨l.toArray⟩) := (grow1.cell_far ⟨g, o1, none⟩ (by simp; omega) hne3).trans ((World.cell?_alloc_old _ _ _ hne4).trans hcell); have k1 := (grow1.block (W.heap.size + 1 + 1) (by simp; omega) hne5).trans ((Below.heap_alloc _ _ _ hwb).trans hx2); have k3 := cell_of_one k1; have k4 := free_of_one k1))
        all_goals
          obtain ⟨y1, y2, y3, y4, y5⟩ := HST.out w1 g' cap' grow1 own1
          clear own1 grow1 k1 k2 k3 k4
          go_wp2
          all_goals
            go_roundg r.length
            case measure => omega
            case rel => first | exact ⟨k + 1, o1 + 1, cap1 - 1, r, _, rfl, Nat.le_refl _, HR2, HS.out.drop 1 (by simp), y1, y2, y3, y4, y5, HP2, by omega, by omega, by omega⟩ | exact ⟨k + 1, o1, 0, r, _, rfl, Nat.le_refl _, HR2, HS.out.none o1 r (by omega), y1, y2, y3, y4, y5, HP2, by omega, by omega, by omega⟩
      | false =>
        have hkk : quoteN ls = k := by
          rw [← HP.out]
          refine scan_at isQ ls k hlt ?_
          rw [hlk]
          cases l with
          | nil => rfl
          | cons c t =>
            have h2 : ((62 : UInt8) == c) = false := by simpa [beginsS, List.isPrefixOf] using hq
            show (c == 62) = false
            rw [beq_eq_false_iff_ne] at h2 ⊢
            exact fun h => h2 h.symm
        obtain ⟨HW, HRv⟩ := hfin hkk
        rw [hq] at hcQ
        clear hfin hkk hown hx0 hx1 hx2 hq
        go_wp2_with (first | (go_at_call 51; refine (hcQ _).mono ?_; rintro e w' ⟨rfl, hw⟩; rw [hw]; clear hw) | (go_at_call 57; refine HW.out.mono ?_; rintro e w5 ⟨rfl, T5, K5⟩))
        go_ret
        exact ⟨⟨_, rfl, HRv.out w5 K5⟩, T5, K5⟩

end Go.Proofs.YtkabhbbhliffcaaGreatDoor
