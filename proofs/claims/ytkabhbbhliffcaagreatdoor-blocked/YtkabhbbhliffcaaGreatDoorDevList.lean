import Derived.Test.YtkabhbbhliffcaaGreatDoorDevListS
import Derived.Deep.RegionLaw
namespace Go.Proofs.YtkabhbbhliffcaaGreatDoor
open Go.RowKit Go.Shelf

set_option maxRecDepth 100000 in
set_option maxHeartbeats 2000000 in
/-- What stands within an item. -/
theorem inItem_any (f : List (List UInt8) → List Ev) (d : Int) (hd : 0 ≤ d ∧ d < 3) (hE : EachC (d + 1) f) (b0 : Nat) (acc : List Ev) (bi bd bo : Nat) (v : Value) (ls : List (List UInt8)) (W : World) (hT : Told b0 acc W) (hL : LinesV v ls W) (hO : ∀ g, v.ownBlock = some g → ¬ Own b0 W g) (hM : tot ls ≤ 1073741824) (hlen : (acc.length : Int) + 16 * (ls.length : Int) + 4 * (4 - (d + 1)) ≤ 1099511627776)
    (h1 : W.heap[bi]? = some (.cells #[v] 25 (0, 0))) (h2 : W.heap[bd]? = some (.cells #[.int .i64 d] 3 (0, 0))) (h3 : W.heap[bo]? = some (.cells #[.func (.func 28) #[] #[.pointer (some ⟨b0, 0, none⟩)]] 52 (0, 0))) :
    Calls Tryz.prog 61 #[.pointer (some ⟨bi, 0, none⟩), .pointer (some ⟨bd, 0, none⟩), .pointer (some ⟨bo, 0, none⟩)] W fun e w' => e = .returned (.tuple #[]) ∧ Told b0 (acc ++ f ls) w' ∧ Kp b0 none W.heap.size W w' := by
  have c1 := cell_of_one h1
  have c2 := cell_of_one h2
  have c3 := cell_of_one h3
  have hc := hE b0 acc v ls W hT hL hO hM hlen
  obtain ⟨hd1, hd2⟩ := hd
  clear hE hT hO
  rcases hL with ⟨rfl, rfl⟩ | ⟨g, o, cap, rfl, hS⟩
  all_goals
    go_enter Tryz.func61, Tryz.ntmps61
    go_wp2_with (go_at_call 29; refine hc.mono ?_; rintro e w1 ⟨rfl, T1, K1⟩)
    go_end0
    exact ⟨rfl, T1, K1⟩

theorem ditems_at (g o cap : Nat) (l0 : List UInt8) (r0 : List (List UInt8)) (W : World) (hS : Strs g o cap (l0 :: r0) W) (hM : tot (l0 :: r0) ≤ 1073741824) (hI : itemL l0 = true) :
    Calls Tryz.prog 60 #[.slice (some ⟨g, o, none⟩) (r0.length + 1) cap] W fun e w' => ∃ gi ci o3 cap3, e = .returned (.tuple #[.slice (some ⟨gi, 0, none⟩) (itemIn (l0 :: r0) 0).length ci, .slice (some ⟨g, o3, none⟩) ((l0 :: r0).drop (moreAt (l0 :: r0) 1).2).length cap3]) ∧ w'.ownsRow W.heap.size 9 1 (.slice (some ⟨gi, 0, none⟩) (itemIn (l0 :: r0) 0).length ci) (itemIn (l0 :: r0) 0).length (strCs (itemIn (l0 :: r0) 0)) ∧ Strs g o3 cap3 ((l0 :: r0).drop (moreAt (l0 :: r0) 1).2) w' ∧ Below W.heap.size W w' := by
  refine (ditems_any g o cap l0 r0 W hS hM hI).mono ?_
  rintro e w' ⟨v1, v2, rfl, own, ⟨o3, cap3, rfl, hs3⟩, hb⟩
  rcases Joins.ownsRow_forms own with ⟨_, h0⟩ | ⟨gi, ci, rfl⟩
  · rw [itemIn, List.length_cons] at h0
    cases h0
  · exact ⟨gi, ci, o3, cap3, rfl, own, hs3, hb⟩

theorem Kp.setx {b0 bl B : Nat} (w : World) (v : Value) (h : b0 ≠ bl) : Kp b0 (some bl) B w (w.setCell ⟨bl, 0, none⟩ v) := by
  refine ⟨rfl, rfl, rfl, by simp, ?_, ?_⟩
  · intro b _ hx _
    exact Below.heap_setCell _ _ _ _ (fun he => hx (by rw [he]))
  · intro b _ ho
    exact (Own.same (Below.heap_setCell w ⟨bl, 0, none⟩ v b0 h) b).1 ho
theorem Strs.set {g o cap : Nat} {ls : List (List UInt8)} {w : World} (h : Strs g o cap ls w) {a : Addr} (ha : g ≠ a.block) (v : Value) : Strs g o cap ls (w.setCell a v) :=
  ⟨h.fits, h.max, by have := h.lt; simpa using this, fun j l hj => (World.cell?_of_block (w := w) (Below.heap_setCell w a v g ha) : (w.setCell a v).cell? ⟨g, o + j, Option.none⟩ = w.cell? ⟨g, o + j, Option.none⟩).trans (h.cell j l hj)⟩

/-- What the two stores leave: the item's lines in a new variable, what is behind it in the list's. -/
theorem two_set (b0 bl : Nat) (wr w1 : World) (v1 v2 x : Value) (hl : bl < wr.heap.size) (h0 : b0 < wr.heap.size) (n0 : b0 ≠ bl) (hx : wr.heap[bl]? = some (.cells #[x] 25 (0, 0))) (hb : Below (wr.heap.size + 1) (wr.alloc (.cells #[.slice none 0 0] 25)) w1) :
    let w2 := (w1.setCell ⟨wr.heap.size, 0, none⟩ v1).setCell ⟨bl, 0, none⟩ v2
    (∀ b, b < wr.heap.size → b ≠ bl → w2.heap[b]? = wr.heap[b]?) ∧ w2.heap[wr.heap.size]? = some (.cells #[v1] 25 (0, 0)) ∧ w2.heap[bl]? = some (.cells #[v2] 25 (0, 0)) ∧ w2.heap.size = w1.heap.size ∧ wr.heap.size + 1 ≤ w1.heap.size ∧ Kp b0 (some bl) wr.heap.size wr w2 ∧ (∀ b, Own b0 w2 b ↔ Own b0 wr b) := by
  intro w2
  have s1 := hb.size
  simp at s1
  have e1 : ∀ b, b < wr.heap.size → w1.heap[b]? = wr.heap[b]? := fun b hb' => (hb.block b (by omega)).trans (Below.heap_alloc wr _ b hb')
  have e2 : w1.heap[wr.heap.size]? = some (.cells #[.slice none 0 0] 25 (0, 0)) := (hb.block _ (by omega)).trans (heap_alloc_new wr _)
  have e3 : ∀ b, b < wr.heap.size → b ≠ bl → w2.heap[b]? = wr.heap[b]? := by
    intro b hb' hne
    show ((w1.setCell ⟨wr.heap.size, 0, none⟩ v1).setCell ⟨bl, 0, none⟩ v2).heap[b]? = _
    rw [Below.heap_setCell _ _ _ _ hne, Below.heap_setCell _ _ _ _ (by show b ≠ wr.heap.size; omega)]
    exact e1 b hb'
  have e4 : w2.heap[b0]? = wr.heap[b0]? := e3 b0 h0 n0
  refine ⟨e3, ?_, ?_, by show ((w1.setCell _ v1).setCell _ v2).heap.size = _; simp, by omega, ⟨?_, ?_, ?_, ?_, ?_, ?_⟩, fun b => Own.same e4 b⟩
  · show ((w1.setCell ⟨wr.heap.size, 0, none⟩ v1).setCell ⟨bl, 0, none⟩ v2).heap[wr.heap.size]? = _
    rw [Below.heap_setCell _ _ _ _ (by show wr.heap.size ≠ bl; omega)]
    exact one_setCell e2
  · refine one_setCell (v := x) ?_
    rw [Below.heap_setCell _ _ _ _ (by show bl ≠ wr.heap.size; omega)]
    exact (e1 bl hl).trans hx
  · exact hb.os
  · exact hb.tape
  · exact hb.output
  · show wr.heap.size ≤ ((w1.setCell _ v1).setCell _ v2).heap.size
    simp
    omega
  · intro b hb' hxx _
    exact e3 b hb' (fun he => hxx (by rw [he]))
  · intro b _ ho
    exact (Own.same e4 b).1 ho

set_option maxRecDepth 100000 in
set_option maxHeartbeats 2000000 in
theorem inList_any (f : List (List UInt8) → List Ev) (d : Int) (hd : 0 ≤ d ∧ d < 3) (hE : EachC (d + 1) f) (hfl : ∀ ls, (f ls).length ≤ 12 * ls.length) (b0 : Nat) (acc : List Ev) (g o cap bl bo bd : Nat) (ls : List (List UInt8)) (W : World) (hT : Told b0 acc W) (hlen : (acc.length : Int) + 16 * (ls.length : Int) + 4 * (4 - (d + 1)) + 2 ≤ 1099511627776) (hS : Strs g o cap ls W) (hO : ¬ Own b0 W g) (hM : tot ls ≤ 1073741824) (h0 : 0 < ls.length) (hI : itemL (ls[0]'h0) = true)
    (h1 : W.heap[bl]? = some (.cells #[.slice (some ⟨g, o, none⟩) ls.length cap] 25 (0, 0))) (h2 : W.heap[bd]? = some (.cells #[.int .i64 d] 3 (0, 0))) (h3 : W.heap[bo]? = some (.cells #[.func (.func 28) #[] #[.pointer (some ⟨b0, 0, none⟩)]] 52 (0, 0)))
    (o1 : ¬ Own b0 W bl) (o2 : ¬ Own b0 W bd) (o3 : ¬ Own b0 W bo) (n1 : g ≠ bl) :
    Calls Tryz.prog 59 #[.pointer (some ⟨bl, 0, none⟩), .pointer (some ⟨bo, 0, none⟩), .pointer (some ⟨bd, 0, none⟩)] W fun e w' => e = .returned (.tuple #[]) ∧ Told b0 (acc ++ (itemsAt f ls 0).1) w' ∧ Kp b0 (some bl) W.heap.size W w' ∧ ∃ v, w'.heap[bl]? = some (.cells #[v] 25 (0, 0)) ∧ RestV g (ls.drop (behindS ls (itemsAt f ls 0).2)) w' v := by
  have hmf : ∀ (fn : Fn) (first cap : Array Value) (w : World), (Instr.makeFunc fn first cap).run Tryz.prog w = .ok (.func fn first cap) w := fun _ _ _ _ => rfl
  have hd1 := hd.1
  have hd2 := hd.2
  have hbl := lt_of_block h1
  have hbd := lt_of_block h2
  have hbo := lt_of_block h3
  have hglt := hS.lt
  have hb0 := hT.lt
  have n2 : bd ≠ bl := fun h => by rw [h, h1] at h2; simp at h2
  have n3 : bo ≠ bl := fun h => by rw [h, h1] at h3; simp at h3
  have hll := tot_len ls
  have hSt0 : St f ls 0 [] := Or.inl ⟨h0, hI, rfl, rfl⟩
  have HE : Hid (EachC (d + 1) f) := hE
  have HFL : Hid (∀ ls, (f ls).length ≤ 12 * ls.length) := hfl
  have HM : Hid (tot ls ≤ 1073741824) := hM
  have HB2 : Hid (W.heap[bd]? = some (.cells #[.int .i64 d] 3 (0, 0)) ∧ W.heap[bo]? = some (.cells #[.func (.func 28) #[] #[.pointer (some ⟨b0, 0, none⟩)]] 52 (0, 0))) := ⟨h2, h3⟩
  have HO : Hid (¬ Own b0 W g ∧ ¬ Own b0 W bl ∧ ¬ Own b0 W bd ∧ ¬ Own b0 W bo) := ⟨hO, o1, o2, o3⟩
  obtain ⟨its, hits⟩ : ∃ its, (itemsAt f ls 0).1 = its := ⟨_, rfl⟩
  obtain ⟨dr, hdr⟩ : ∃ dr, ls.drop (behindS ls (itemsAt f ls 0).2) = dr := ⟨_, rfl⟩
  rw [hits, hdr]
  have HI : Hid ((itemsAt f ls 0).1 = its ∧ ls.drop (behindS ls (itemsAt f ls 0).2) = dr) := ⟨hits, hdr⟩
  clear hd hE hfl hM h2 h3 hO o1 o2 o3 hits hdr hI
  go_enter Tryz.func59, Tryz.ntmps59
  go_wp2
  go_loopg [3] ls.length (fun gk v3 wr => ∃ (k oo cc : Nat) (done : List Ev) (rs : List (List UInt8)), rs.length ≤ gk ∧ Hid (rs = ls.drop k) ∧ wr.heap[bl]? = some (.cells #[.slice (some ⟨g, oo, none⟩) rs.length cc] 25 (0, 0)) ∧ Hid (Strs g oo cc rs wr) ∧ Hid (Told b0 (acc ++ done) wr) ∧ Kp b0 (some bl) W.heap.size W wr ∧ Hid (St f ls k done) ∧ done.length ≤ 14 * k ∧ k + rs.length = ls.length)
  case atStart => exact ⟨0, o, cap, [], ls, Nat.le_refl _, (by show _ = _; rfl), h1, hS, (by show Told b0 (acc ++ []) W; rw [List.append_nil]; exact hT), Kp.refl _ _ _ _, hSt0, by simp, by omega⟩
  case round =>
    clear hSt0 h1 hS hT h0
    obtain ⟨k, oo, cc, done, rs, hgk, HR, hxl, HS, HT, hkp, HSt, hdl, hkl⟩ := hrel
    have hks := hkp.size
    have hcl := cell_of_one hxl
    have hfl' := free_of_one hxl
    have hfit := HS.out.fits
    have hmax := HS.out.max
    have hgw : g < wr.heap.size := by omega
    have hOw : ¬ Own b0 wr g ∧ ¬ Own b0 wr bl ∧ ¬ Own b0 wr bd ∧ ¬ Own b0 wr bo := ⟨hkp.off hglt HO.out.1, hkp.off hbl HO.out.2.1, hkp.off hbd HO.out.2.2.1, hkp.off hbo HO.out.2.2.2⟩
    have n0 : b0 ≠ bl := fun h => hOw.2.1 (Or.inl h.symm)
    have hxd : wr.heap[bd]? = some (.cells #[.int .i64 d] 3 (0, 0)) := (hkp.block bd hbd (by simpa using n2) HO.out.2.2.1).trans HB2.out.1
    have hxo : wr.heap[bo]? = some (.cells #[.func (.func 28) #[] #[.pointer (some ⟨b0, 0, none⟩)]] 52 (0, 0)) := (hkp.block bo hbo (by simpa using n3) HO.out.2.2.2).trans HB2.out.2
    have hfin : (∀ hk : k < ls.length, itemL ls[k] = false) → Hid (Told b0 (acc ++ its) wr ∧ ∃ v, wr.heap[bl]? = some (.cells #[v] 25 (0, 0)) ∧ RestV g dr wr v) := by
      intro hn
      obtain ⟨e1, e2⟩ := st_end f ls k done hn HSt.out
      have hrd : rs = dr := by rw [← HI.out.2, ← e2]; exact HR.out
      subst hrd
      exact ⟨by rw [← HI.out.1, ← e1]; exact HT.out, _, hxl, oo, cc, rfl, HS.out⟩
    cases rs with
    | nil =>
      have hF := hfin (fun hk => by rw [List.length_nil] at hkl; omega)
      clear hfin hOw
      go_wp2
      go_end0
      exact ⟨rfl, hF.out.1, hkp, hF.out.2⟩
    | cons l r =>
      obtain ⟨hlt, hlk, hdr⟩ := drop_facts HR.out
      have hcell := HS.out.cell 0 l rfl
      rw [Nat.add_zero] at hcell
      have hcI := fun W => ditem_any ⟨l.toArray⟩ W
      have hiv : itemS ⟨l.toArray⟩ = itemL l := rfl
      rw [hiv] at hcI
      rw [List.length_cons] at hgk hkl hfit hcl hxl
      cases hii : itemL l with
      | false =>
        have hF := hfin (fun hk => by rw [hlk]; exact hii)
        rw [hii] at hcI
        clear hfin hOw hii hiv
        go_wp2_with (go_at_call 52; refine (hcI _).mono ?_; rintro e w' ⟨rfl, hw⟩; rw [hw]; clear hw)
        go_end0
        exact ⟨rfl, hF.out.1, hkp, hF.out.2⟩
      | true =>
        obtain ⟨m, hm⟩ : ∃ m, (moreAt ls (k + 1)).2 = m := ⟨_, rfl⟩
        obtain ⟨q1, q2, q3, _⟩ := more_facts ls (k + 1) (by omega)
        rw [hm] at q1 q2 q3
        obtain ⟨sh1, sh2⟩ := item_shift ls k hlt
        rw [← HR.out, hm] at sh2
        rw [← HR.out] at sh1
        have hil := (item_small ls k hlt _ (tot_small (Nat.le_refl (tot ls)))).2
        rw [hm] at hil
        have hev : (itemEv f ls k).length = 2 + (f (itemIn ls k)).length := by simp [itemEv]; omega
        have hfi := HFL.out (itemIn ls k)
        have hti := Nat.le_trans (tot_item ls k hlt) HM.out
        have HSt2 : Hid (St f ls (behindS ls m) (done ++ itemEv f ls k)) := by
          have := st_step f ls k done hlt (by rw [hlk]; exact hii) HSt.out
          rw [hm] at this
          exact this
        have hci := ditems_at g oo cc l r (wr.alloc (.cells #[.slice none 0 0] 25)) (HS.out.below ((Below.refl _ wr).alloc (Nat.le_refl _) _) hgw) (by rw [HR.out]; exact Nat.le_trans (tot_drop ls k) HM.out) hii
        rw [sh1, sh2] at hci
        have htd := Nat.le_trans (tot_drop ls m) HM.out
        have hbm : behindS ls m = m + nb (ls.drop m) := nb_behind ls m
        have hnl := nb_le (ls.drop m)
        have hdm : (ls.drop m).length = ls.length - m := List.length_drop
        have HDD : Hid ((ls.drop m).drop (nb (ls.drop m)) = ls.drop (behindS ls m)) := by show _ = _; rw [List.drop_drop, hbm]
        have HEV : Hid (∀ x : List Ev, itemEv f ls k = x → True) := fun _ _ => trivial
        have HITE : Hid (acc ++ done ++ [⟨4, false, 0, []⟩] ++ f (itemIn ls k) ++ [evEnd ⟨4, false, 0, []⟩] = acc ++ (done ++ itemEv f ls k)) := by show _ = _; simp [itemEv, evEnd]
        clear HEV
        generalize itemEv f ls k = iev at hev HSt2 HITE
        generalize itemIn ls k = it at hci hil hfi hti hev HITE
        generalize ls.drop m = rs2 at hci htd hbm hnl hdm HDD
        have HTW : Hid (∀ w1 v1 v2, _) := fun w1 v1 v2 hb => two_set b0 bl wr w1 v1 v2 _ (by omega) (by omega) n0 hxl hb
        have HWI : Hid (∀ w1 gi ci o3 cap3, w1.ownsRow (wr.heap.size + 1) 9 1 (.slice (some ⟨gi, 0, none⟩) it.length ci) it.length (strCs it) → Below (wr.heap.size + 1) (wr.alloc (.cells #[.slice none 0 0] 25)) w1 →
            Calls Tryz.prog 57 #[.agg #[.int .i64 4, .bool false, .int .i64 0, .string ⟨#[]⟩], .func (.func 28) #[] #[.pointer (some ⟨b0, 0, none⟩)], .func (.func 61) #[] #[.pointer (some ⟨wr.heap.size, 0, none⟩), .pointer (some ⟨bd, 0, none⟩), .pointer (some ⟨bo, 0, none⟩)]] ((w1.setCell ⟨wr.heap.size, 0, none⟩ (.slice (some ⟨gi, 0, none⟩) it.length ci)).setCell ⟨bl, 0, none⟩ (.slice (some ⟨g, o3, none⟩) rs2.length cap3)) fun e w3 => e = .returned (.tuple #[]) ∧ Told b0 (acc ++ (done ++ iev)) w3 ∧ Kp b0 none w1.heap.size ((w1.setCell ⟨wr.heap.size, 0, none⟩ (.slice (some ⟨gi, 0, none⟩) it.length ci)).setCell ⟨bl, 0, none⟩ (.slice (some ⟨g, o3, none⟩) rs2.length cap3)) w3) := by
          intro w1 gi ci o3 cap3 own1 b1
          obtain ⟨y1, y2, y3, y4, y5, y6, y7⟩ := HTW.out w1 (.slice (some ⟨gi, 0, none⟩) it.length ci) (.slice (some ⟨g, o3, none⟩) rs2.length cap3) b1
          have hgi := own1.lt gi rfl
          have own2 := ownsRow_setCell_other (ownsRow_setCell_other own1 (a := ⟨wr.heap.size, 0, none⟩) (by show some gi ≠ some wr.heap.size; intro h; injection h with h; omega) (.slice (some ⟨gi, 0, none⟩) it.length ci)) (a := ⟨bl, 0, none⟩) (by show some gi ≠ some bl; intro h; injection h with h; omega) (.slice (some ⟨g, o3, none⟩) rs2.length cap3)
          generalize (w1.setCell ⟨wr.heap.size, 0, none⟩ (.slice (some ⟨gi, 0, none⟩) it.length ci)).setCell ⟨bl, 0, none⟩ (.slice (some ⟨g, o3, none⟩) rs2.length cap3) = w2 at *
          have hfresh : ∀ b, wr.heap.size ≤ b → ¬ Own b0 w2 b := fun b hb ho => by
            have := HT.out.own_lt ((y7 b).1 ho)
            omega
          have T2 : Told b0 (acc ++ done) w2 := HT.out.keep fun b ho => y1 b (HT.out.own_lt ho) (fun h => hOw.2.1 (h ▸ ho))
          refine (within_any b0 none (acc ++ done) (f it) ⟨4, false, 0, []⟩ 61 #[.pointer (some ⟨wr.heap.size, 0, none⟩), .pointer (some ⟨bd, 0, none⟩), .pointer (some ⟨bo, 0, none⟩)] w2 (fun _ => True) (enters_of Tryz.func61 (by kernel_rfl) rfl) T2 (by rw [List.length_append]; omega) (fun g' hg' => by cases hg') ?_ (fun _ _ _ _ => trivial)).mono ?_
          · intro W' hT' hK'
            refine (inItem_any f d ⟨hd1, hd2⟩ HE.out b0 (acc ++ done ++ [⟨4, false, 0, []⟩]) wr.heap.size bd bo (.slice (some ⟨gi, 0, none⟩) it.length ci) it W' hT' ?_ ?_ hti ?_ ?_ ?_ ?_).mono fun e w' h => ⟨h.1, h.2.1, h.2.2, trivial⟩
            · exact lines_own (own_kp own2 hK' (fun g' hg' => by cases hg'; exact hfresh gi (by omega)))
            · intro g' hg'
              cases hg'
              exact hK'.off (g := gi) (by omega) (hfresh gi (by omega))
            · simp only [List.length_append, List.length_singleton]
              omega
            · exact (hK'.block _ (by omega) (by simp) (hfresh _ (Nat.le_refl _))).trans y2
            · exact (hK'.block _ (by omega) (by simp) (fun ho => hOw.2.2.1 ((y7 bd).1 ho))).trans ((y1 bd (by omega) n2).trans hxd)
            · exact (hK'.block _ (by omega) (by simp) (fun ho => hOw.2.2.2 ((y7 bo).1 ho))).trans ((y1 bo (by omega) n3).trans hxo)
          · rintro e w' ⟨rfl, T, K, _⟩
            refine ⟨rfl, ?_, by rw [← y4]; exact K⟩
            rw [← HITE.out]
            exact T
        rw [hii] at hcI
        have hilA : it.length ≤ m - k ∧ m - k ≤ it.length := by omega
        have hdmA : rs2.length ≤ ls.length - m ∧ ls.length - m ≤ rs2.length := by omega
        have HBM : Hid (behindS ls m = m + nb rs2) := hbm
        have hevA : iev.length ≤ 2 + (f it).length := by omega
        clear hfin hiv hii hm sh1 sh2 HSt hil hdm hbm hev
        have n4 : ¬ bo = wr.heap.size := by omega
        have n5 : ¬ bl = wr.heap.size := by omega
        have n6 : ¬ wr.heap.size = bl := by omega
        have n7 : ¬ wr.heap.size = bo := by omega
        have hcla : (wr.alloc (.cells #[.slice none 0 0] 25)).cell? ⟨bl, 0, none⟩ = some (.slice (some ⟨g, oo, none⟩) (r.length + 1) cc) := (World.cell?_alloc_old wr _ ⟨bl, 0, none⟩ n5).trans hcl
        go_upto_region 4 with (first
          | (go_at_call 52; refine (hcI _).mono ?_; rintro e w' ⟨rfl, hw⟩; rw [hw]; clear hw)
          | (go_at_call 60; refine hci.mono ?_; rintro e w1 ⟨gi, ci, o3, cap3, rfl, own1, hs3, b1⟩; rw [World.size_alloc] at b1 own1; have e2 := (b1.block wr.heap.size (by omega)).trans (heap_alloc_new wr _); have f2 := free_of_one e2; have g2 := cell_of_one e2; have e3 := (b1.block bl (by omega)).trans ((Below.heap_alloc wr _ bl (by omega)).trans hxl); have f3 := free_of_one e3; have g3 := cell_of_one e3; have e4 := (b1.block bo (by omega)).trans ((Below.heap_alloc wr _ bo (by omega)).trans hxo); have g4 := cell_of_one e4)
          | (go_at_call 57; refine (HWI.out w1 gi ci o3 cap3 own1 b1).mono ?_; rintro e w3 ⟨rfl, T3, K3⟩))
        obtain ⟨y1, y2, y3, y4, y5, y6, y7⟩ := HTW.out w1 (.slice (some ⟨gi, 0, none⟩) it.length ci) (.slice (some ⟨g, o3, none⟩) rs2.length cap3) b1
        have hs2 : Strs g o3 cap3 rs2 ((w1.setCell ⟨wr.heap.size, 0, none⟩ (.slice (some ⟨gi, 0, none⟩) it.length ci)).setCell ⟨bl, 0, none⟩ (.slice (some ⟨g, o3, none⟩) rs2.length cap3)) := (hs3.set (by show g ≠ wr.heap.size; omega) _).set n1 _
        have hx3 := (K3.block bl (by omega) (by simp) (fun ho => hOw.2.1 ((y7 bl).1 ho))).trans y3
        have hsw := hs2.kept K3 (by omega) (by simp) (fun ho => hOw.1 ((y7 g).1 ho))
        have kp3 : Kp b0 (some bl) W.heap.size W w3 := hkp.trans ((y6.mono hks).trans ((K3.mono (by omega)).weak))
        have s3 := K3.size
        have s3' : wr.heap.size + 1 ≤ w3.heap.size := by omega
        have O3 : ¬ Own b0 w3 bl := K3.off (by omega) (fun ho => hOw.2.1 ((y7 bl).1 ho))
        have hc3 := cell_of_one hx3
        have hf3 := free_of_one hx3
        have hcN := fun W (h : Strs g o3 cap3 rs2 W) => dblanks_any g o3 cap3 rs2 W h htd
        have hfit3 := hsw.fits
        have hmax3 := hsw.max
        generalize nb rs2 = n at hcN hnl HDD HBM
        have HST : Hid (∀ w4, Below w3.heap.size w3 w4 → ∀ v o5 cap5, v = .slice (some ⟨g, o5, none⟩) (rs2.drop n).length cap5 → Strs g o5 cap5 (rs2.drop n) w3 → (w4.setCell ⟨bl, 0, none⟩ v).heap[bl]? = some (.cells #[v] 25 (0, 0)) ∧ Strs g o5 cap5 (rs2.drop n) (w4.setCell ⟨bl, 0, none⟩ v) ∧ Told b0 (acc ++ (done ++ iev)) (w4.setCell ⟨bl, 0, none⟩ v) ∧ Kp b0 (some bl) W.heap.size W (w4.setCell ⟨bl, 0, none⟩ v)) := by
          intro w4 b4 v o5 cap5 hv hs5
          have o4 : ¬ Own b0 w4 bl := fun ho => O3 ((Own.same (b4.block b0 (by omega)) bl).1 ho)
          refine ⟨one_setCell ((b4.block bl (by omega)).trans hx3), (hs5.below b4 (by omega)).set n1 _, (T3.below b4).set o4 _, kp3.trans ((Kp.below (b4.mono (by omega)) hb0).trans (Kp.setx w4 v n0))⟩
        have HR5 : Hid (RestV g (rs2.drop n) w3 (.slice (some ⟨g, o3 + n, none⟩) (rs2.length - n) (cap3 - n))) := rest_at hsw n hnl
        have HR6 : Hid (cap3 ≤ n → RestV g (rs2.drop n) w3 (.slice (some ⟨g, o3, none⟩) (rs2.length - n) 0)) := fun hc => rest_no hsw n hnl hc
        have hnd : (rs2.drop n).length ≤ rs2.length - n ∧ rs2.length - n ≤ (rs2.drop n).length := by rw [List.length_drop]; omega
        generalize hrs3 : rs2.drop n = rs3 at HST HR5 HR6 HDD hnd
        clear y1 y2 y3 y4 y5 y6 y7 K3 hs2 own1 b1 HTW HWI hcI hci hrs3 hs3
        have HV : Hid (∃ o5 cap5, Value.slice (if cap3 = n then some ⟨g, o3, none⟩ else some ⟨g, o3 + n, none⟩) (rs2.length - n) (cap3 - n) = .slice (some ⟨g, o5, none⟩) rs3.length cap5 ∧ Strs g o5 cap5 rs3 w3) := by
          by_cases hcn : cap3 = n
          · obtain ⟨o5, cap5, he, hs5⟩ := HR6.out (by omega)
            refine ⟨o5, cap5, ?_, hs5⟩
            rw [if_pos hcn, hcn, Nat.sub_self]
            exact he
          · obtain ⟨o5, cap5, he, hs5⟩ := HR5.out
            refine ⟨o5, cap5, ?_, hs5⟩
            rw [if_neg hcn]
            exact he
        have hswd : Strs g o3 cap3 rs2 w3.drew := ⟨hsw.fits, hsw.max, hsw.lt, hsw.cell⟩
        go_region_law (first | (go_simp; go_at_call 62; refine (hcN _ hswd).mono ?_; rintro e w4 ⟨rfl, b4⟩; have b5 : Below w3.heap.size w3 w4 := (Below.refl _ w3).drew.trans b4; have hx4 := (b5.block bl (by omega)).trans hx3; have hc4 := cell_of_one hx4; have hf4 := free_of_one hx4; simp only []))
        all_goals
          obtain ⟨o5, cap5, hv, hs5⟩ := HV.out
          obtain ⟨z1, z2, z3, z4⟩ := HST.out w4 b5 _ o5 cap5 rfl hs5
          rw [hv]
          have hbm := HBM.out
          have hd14 : (done ++ iev).length ≤ 14 * behindS ls m := by rw [List.length_append]; omega
          have hk14 : behindS ls m + rs3.length = ls.length := by omega
          go_wp2
          go_roundg rs3.length
          case measure => omega
          case rel => exact ⟨behindS ls m, o5, cap5, done ++ iev, rs3, Nat.le_refl _, HDD, z1, z2, z3, z4, HSt2, hd14, hk14⟩

end Go.Proofs.YtkabhbbhliffcaaGreatDoor
