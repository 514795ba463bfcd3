import Derived.Test.YtljcljipppjnoaaGreatDoorJP24
import Derived.Deep.LoopGhost
import Derived.Laws.EntriesVeiled
namespace Go.Proofs.YtljcljipppjnoaaGreatDoor
open Go.RowKit Go.Shelf

theorem glue_behind (A acc m : List Ev) (hL : lastOk A) : glue (A ++ acc) m = A ++ glue acc m := by
  unfold glue
  split
  · next e =>
    split
    · exact add_behind A acc e.text (Or.inr hL)
    · rw [List.append_assoc]
  · rw [List.append_assoc]
theorem inl_text (l : List UInt8) (ins : Bool) : ∀ e ∈ inlineS l ins, e.text.length ≤ l.length := (inlF_facts (l.length + 1)).2 l ins

set_option maxRecDepth 100000 in
set_option maxHeartbeats 4000000 in
theorem part_next (q : Tl) (m : Int) (N : Nat) (hC : PartC q m N) : PartC q m (N + 1) := by
  intro s ins A W hN hs hT hM hL hlen hx
  have hb0 := hT.b0lt
  obtain ⟨R, hR⟩ : ∃ R, inlineS s.data.toList ins = R := ⟨_, rfl⟩
  have H0 : Hid (inlFrom inlineS s.data.toList ins 0 [] = R) := by show _ = _; rw [← hR, inl_eq]
  rw [hR]
  have HC : Hid (PartC q m N) := hC
  have HL : Hid (lastOk A) := hL
  have HM : Hid (ML q m W) := hM
  have HTW : Hid (Tell q A W) := hT
  have HX : Hid (∀ e ∈ A ++ [], e.text.length + s.size ≤ 1099511627776) := by rw [List.append_nil]; exact hx
  clear hC hL hM hT hx hR
  go_enter Tryz.func124, Tryz.ntmps124
  go_wp2
  go_loopg [0] s.size (fun gk v0 wr => ∃ (r : ByteArray) (acc : List Ev), v0 = .string r ∧ r.size ≤ gk ∧ r.size ≤ s.size ∧ Hid (Tell q (A ++ acc) wr ∧ Kl q W wr) ∧ Hid (inlFrom inlineS r.data.toList ins 0 acc = R) ∧ (A ++ acc).length + 2 * r.size ≤ 1099511627776 ∧ Hid (∀ e ∈ A ++ acc, e.text.length + r.size ≤ 1099511627776))
  case atStart => exact ⟨s, [], rfl, Nat.le_refl _, Nat.le_refl _, ⟨by rw [List.append_nil]; exact HTW.out, Kl.refl _ _⟩, H0, by rw [List.append_nil]; exact hlen, HX⟩
  case round =>
    clear H0 HX
    obtain ⟨r, acc, rfl, hrg, hrs, HT, HJ, hal, HX⟩ := hrel
    by_cases hr0 : r.size = 0
    · have hnil : r.data.toList = [] := by rw [← List.length_eq_zero_iff, ba_len, hr0]
      have hem : r.toList.isEmpty = true := by rw [Lib.toList_data, hnil]; rfl
      have HF : Hid (acc = R) := by show _ = _; rw [← HJ.out, hnil, inl_end]
      clear hnil HJ HX
      go_wp2
      go_end0
      rw [← HF.out]
      exact ⟨rfl, HT.out.1, HT.out.2⟩
    · have hne : r.data.toList ≠ [] := fun h => hr0 (by rw [← ba_len, h]; rfl)
      have hem : r.toList.isEmpty = false := by
        rw [Lib.toList_data]
        cases h : r.data.toList with
        | nil => exact absurd h hne
        | cons a b => rfl
      obtain ⟨X, hX⟩ : ∃ X, ftS inlineS r.data.toList ins = X := ⟨_, rfl⟩
      have c1 := first_any q m N HC.out (A ++ acc) r ins wr HT.out.1 (HM.out.keep HTW.out HT.out.2) (by omega) (by omega) (by omega) hal HX.out X hX
      obtain ⟨f1, f2, f3, f4⟩ := ft_facts inlineS inl_len inl_text r.data.toList hne ins
      have hst := ft_eq inlineS r.data.toList hne ins acc
      rw [hX] at f1 f2 f3 f4 hst
      rw [ba_len] at f2
      have hgl := glue_len (A ++ acc) X.1
      have hgt := glue_text (A ++ acc) X.1 (1099511627776 - r.size) X.2 (fun e he => by have := HX.out e he; omega) f4
      rw [glue_behind A acc X.1 HL.out] at c1 hgl hgt
      have hz : (r.extract X.2 r.size).size = r.size - X.2 := by rw [ByteArray.size_extract]; omega
      have HJ2 : Hid (inlFrom inlineS (r.extract X.2 r.size).data.toList ins 0 (glue acc X.1) = R) := by
        show _ = _
        rw [drop_data, ← hst]
        exact HJ.out
      have hxa : A.length + acc.length + 2 * r.size ≤ 1099511627776 := by rw [List.length_append] at hal; omega
      have hal2 : (A ++ glue acc X.1).length + 2 * (r.size - X.2) ≤ 1099511627776 := by
        rw [List.length_append] at hgl hal
        rw [List.length_append] at hgl ⊢
        omega
      have HX2 : Hid (∀ e ∈ A ++ glue acc X.1, e.text.length + (r.size - X.2) ≤ 1099511627776) := fun e he => by
        have := hgt e he
        omega
      rw [← hz] at hal2 HX2
      have hrz : (r.extract X.2 r.size).size ≤ r.size - 1 := by omega
      have HK : Hid (Kl q W wr) := HT.out.2
      generalize glue acc X.1 = acc2 at c1 HJ2 hal2 HX2
      generalize X.2 = n at c1 HJ2 hal2 HX2 hrz f1 f2
      clear hgl hgt hst f3 f4 hX hne HJ HX HT hz hal
      obtain ⟨g, rfl⟩ : ∃ g, gk = g + 1 := ⟨gk - 1, by omega⟩
      go_wp2_with (go_at_call 143; refine c1.mono ?_; rintro e w1 ⟨rfl, T1, K1⟩)
      go_roundg g
      case measure => omega
      case rel => exact ⟨_, acc2, rfl, by omega, by omega, ⟨T1, HK.out.trans K1⟩, HJ2, hal2, HX2⟩

theorem part_any (q : Tl) (m : Int) (N : Nat) : PartC q m N := by
  induction N with
  | zero => exact fun s ins A W h => absurd h (Nat.not_lt_zero _)
  | succ N ih => exact part_next q m N ih

theorem lay3 (W : World) (x y z : Obj) : (((W.alloc x).alloc y).alloc z).heap[W.heap.size]? = some x ∧ (((W.alloc x).alloc y).alloc z).heap[W.heap.size + 1]? = some y ∧ (((W.alloc x).alloc y).alloc z).heap[W.heap.size + 1 + 1]? = some z ∧ Below W.heap.size W (((W.alloc x).alloc y).alloc z) := by
  have e1 : (W.alloc x).heap.size = W.heap.size + 1 := by simp
  have e2 : ((W.alloc x).alloc y).heap.size = W.heap.size + 1 + 1 := by simp
  refine ⟨?_, ?_, ?_, ?_⟩
  · exact heap_al _ _ (by omega) (heap_al _ _ (by omega) (heap_alloc_new W x))
  · refine heap_al _ _ (by omega) ?_
    have := heap_alloc_new (W.alloc x) y
    rw [e1] at this
    exact this
  · have := heap_alloc_new ((W.alloc x).alloc y) z
    rw [e2] at this
    exact this
  · exact (((Below.refl _ W).alloc (Nat.le_refl _) _).alloc (by omega) _).alloc (by omega) _

set_option maxRecDepth 100000 in
set_option maxHeartbeats 4000000 in
theorem joined_any (kd : Nat) (hD : DoC kd) (b0 : Nat) (W : World) (hT : Told b0 [] W) :
    Calls Tryz.prog 123 #[.func (.func kd) #[] #[.pointer (some ⟨b0, 0, none⟩)]] W fun e w' => ∃ q : Tl, q.kd = kd ∧ q.b0 = b0 ∧ W.heap.size ≤ q.bT ∧ e = .returned (.tuple #[.func (.func 142) #[] #[.pointer (some ⟨q.bT, 0, none⟩), .pointer (some ⟨q.bE, 0, none⟩), .pointer (some ⟨q.bD, 0, none⟩)], .func (.func 140) #[] #[.pointer (some ⟨q.bT, 0, none⟩), .pointer (some ⟨q.bD, 0, none⟩)]]) ∧ Tell q [] w' ∧ Below W.heap.size W w' := by
  have hmf : ∀ (fn : Fn) (first cap : Array Value) (w : World), (Instr.makeFunc fn first cap).run Tryz.prog w = .ok (.func fn first cap) w := fun _ _ _ _ => rfl
  have hb0 := hT.lt
  obtain ⟨n0, n1, n2, m3⟩ := lay3 W (.cells #[.func (.func kd) #[] #[.pointer (some ⟨b0, 0, none⟩)]] 116) (.cells #[.nilFunc] 1) (.cells #[.pointer none, .slice none 0 0] 191)
  have cN := cell_of_one n1
  have fN := free_of_one n1
  obtain ⟨y0, y1, y2, b3⟩ := lay3 W (.cells #[.func (.func kd) #[] #[.pointer (some ⟨b0, 0, none⟩)]] 116) (.cells #[.func (.func 140) #[] #[.pointer (some ⟨W.heap.size + 1 + 1, 0, none⟩), .pointer (some ⟨W.heap.size, 0, none⟩)]] 1) (.cells #[.pointer none, .slice none 0 0] 191)
  have cE := cell_of_one y1
  have fE := free_of_one y1
  have H1 : Hid (Tell ⟨kd, b0, W.heap.size + 1 + 1, W.heap.size + 1, W.heap.size⟩ [] (((W.alloc (.cells #[.func (.func kd) #[] #[.pointer (some ⟨b0, 0, none⟩)]] 116)).alloc (.cells #[.func (.func 140) #[] #[.pointer (some ⟨W.heap.size + 1 + 1, 0, none⟩), .pointer (some ⟨W.heap.size, 0, none⟩)]] 1)).alloc (.cells #[.pointer none, .slice none 0 0] 191))) :=
    ⟨⟨[], [], by simp [textS], last_nil, hT.below b3, Or.inl ⟨Nat.le_refl _, _, y2, ⟨rfl, Or.inl ⟨rfl, rfl⟩⟩, by intro h; cases h⟩⟩, by show b0 < W.heap.size + 1 + 1; omega, y1, y0, hD⟩
  have H2 : Hid (Below W.heap.size W (((W.alloc (.cells #[.func (.func kd) #[] #[.pointer (some ⟨b0, 0, none⟩)]] 116)).alloc (.cells #[.func (.func 140) #[] #[.pointer (some ⟨W.heap.size + 1 + 1, 0, none⟩), .pointer (some ⟨W.heap.size, 0, none⟩)]] 1)).alloc (.cells #[.pointer none, .slice none 0 0] 191))) := b3
  clear hT hD y0 y1 y2 b3 hb0 n0 n1 n2 m3
  go_enter Tryz.func123, Tryz.ntmps123
  go_wp2
  go_region
  go_wp2
  exact bodyPost_ret (v := .tuple #[.func (.func 142) #[] #[.pointer (some ⟨W.heap.size + 1 + 1, 0, none⟩), .pointer (some ⟨W.heap.size + 1, 0, none⟩), .pointer (some ⟨W.heap.size, 0, none⟩)], .func (.func 140) #[] #[.pointer (some ⟨W.heap.size + 1 + 1, 0, none⟩), .pointer (some ⟨W.heap.size, 0, none⟩)]]) (by simp [results, Tryz.results123, go_sem, cE]) rfl ⟨⟨kd, b0, W.heap.size + 1 + 1, W.heap.size + 1, W.heap.size⟩, rfl, rfl, by show W.heap.size ≤ W.heap.size + 1 + 1; omega, rfl, H1.out.below ((Below.refl _ _).drew), H2.out.drew⟩

set_option maxRecDepth 100000 in
set_option maxHeartbeats 4000000 in
/-- What the program tells of a leaf. -/
theorem leaves_any (kd : Nat) (hD : DoC kd) (m : Int) (b0 : Nat) (t : List UInt8) (W : World) (hT : Told b0 [] W) (ht : t.length ≤ 16777216) (hg : 6 < b0) (hm : W.cell? ⟨6, 0, none⟩ = some (.int .i64 m)) :
    Calls Tryz.prog 99 #[.string ⟨t.toArray⟩, .func (.func kd) #[] #[.pointer (some ⟨b0, 0, none⟩)]] W fun e w' => e = .returned (.tuple #[]) ∧ Told b0 (inlineS t false) w' ∧ Kp b0 none W.heap.size W w' := by
  have hb0 := hT.lt
  have c1 := joined_any kd hD b0 W hT
  have hz := size_of t
  have e1 : (⟨t.toArray⟩ : ByteArray).data.toList = t := rfl
  have hil := inl_len t false
  have HP : Hid (∀ q w1, q.b0 = b0 → W.heap.size ≤ q.bT → Tell q [] w1 → Below W.heap.size W w1 → Calls Tryz.prog 124 #[.string ⟨t.toArray⟩, .bool false, .func (.func 142) #[] #[.pointer (some ⟨q.bT, 0, none⟩), .pointer (some ⟨q.bE, 0, none⟩), .pointer (some ⟨q.bD, 0, none⟩)]] w1 fun e w' => e = .returned (.tuple #[]) ∧ Tell q (inlineS t false) w' ∧ Kp b0 none W.heap.size W w') := by
    intro q w1 hq hbT hT1 b1
    have hM1 : ML q m w1 := ⟨by rw [hq]; exact hg, (b1.cell (p := ⟨6, 0, none⟩) (by show 6 < W.heap.size; omega)).trans hm⟩
    have h := part_any q m ((⟨t.toArray⟩ : ByteArray).size + 1) ⟨t.toArray⟩ false [] w1 (Nat.lt_succ_self _) (by omega) hT1 hM1 last_nil (by simp; omega) (fun e he => by cases he)
    rw [e1, List.nil_append] at h
    refine h.mono ?_
    rintro e w2 ⟨rfl, T2, K2⟩
    refine ⟨rfl, T2, (Kp.below b1 hb0).trans ⟨K2.os, K2.tape, K2.output, K2.size, fun b hb _ ho => ?_, fun b hb ho => ?_⟩⟩
    · rw [← hq] at ho
      exact K2.block b (Nat.lt_of_lt_of_le hb b1.size) (Or.inl (by omega)) ho
    · rw [← hq] at ho ⊢
      exact K2.own b (Nat.lt_of_lt_of_le hb b1.size) ho
  have HE : Hid (∀ q w2, q.b0 = b0 → W.heap.size ≤ q.bT → Tell q (inlineS t false) w2 → Kp b0 none W.heap.size W w2 → Calls Tryz.prog 140 #[.pointer (some ⟨q.bT, 0, none⟩), .pointer (some ⟨q.bD, 0, none⟩)] w2 fun e w' => e = .returned (.tuple #[]) ∧ Told b0 (inlineS t false) w' ∧ Kp b0 none W.heap.size W w') := by
    intro q w2 hq hbT hT2 hK2
    obtain ⟨p, o, ha, _, hTo, hH⟩ := hT2.st
    have hol : o.length ≤ (inlineS t false).length := by rw [ha]; simp
    refine (end_any q hT2.dc p o w2 hTo hH hT2.lt hT2.d (by omega)).mono ?_
    rintro e w3 ⟨rfl, T3, _, K3⟩
    rw [← ha, hq] at T3
    refine ⟨rfl, T3, hK2.trans ⟨K3.os, K3.tape, K3.output, K3.size, fun b hb _ ho => ?_, fun b hb ho => ?_⟩⟩
    · rw [← hq] at ho
      exact K3.block b (Nat.lt_of_lt_of_le hb hK2.size) (Or.inl (by omega)) ho
    · rw [← hq] at ho ⊢
      exact K3.own b (Nat.lt_of_lt_of_le hb hK2.size) ho
  generalize inlineS t false = R at HP HE ⊢
  clear hT hm e1 hil hg hD
  have ek1 : ∀ args w, (callFunc 140 args).run Tryz.prog w = .ok (.enter 140 args) w := enters_of Tryz.func140 (by kernel_rfl) rfl
  go_enter Tryz.func99, Tryz.ntmps99
  go_wp2_with (first
    | (go_at_call 123; refine c1.mono ?_; rintro e w1 ⟨q, hqk, hq, hbT, rfl, T1, b1⟩)
    | (go_at_call 124; refine (HP.out q w1 hq hbT T1 b1).mono ?_; rintro e w2 ⟨rfl, T2, K2⟩)
    | (go_at_call 140; refine (HE.out q w2 hq hbT T2 K2).mono ?_; rintro e w3 ⟨rfl, T3, K3⟩))
  go_end0
  exact ⟨rfl, T3, K3⟩

theorem leaves_each (m : Int) : ListsC 99 (fun t => inlineS t false) 6 m :=
  fun b0 t W hT ht hg hm => leaves_any 82 do_listed m b0 t W hT ht hg hm

/-- The document's events of a leaf. -/
def docIn (s : ByteArray) : List Ev := inlineS (reg s) false

set_option maxRecDepth 100000 in
set_option maxHeartbeats 1000000 in
/-- The program's answer. -/
theorem dInline_any (s : ByteArray) (m : Int) (W : World) (hs : s.size ≤ 1048576) (hm : W.cell? ⟨6, 0, none⟩ = some (.int .i64 m)) :
    Calls Tryz.prog 78 #[.string s] W fun e w' => ∃ v, e = .returned v ∧ w'.ownsRow W.heap.size 92 4 v (docIn s).length (evCs (docIn s)) ∧ Below W.heap.size W w' := by
  have hc : Calls Tryz.prog 58 #[.string s, .func (.func 99) #[] #[]] W fun e w' => ∃ v, e = .returned v ∧ w'.ownsRow W.heap.size 92 4 v (docIn s).length (evCs (docIn s)) ∧ Below W.heap.size W w' :=
    listed_any 99 (enters_of Tryz.func99 (by kernel_rfl) rfl) (fun t => inlineS t false) 6 m (leaves_each m) s W hs hm
  generalize docIn s = bs at hc ⊢
  go_enter Tryz.func78, Tryz.ntmps78
  go_wp2_with (go_at_call 58; refine hc.mono ?_; rintro e w3 ⟨v, rfl, hown, hb⟩)
  go_ret
  exact ⟨v, rfl, hown, hb⟩

end Go.Proofs.YtljcljipppjnoaaGreatDoor
